/-
  Fields of bits: the program's List.
-/
import Derived.Test.YtbeaohnjifcgaaaDoorCg
import Derived.Test.YtbeaohnjifcgaaaDoorBf
import Derived.Test.YtbeaohnjifcgaaaDoorRs
namespace Go.Proofs.YtbeaohnjifcgaaaDoor.Bh
open Go Go.RowKit Go.Shelf Go.Proofs.YtbeaohnjifcgaaaDoor.Sx Go.Proofs.YtbeaohnjifcgaaaDoor.Na Go.Proofs.YtbeaohnjifcgaaaDoor.Ba
attribute [local go_sem] Oper.semAt_some

theorem row_ne {W : World} {base size k B : Nat} {e : TypeId} {v : Value} {xs : List Value} (h : W.ownsRow base e size v k xs) (hb : B < base) : some B ≠ v.ownBlock := by
  rcases h.2 with ⟨rfl, _⟩ | ⟨g, cap, cur, rfl, hg, _⟩
  · simp [Value.ownBlock]
  · simp [Value.ownBlock]; omega
theorem row_weak {W : World} {base base' size k : Nat} {e : TypeId} {v : Value} {xs : List Value} (h : W.ownsRow base e size v k xs) (hb : base' ≤ base) : W.ownsRow base' e size v k xs := by
  obtain ⟨h1, h2 | ⟨g, cap, cur, e, hg, r⟩⟩ := h
  · exact ⟨h1, .inl h2⟩
  · exact ⟨h1, .inr ⟨g, cap, cur, e, Nat.le_trans hb hg, r⟩⟩
/-- while List collects: the number of bits and the text lie in their boxes; the list's box holds the numbers below k that are set -/
def JL (bl : Nat) (w : World) (N : Nat) (s : ByteArray) (k : Nat) (W : World) : Prop :=
  Below bl w W ∧ Boxed W (bl + 1) 3 (.int .i64 (N : Int)) ∧ Boxed W (bl + 1 + 1) 9 (.string s) ∧ ∃ v, Boxed W bl 38 v ∧ Or.OR W (bl + 3) v (nbl (bt s) k)
theorem own_JL {bl N : Nat} {w : World} {s : ByteArray} (hn : bl ≤ w.heap.size) (B : Nat) (hB : bl ≤ B) : OwnFrom B (JL bl w N s) := by
  intro x W W' row ⟨h1, h2, h3, h4⟩ hg hr
  have hr2 : ∀ r, row = some r → ∃ o : Obj, W.heap[r]? = some o ∧ o.isCells = false := fun r e => (hr r e).2
  refine ⟨h1.grown hg (Nat.le_trans hn h1.size) (fun r e => Nat.le_trans hB (hr r e).1), own_boxed _ _ _ () W W' row h2 hg hr2, own_boxed _ _ _ () W W' row h3 hg hr2, ?_⟩
  obtain ⟨v, e1, e2, _⟩ := holdsRow_own (bl + 3) bl 38 3 1 (fun (_ : Unit) => (nbl (bt s) x).length) (fun _ => Or.cI (nbl (bt s) x)) (fun _ _ => True) () W W' row (by obtain ⟨v, e1, e2⟩ := h4; exact ⟨v, e1, e2, trivial⟩) hg hr2
  exact ⟨v, e1, e2⟩
section
variable {w W : World} {bl N x : Nat} {s : ByteArray} {l' : List Int}
/-- one more number -/
theorem JL_push {v v' : Value} {w1 : World} {n : Nat} {tmp : Obj} (hbw : bl ≤ w.heap.size) (hbe : Below bl w W) (hpn : Boxed W (bl + 1) 3 (.int .i64 (N : Int))) (hps : Boxed W (bl + 1 + 1) 9 (.string s))
    (hbox : Boxed W bl 38 v) (hown : W.ownsRow (bl + 3) 3 1 v n (Or.cI l')) (hL : l'.length = n) (hrs : nbl (bt s) (x + 1) = l' ++ [(x : Int)])
    (hown' : w1.ownsRow (bl + 3) 3 1 v' (n + 1) (Or.cI l' ++ [.int .i64 (x : Int)])) (hgrow : (W.alloc tmp).grownBy w1 v.ownBlock) :
    Boxed w1 bl 38 v ∧ KeepsOthers W (w1.setCell ⟨bl, 0, none⟩ v') ∧ JL bl w N s (x + 1) (w1.setCell ⟨bl, 0, none⟩ v') := by
  have hsz : bl ≤ W.heap.size := Nat.le_trans hbw hbe.size
  obtain ⟨b1, b2, _, b4, b5⟩ := Boxed.appended hbox (by decide) (row_weak hown (show bl ≤ bl + 3 by omega)) hsz (Nat.le_refl _) (row_weak hown' (show bl ≤ bl + 3 by omega)) hgrow
  have q2 : Boxed (w1.setCell ⟨bl, 0, none⟩ v') (bl + 1) 3 (.int .i64 (N : Int)) := ((hpn.alloc tmp).kept hgrow (row_ne hown (by omega))).kept (grownBy_setCell' w1 bl v') (by simp)
  have q3 : Boxed (w1.setCell ⟨bl, 0, none⟩ v') (bl + 1 + 1) 9 (.string s) := ((hps.alloc tmp).kept hgrow (row_ne hown (by omega))).kept (grownBy_setCell' w1 bl v') (by simp; omega)
  refine ⟨b1, b4, hbe.trans b5, q2, q3, v', b2, ?_⟩
  have b3 := hown'.kept (grownBy_setCell' w1 bl v') (.inr (row_ne hown' (by omega)).symm)
  unfold Or.OR
  rw [hrs, List.length_append, hL, Or.cI_snoc]
  exact b3
end

set_option maxRecDepth 1000000 in
set_option maxHeartbeats 4000000 in
theorem List0_any (n : Int) (s : ByteArray) (c cs : Nat) (w : World) (hs : s.size ≤ 140737488351232) (hc : w.cell? ⟨c, 0, none⟩ = some (.int .i64 n)) (hcs : w.cell? ⟨cs, 0, none⟩ = some (.string s)) (h : chk n s = 0) :
    Calls Tryd.prog 83 #[.pointer (some ⟨c, 0, none⟩), .pointer (some ⟨cs, 0, none⟩)] w fun e w' => ∃ a len cap, e = .returned (.slice a len cap) ∧ Or.OR w' w.heap.size (.slice a len cap) (liL n s) ∧ w.grownBy w' none := by
  obtain ⟨i0, hi, hz0, hz1, hz2⟩ := info_parts Or.int_info
  rw [show liL n s = nbl (bt s) n.toNat from if_pos h]
  have HA := Lib.hid (askField_ok n s w hs h)
  obtain ⟨N, rfl, h1, h2, h3⟩ := vd_t (chk_t h)
  rw [Int.toNat_natCast]
  have hs6 : s.size ≤ 600 := by omega
  have hN8 : N ≤ 8 * s.size := by omega
  have HC := Lib.hid hc
  have HCS := Lib.hid hcs
  clear h h2 h3 hs hc hcs
  refine (callsIn_wide (n := 6)).1 ?_
  refine callsIn_of_wp_marks Tryd.func83 rfl trivial ?_ rfl
  simp only [Tryd.ntmps83, List.size_toArray, List.length_cons, List.length_nil, Nat.reduceAdd, Nat.reduceSub, Array.replicate_succ, Array.replicate_zero, List.push_toArray, List.append_toArray, List.nil_append, List.cons_append]
  have k0 := HC.out
  have k1 := HCS.out
  gi_wp2_with fail
  refine ⟨trivial, ?_⟩
  refine (callsIn_wide.2 HA.out).mono ?_
  rintro e w1 ⟨rfl, hg⟩
  have k0 := gb_cell hg HC.out (by simp)
  have k1 := gb_cell hg HCS.out (by simp)
  have k0' := gb_cell (gb_alloc w1 (.cells #[.slice none 0 0] 38) none) k0 (by simp)
  have k1' := gb_cell (gb_alloc w1 (.cells #[.slice none 0 0] 38) none) k1 (by simp)
  have HG := Lib.hid hg
  clear hg
  gi_wp2_with fail
  refine ⟨trivial, ?_⟩
  refine (set_in _ N s _).mono ?_
  rintro e w2 ⟨rfl, rfl⟩
  gi_wp2_with fail
  obtain ⟨W0, hW0⟩ : ∃ W0, ((w1.alloc (.cells #[.slice none 0 0] 38)).alloc (.cells #[.int .i64 (N : Int)] 3)).alloc (.cells #[.string s] 9) = W0 := ⟨_, rfl⟩
  have hsz : W0.heap.size = w1.heap.size + 3 := by rw [← hW0]; simp
  have hJ0 : JL w1.heap.size w1 N s 0 W0 := by
    rw [← hW0]
    have s1 : (w1.alloc (.cells #[.slice none 0 0] 38)).heap.size = w1.heap.size + 1 := by simp
    have s2 : ((w1.alloc (.cells #[.slice none 0 0] 38)).alloc (.cells #[.int .i64 (N : Int)] 3)).heap.size = w1.heap.size + 1 + 1 := by simp
    refine ⟨((((Below.refl _ _).alloc (Nat.le_refl _) _).alloc (by simp) _).alloc (by simp; omega) _), Boxed.alloc (by rw [← s1]; exact Boxed.new _ _ _) _, by rw [← s2]; exact Boxed.new _ _ _, .slice none 0 0, ((Boxed.new w1 _ _).alloc _).alloc _, Or.OR.nil_ _ _⟩
  rw [hW0]
  clear hW0
  obtain ⟨bl, hbl⟩ : ∃ bl, w1.heap.size = bl := ⟨_, rfl⟩
  have HBL := Lib.hid hbl
  rw [hbl] at hJ0 hsz ⊢
  have hbw : bl ≤ w1.heap.size := by omega
  have HBW := Lib.hid hbw
  clear hbl hbw k0 k1 k0' k1'
  refine range_set (by omega) rfl rfl hN8 hs6 (JL bl w1 N s) (fun _ _ => False) (own_JL HBW.out _ (by omega)) (fun _ _ _ _ h _ _ => h)
    (fun i W h => ⟨h.2.1.cell, h.2.2.1.cell⟩) (fun i W _ hb ⟨h1, h2, h3, v, h4, h5⟩ => ⟨h1, h2, h3, v, h4, by rw [nbl_f hb]; exact h5⟩) hJ0
    (fun x => { tmps := #[.pointer (some ⟨c, 0, none⟩), .pointer (some ⟨cs, 0, none⟩), .slice none 0 0, .pointer (some ⟨bl, 0, none⟩), .int .i64 (x : Int), .int .i64 (N : Int), .string s, .tuple #[], .int .i64 (N : Int), .string s, .func (.func 106) #[] #[.pointer (some ⟨bl + 1, 0, none⟩), .pointer (some ⟨bl + 1 + 1, 0, none⟩)], .int .i64 (x : Int), undef, undef, undef, undef, undef], defers := [] }) ?_ ?_ ?_ ?_
  · intro lp x W K hK
    rw [Rf.zip1]
    change Code.wpIn _ _ _ _ _ { tmps := #[.pointer (some ⟨c, 0, none⟩), .pointer (some ⟨cs, 0, none⟩), .slice none 0 0, .pointer (some ⟨bl, 0, none⟩), undef, .int .i64 (N : Int), .string s, .tuple #[], .int .i64 (N : Int), .string s, .func (.func 106) #[] #[.pointer (some ⟨bl + 1, 0, none⟩), .pointer (some ⟨bl + 1 + 1, 0, none⟩)], .int .i64 (x : Int), undef, undef, undef, undef, undef], defers := [] } W
    gi_wp2
    exact hK
  · rintro lp x W hxN hbx ⟨hbe, hpn, hps, v, hbox, hown⟩
    have hrs := nbl_t hbx
    have hlen := nbl_len (bt s) x
    have hWb : bl + 3 ≤ W.heap.size := by have := hps.lt; omega
    have cb := hbox.cell
    have fb := hbox.frozen
    obtain ⟨l', hl'⟩ : ∃ l', nbl (bt s) x = l' := ⟨_, rfl⟩
    rw [hl'] at hrs hlen hown
    obtain ⟨len, hlen'⟩ : ∃ len, l'.length = len := ⟨_, rfl⟩
    unfold Or.OR at hown
    rw [hlen'] at hown hlen
    have HBE := Lib.hid hbe
    have HPN := Lib.hid hpn
    have HPS := Lib.hid hps
    have HBX := Lib.hid hbox
    have HRS := Lib.hid hrs
    have HL := Lib.hid hlen'
    have HOU := Lib.hid hown
    have hown1 := World.ownsRow.alloc hown (.cells #[.int .i64 (x : Int)] 3)
    have hs1 : bl + 3 ≤ (W.alloc (.cells #[.int .i64 (x : Int)] 3)).heap.size := by simp; omega
    obtain ⟨a, cap, rfl⟩ : ∃ a cap, v = .slice a len cap := by
      rcases hown.2 with ⟨rfl, h0⟩ | ⟨g, cap, _, rfl, _⟩
      · exact ⟨none, 0, by rw [h0]⟩
      · exact ⟨_, cap, rfl⟩
    clear hJ0 hsz hbe hpn hps hbox hbx hl' hrs hown hlen'
    gi_wp2_with (gi_at_builtin; refine wpListIn_append_own _ rfl _ _ 38 rfl (bl + 3) 3 i0 (.int .i64 0) 1 8 Tryd.underlying38 hi hz0 hz1 hz2 rfl (by decide) _ _ _ rfl hown1 ⟨W.heap.size, 0, none⟩ 1 1 [.int .i64 (x : Int)] rfl rfl (cell_one_new _ _ _) (by simp [Value.oneCell']) (by unfold maxLen; omega) (by omega) hs1 ?_; intro v' w2 hown' hgrow _; obtain ⟨jb, jk, jr⟩ := JL_push HBW.out HBE.out HPN.out HPS.out HBX.out HOU.out HL.out HRS.out hown' hgrow; have cb1 := jb.cell; have fb1 := jb.frozen; have HJK := Lib.hid jk; have HJR := Lib.hid jr; obtain ⟨g', cap', rfl⟩ := ownsRow_succ hown'; clear jb jk jr hown' hgrow)
    exact ⟨HJK.out, HJR.out⟩
  · rintro D W hD ⟨hbe, hpn, hps, v, hbox, hou⟩ hK
    have cb := hbox.cell
    have HBE := Lib.hid hbe
    have HOU := Lib.hid hou
    have HK := Lib.hid hK
    have hDb : bl + 3 ≤ D := by omega
    obtain ⟨a, cap, rfl⟩ := Or.OR.slice_ hou
    clear hbe hpn hps hou hK hbox hJ0 hsz
    gi_wp2_with fail
    refine ⟨by simp, .inl ⟨_, _, rfl, run_takeDeferred HK.out, ?_⟩⟩
    refine ⟨.slice a (nbl (bt s) N).length cap, ?_, a, _, cap, rfl, ?_, ?_⟩
    · simp [results, Tryd.results83, go_sem]
    · exact own_mono (ownsRow_putObj HOU.out _ HK.out rfl) (by have := HG.out.size; have := HBL.out; omega)
    · exact gb_trans HG.out (gb_below (by rw [HBL.out]; exact HBE.out.grown (grownBy_putObj' W D _) (Nat.le_trans HBW.out HBE.out.size) (fun k e => by cases e; omega)) none)
  · intro D c W hD h
    exact h.elim

theorem enterList0 (args : Array Value) (w : World) : (callFunc 83 args).run Tryd.prog w = .ok (.enter 83 args) w := by kernel_rfl
set_option maxRecDepth 100000 in
set_option maxHeartbeats 1600000 in
theorem List0_no (n : Int) (s : ByteArray) (c cs : Nat) (w : World) (hs : s.size ≤ 140737488351232) (hc : w.cell? ⟨c, 0, none⟩ = some (.int .i64 n)) (hcs : w.cell? ⟨cs, 0, none⟩ = some (.string s)) (h : chk n s ≠ 0) :
    Calls Tryd.prog 83 #[.pointer (some ⟨c, 0, none⟩), .pointer (some ⟨cs, 0, none⟩)] w fun e w' => e = .panicked [{ v := .iface 24 (.int .i64 (chk n s)), recovered := false }] ∧ w.grownBy w' none := by
  have HA := Lib.hid (askField_no n s w hs h)
  obtain ⟨z, hz⟩ : ∃ z, chk n s = z := ⟨_, rfl⟩
  rw [hz] at HA ⊢
  clear hz h
  go_enter Tryd.func83, Tryd.ntmps83
  go_wp2_with fail
  refine HA.out.mono ?_
  rintro e w1 ⟨rfl, hg⟩
  exact ⟨rfl, rfl, hg⟩
theorem row_sta {n base size k : Nat} {e : TypeId} {v : Value} {xs : List Value} (hb : n + 2 ≤ base) : Sta n fun W => W.ownsRow base e size v k xs := by
  intro A B h hs hk
  obtain ⟨h1, h2 | ⟨g, cap, cur, e, hg, hh, r⟩⟩ := h
  · exact ⟨h1, .inl h2⟩
  · exact ⟨h1, .inr ⟨g, cap, cur, e, hg, (hk g (by omega) (by omega)).trans hh, r⟩⟩
theorem liL_no {n : Int} {s : ByteArray} (h : chk n s ≠ 0) : liL n s = [] := if_neg h

set_option maxRecDepth 100000 in
set_option maxHeartbeats 800000 in
theorem List_any (n : Int) (s : ByteArray) (w : World) (hs : s.size ≤ 140737488351232) :
    Calls Tryd.prog 34 #[.int .i64 n, .string s] w fun e w' => ∃ a len cap, e = .returned (.tuple #[.slice a len cap, .int .i64 (chk n s)]) ∧ Or.OR w' w.heap.size (.slice a len cap) (liL n s) ∧ w.grownBy w' none := by
  have hmf : ∀ (fn : Fn) (first cap : Array Value) (w : World), (Instr.makeFunc fn first cap).run Tryd.prog w = .ok (.func fn first cap) w := fun _ _ _ _ => rfl
  have g := Bf.aw_gb (bxs w n s)
  have H : Hid (Calls Tryd.prog 82 #[.func (Fn.func 83) #[] #[.pointer (some ⟨w.heap.size, 0, none⟩), .pointer (some ⟨w.heap.size + 1, 0, none⟩)]] (bxs w n s) fun e w' => ∃ a len cap, e = .returned (.tuple #[.slice a len cap, .int .i64 (chk n s)]) ∧ Or.OR w' w.heap.size (.slice a len cap) (liL n s) ∧ (bxs w n s).grownBy w' none) := by
    refine Lib.hid ?_
    by_cases h : chk n s = 0
    · rw [h]
      refine (Bf.att_ex 83 _ (bxs w n s) none (fun a len cap W => Or.OR W ((bxs w n s).heap.size + 2) (.slice a len cap) (liL n s)) (fun a len cap => row_sta (by omega)) (fun _ h => by cases h) enterList0 ((List0_any n s _ _ _ hs (gb_cell g (bxs_k0 w n s) (by simp)) (gb_cell g (bxs_k1 w n s) (by simp)) h).mono fun e w' ⟨a, len, cap, h1, h2, h3⟩ => ⟨a, len, cap, h1, by rw [Bf.aw_size] at h2; exact h2, h3⟩)).mono ?_
      rintro e w' ⟨a, len, cap, h1, h2, h3⟩
      exact ⟨a, len, cap, h1, own_mono h2 (by have := (bxs_gb w n s).size; omega), h3⟩
    · refine (Bf.att_no 83 _ (chk n s) (bxs w n s) none (fun _ => True) (sta_true _) (fun _ h => by cases h) enterList0 ((List0_no n s _ _ _ hs (gb_cell g (bxs_k0 w n s) (by simp)) (gb_cell g (bxs_k1 w n s) (by simp)) h).mono fun e w' hh => ⟨hh.1, trivial, hh.2⟩)).mono fun e w' hh => ⟨none, 0, 0, hh.1, by rw [liL_no h]; exact Or.OR.nil_ _ _, hh.2.2⟩
  obtain ⟨x, hx⟩ : ∃ x, liL n s = x := ⟨_, rfl⟩
  obtain ⟨y, hy⟩ : ∃ y, chk n s = y := ⟨_, rfl⟩
  rw [hx, hy] at H ⊢
  have HW := Lib.hid (bxs_gb w n s)
  clear hx hy g
  unfold bxs bx at H HW
  go_enter Tryd.func34, Tryd.ntmps34
  go_wp2_with fail
  refine H.out.mono ?_
  rintro e w1 ⟨a, len, cap, rfl, ho, hg⟩
  have HG := Lib.hid (gb_trans HW.out hg)
  have HO := Lib.hid ho
  clear hg ho
  go_wp2
  go_ret2
  exact ⟨a, len, cap, rfl, HO.out, HG.out⟩
end Go.Proofs.YtbeaohnjifcgaaaDoor.Bh
