/-
  Fields of bits: the program's Select.
-/
import Derived.Test.YtbeaohnjifcgaaaDoorCh
import Derived.Test.YtbeaohnjifcgaaaDoorBe
namespace Go.Proofs.YtbeaohnjifcgaaaDoor.Bh
open Go Go.RowKit Go.Shelf Go.Proofs.YtbeaohnjifcgaaaDoor.Sx Go.Proofs.YtbeaohnjifcgaaaDoor.Na Go.Proofs.YtbeaohnjifcgaaaDoor.Ba
attribute [local go_sem] Oper.semAt_some

theorem own_gbs {W0 W W' : World} {c m : Nat} {row : Option Nat} (h : W0.grownBy W (some c)) (hg : W.grownBy W' row) (hr : ∀ r, row = some r → m ≤ r) (hm : W0.heap.size ≤ m) : W0.grownBy W' (some c) := by
  cases row with
  | none => exact gb_trans h (gb_none hg _)
  | some r => exact gb_mark h hg (Nat.le_trans hm (hr r rfl))
/-- while Select looks -/
def JS (R bl cf : Nat) (w : World) (N K : Nat) (s : ByteArray) (k : Nat) (W : World) : Prop :=
  w.grownBy W (some cf) ∧ Boxed W R 3 (.int .i64 0) ∧ Boxed W bl 3 (.int .i64 (N : Int)) ∧ Boxed W (bl + 1) 9 (.string s) ∧ W.frozen? ⟨cf, 0, none⟩ = false ∧ ∃ z : Nat, z + cnt (bt s) k = K ∧ W.cell? ⟨cf, 0, none⟩ = some (.int .i64 (z : Int))
theorem own_JS {R bl cf N K : Nat} {w : World} {s : ByteArray} (B : Nat) (hB : w.heap.size ≤ B) (hcf : cf < B) : OwnFrom B (JS R bl cf w N K s) := by
  intro x W W' row ⟨h1, h2, h3, h4, h5, z, h6, h7⟩ hg hr
  have hr2 : ∀ r, row = some r → ∃ o : Obj, W.heap[r]? = some o ∧ o.isCells = false := fun r e => (hr r e).2
  have hne : some cf ≠ row := fun e => by have := (hr cf e.symm).1; omega
  exact ⟨own_gbs h1 hg (fun r e => (hr r e).1) hB, own_boxed _ _ _ () W W' row h2 hg hr2, own_boxed _ _ _ () W W' row h3 hg hr2, own_boxed _ _ _ () W W' row h4 hg hr2, gb_frozen hg h7 h5 hne, z, h6, gb_cell hg h7 hne⟩
/-- Select has found it -/
def JSx (R cf : Nat) (w : World) (N K : Nat) (s : ByteArray) (c : Code) (W : World) : Prop :=
  c = .ret ∧ ∃ x : Int, w.grownBy W (some cf) ∧ Boxed W R 3 (.int .i64 x) ∧ (nbl (bt s) N).getD K 0 = x ∧ K < cnt (bt s) N
theorem own_JSx {R cf N K : Nat} {w : World} {s : ByteArray} (B : Nat) (hB : w.heap.size ≤ B) : OwnFrom B (JSx R cf w N K s) := by
  intro c W W' row ⟨h0, x, h1, h2, h5⟩ hg hr
  have hr2 : ∀ r, row = some r → ∃ o : Obj, W.heap[r]? = some o ∧ o.isCells = false := fun r e => (hr r e).2
  exact ⟨h0, x, own_gbs h1 hg (fun r e => (hr r e).1) hB, own_boxed _ _ _ () W W' row h2 hg hr2, h5⟩

def slPost (w : World) (N K cf : Nat) (s : ByteArray) (e : Ending) (w' : World) : Prop :=
  ((∃ x : Int, e = .returned (.int .i64 x) ∧ (nbl (bt s) N).getD K 0 = x ∧ K < cnt (bt s) N) ∨ (e = .panicked [{ v := .iface 24 (.int .i64 8), recovered := false }] ∧ cnt (bt s) N ≤ K)) ∧ w.grownBy w' (some cf)

set_option maxRecDepth 1000000 in
set_option maxHeartbeats 4000000 in
theorem Select0_in (n : Int) (s : ByteArray) (K : Nat) (c cs cf : Nat) (w : World) (hs : s.size ≤ 140737488351232) (hc : w.cell? ⟨c, 0, none⟩ = some (.int .i64 n)) (hcs : w.cell? ⟨cs, 0, none⟩ = some (.string s)) (hcf : w.cell? ⟨cf, 0, none⟩ = some (.int .i64 (K : Int))) (hff : w.frozen? ⟨cf, 0, none⟩ = false) (hK : (K : Int) ≤ 9223372036854775807) (h : chk n s = 0) :
    Calls Tryd.prog 86 #[.pointer (some ⟨c, 0, none⟩), .pointer (some ⟨cs, 0, none⟩), .pointer (some ⟨cf, 0, none⟩)] w (slPost w n.toNat K cf s) := by
  have HA := Lib.hid (fun w => askField_ok n s w hs h)
  have HRN := Lib.hid (fun w => Bc.refuse_no 7 w)
  obtain ⟨N, rfl, h1, h2, h3⟩ := vd_t (chk_t h)
  rw [Int.toNat_natCast]
  have hs6 : s.size ≤ 600 := by omega
  have hN8 : N ≤ 8 * s.size := by omega
  have d1 : decide ((K : Int) < 0) = false := by simp
  have lcf : cf < w.heap.size := World.block_lt_of_cell? _ _ hcf
  have g0 := gb_alloc w (.cells #[.int .i64 0] 3) none
  have k0 := gb_cell g0 hc (by simp)
  have k1 := gb_cell g0 hcs (by simp)
  have k2 := gb_cell g0 hcf (by simp)
  have k3 := gb_frozen g0 hcf hff (by simp)
  clear h h2 h3 hs hc hcs hcf g0 hff
  refine (callsIn_wide (n := 6)).1 ?_
  refine callsIn_of_wp_marks Tryd.func86 rfl trivial ?_ rfl
  simp only [Tryd.ntmps86, List.size_toArray, List.length_cons, List.length_nil, Nat.reduceAdd, Nat.reduceSub, Array.replicate_succ, Array.replicate_zero, List.push_toArray, List.append_toArray, List.nil_append, List.cons_append]
  gi_wp2_with fail
  refine ⟨trivial, ?_⟩
  refine (callsIn_wide.2 (HA.out _)).mono ?_
  rintro e w1 ⟨rfl, hg⟩
  have k3 := gb_frozen hg k2 k3 (by simp)
  have k0 := gb_cell hg k0 (by simp)
  have k1 := gb_cell hg k1 (by simp)
  have k2 := gb_cell hg k2 (by simp)
  have HG := Lib.hid hg
  clear hg
  gi_wp2_with fail
  refine ⟨trivial, ?_⟩
  refine (callsIn_wide.2 (HRN.out _)).mono ?_
  rintro e w2 ⟨rfl, rfl⟩
  gi_wp2_with fail
  refine ⟨trivial, ?_⟩
  refine (set_in _ N s _).mono ?_
  rintro e w2 ⟨rfl, rfl⟩
  gi_wp2_with fail
  obtain ⟨W0, hW0⟩ : ∃ W0, (w1.alloc (.cells #[.int .i64 (N : Int)] 3)).alloc (.cells #[.string s] 9) = W0 := ⟨_, rfl⟩
  have hsz : W0.heap.size = w1.heap.size + 2 := by rw [← hW0]; simp
  have hR1 : w.heap.size + 1 ≤ w1.heap.size := by have := HG.out.size; simpa using this
  have gW : w1.grownBy W0 none := by rw [← hW0]; exact gb_trans (gb_alloc _ _ _) (gb_alloc _ _ _)
  have hgW : (w.alloc (.cells #[.int .i64 0] 3)).grownBy W0 none := gb_trans HG.out gW
  have hJ0 : JS w.heap.size w1.heap.size cf w N K s 0 W0 := by
    refine ⟨gb_none (gb_trans (gb_alloc w _ none) hgW) _, (Boxed.new w _ _).kept hgW (by simp), ?_, ?_, gb_frozen gW k2 k3 (by simp), K, by rw [cnt_zero]; rfl, gb_cell gW k2 (by simp)⟩
    · rw [← hW0]; exact (Boxed.new w1 _ _).alloc _
    · rw [← hW0]
      have s1 : (w1.alloc (.cells #[.int .i64 (N : Int)] 3)).heap.size = w1.heap.size + 1 := by simp
      rw [← s1]; exact Boxed.new _ _ _
  rw [hW0]
  clear hW0 hgW gW
  obtain ⟨bl, hbl⟩ : ∃ bl, w1.heap.size = bl := ⟨_, rfl⟩
  obtain ⟨R, hR⟩ : ∃ R, w.heap.size = R := ⟨_, rfl⟩
  have HR := Lib.hid hR
  rw [hbl, hR] at hJ0
  rw [hbl] at hsz ⊢
  rw [hR] at lcf ⊢
  rw [hR, hbl] at hR1
  have HRW := Lib.hid (show w.heap.size ≤ W0.heap.size by omega)
  clear hbl hR k0 k1 k2 k3
  refine range_set (by omega) rfl rfl hN8 hs6 (JS R bl cf w N K s) (JSx R cf w N K s) (own_JS _ HRW.out (by omega)) (own_JSx _ HRW.out)
    (fun i W h => ⟨h.2.2.1.cell, h.2.2.2.1.cell⟩) (fun i W _ hb ⟨h1, h2, h3, h4, h5, z, h6, h7⟩ => ⟨h1, h2, h3, h4, h5, z, by rw [cnt_f hb]; exact h6, h7⟩) hJ0
    (fun x => { tmps := #[.pointer (some ⟨c, 0, none⟩), .pointer (some ⟨cs, 0, none⟩), .pointer (some ⟨cf, 0, none⟩), .pointer (some ⟨R, 0, none⟩), .int .i64 (x : Int), .int .i64 (N : Int), .string s, .tuple #[], .int .i64 (K : Int), .bool false, .tuple #[], .int .i64 (N : Int), .string s, .func (.func 106) #[] #[.pointer (some ⟨bl, 0, none⟩), .pointer (some ⟨bl + 1, 0, none⟩)], .int .i64 (x : Int), undef, undef, undef, undef, undef, undef], defers := [] }) ?_ ?_ ?_ ?_
  · intro lp x W KK hKK
    rw [Rf.zip1]
    change Code.wpIn _ _ _ _ _ { tmps := #[.pointer (some ⟨c, 0, none⟩), .pointer (some ⟨cs, 0, none⟩), .pointer (some ⟨cf, 0, none⟩), .pointer (some ⟨R, 0, none⟩), undef, .int .i64 (N : Int), .string s, .tuple #[], .int .i64 (K : Int), .bool false, .tuple #[], .int .i64 (N : Int), .string s, .func (.func 106) #[] #[.pointer (some ⟨bl, 0, none⟩), .pointer (some ⟨bl + 1, 0, none⟩)], .int .i64 (x : Int), undef, undef, undef, undef, undef, undef], defers := [] } W
    gi_wp2
    exact hKK
  · rintro lp x W hxN hbx ⟨hbe, hbr, hpn, hps, hff, z, hz, hcf⟩
    have cr := hbr.cell
    have fr := hbr.frozen
    cases z with
    | zero =>
      have hit := sel_hit hbx hxN
      have eK : cnt (bt s) x = K := by omega
      rw [eK] at hit
      have HX : Hid (JSx R cf w N K s .ret (W.setCell ⟨R, 0, none⟩ (.int .i64 (x : Int)))) := Lib.hid ⟨rfl, _, gb_new hbe R 0 _ (by rw [HR.out]; exact Nat.le_refl _), hbr.set _, hit⟩
      clear hit hbx hbe hbr hpn hps hJ0 hz eK
      gi_wp2
      exact ⟨KeepsOthers.setCell _ _ _, HX.out⟩
    | succ z =>
      have hz' : z + cnt (bt s) (x + 1) = K := by rw [cnt_t hbx]; omega
      have e1 : ((z + 1 : Nat) : Int) = (z : Int) + 1 := by omega
      have HX : Hid (JS R bl cf w N K s (x + 1) (W.setCell ⟨cf, 0, none⟩ (.int .i64 (z : Int)))) := Lib.hid ⟨gb_trans hbe (gb_set W cf 0 _), hbr.kept (gb_set W cf 0 _) (by simp; omega), hpn.kept (gb_set W cf 0 _) (by simp; omega), hps.kept (gb_set W cf 0 _) (by simp; omega), by rw [World.frozen?_setCell]; exact hff, z, hz', World.cell?_setCell_same _ _ _ hcf⟩
      have d3 : (((z : Int) + 1) == 0) = false := by rw [beq_eq_false_iff_ne]; omega
      rw [e1] at hcf
      have hzb : z < 9223372036854775807 := by omega
      clear hbx hbe hbr hpn hps hJ0 hz hz' e1 cr fr
      gi_wp2
      exact ⟨KeepsOthers.setCell _ _ _, HX.out⟩
  · rintro D W hD ⟨hbe, hbr, hpn, hps, hff, z, hz, hcf⟩ hK
    have HK := Lib.hid hK
    have HN := Lib.hid (show cnt (bt s) N ≤ K by omega)
    have HBE := Lib.hid hbe
    clear hbe hbr hpn hps hff hcf hz hK hJ0
    gi_wp2_with fail
    refine ⟨by simp, .inl ⟨_, _, rfl, run_takeDeferred HK.out, ?_⟩⟩
    exact ⟨.inr ⟨rfl, HN.out⟩, own_gbs HBE.out (grownBy_putObj' W D _) (fun r e => by cases e; exact Nat.le_refl _) (Nat.le_trans HRW.out hD)⟩
  · rintro D c W hD ⟨rfl, x, hbe, hbr, hsome⟩ hK
    have HK := Lib.hid hK
    have HN := Lib.hid hsome
    have HBE := Lib.hid hbe
    have HBR := Lib.hid hbr
    clear hbe hbr hsome hK hJ0
    gi_wp2
    refine ⟨by simp, .inl ⟨_, _, rfl, run_takeDeferred HK.out, ?_⟩⟩
    have hc5 := (HBR.out.kept (grownBy_putObj' W D (.deferred none)) (by simp; omega)).cell
    refine ⟨.int .i64 x, ?_, .inl ⟨x, rfl, HN.out⟩, ?_⟩
    · simp [results, Tryd.results86, go_sem, hc5]
    · exact own_gbs HBE.out (grownBy_putObj' W D _) (fun r e => by cases e; exact Nat.le_refl _) (Nat.le_trans HRW.out hD)

theorem enterSelect0 (args : Array Value) (w : World) : (callFunc 86 args).run Tryd.prog w = .ok (.enter 86 args) w := by kernel_rfl
set_option maxRecDepth 100000 in
set_option maxHeartbeats 1600000 in
theorem Select0_bad (n : Int) (s : ByteArray) (i : Int) (c cs ci : Nat) (w : World) (hs : s.size ≤ 140737488351232) (hc : w.cell? ⟨c, 0, none⟩ = some (.int .i64 n)) (hcs : w.cell? ⟨cs, 0, none⟩ = some (.string s)) (hci : w.cell? ⟨ci, 0, none⟩ = some (.int .i64 i)) (h : chk n s ≠ 0 ∨ i < 0) :
    Calls Tryd.prog 86 #[.pointer (some ⟨c, 0, none⟩), .pointer (some ⟨cs, 0, none⟩), .pointer (some ⟨ci, 0, none⟩)] w fun e w' => e = .panicked [{ v := .iface 24 (.int .i64 (slE n s i)), recovered := false }] ∧ w.grownBy w' none := by
  have g0 := gb_alloc w (.cells #[.int .i64 0] 3) none
  have q0 := gb_cell g0 hc (by simp)
  have q1 := gb_cell g0 hcs (by simp)
  have q2 := gb_cell g0 hci (by simp)
  have HG0 := Lib.hid g0
  clear g0
  by_cases hcc : chk n s = 0
  · have hi : i < 0 := by
      rcases h with h | h
      · exact absurd hcc h
      · exact h
    rw [show slE n s i = 7 from by unfold slE; rw [if_pos hcc, if_pos hi]]
    have HA := Lib.hid (fun w => askField_ok n s w hs hcc)
    have HR := Lib.hid (fun w => Bc.refuse_yes 7 w)
    have d1 : decide (i < 0) = true := by simpa using hi
    clear h hcc
    go_enter Tryd.func86, Tryd.ntmps86
    go_wp2_with fail
    refine (HA.out _).mono ?_
    rintro e w1 ⟨rfl, hg⟩
    have k2 := gb_cell hg q2 (by simp)
    have HG := Lib.hid (gb_trans HG0.out hg)
    clear hg hc hcs hci
    go_wp2_with fail
    refine (HR.out _).mono ?_
    rintro e w2 ⟨rfl, rfl⟩
    exact ⟨rfl, rfl, HG.out⟩
  · rw [show slE n s i = chk n s from if_neg hcc]
    have HA := Lib.hid (fun w => askField_no n s w hs hcc)
    obtain ⟨z, hz⟩ : ∃ z, chk n s = z := ⟨_, rfl⟩
    simp only [hz] at HA ⊢
    clear hz h hcc
    go_enter Tryd.func86, Tryd.ntmps86
    go_wp2_with fail
    refine (HA.out _).mono ?_
    rintro e w1 ⟨rfl, hg⟩
    exact ⟨rfl, rfl, gb_trans HG0.out hg⟩
theorem bx3_sz' (w : World) (n : Int) (s : ByteArray) (i : Int) : (bx3 w n s i).heap.size = w.heap.size + 1 + 1 + 1 := by unfold bx3; rw [World.size_alloc, bxs_sz]
theorem bx3_f2 (w : World) (n : Int) (s : ByteArray) (i : Int) : (bx3 w n s i).frozen? ⟨w.heap.size + 1 + 1, 0, none⟩ = false := by
  have h := World.alloc_heap_new (bxs w n s) (.cells #[.int .i64 i] 3)
  rw [bxs_sz] at h
  exact frozen_at 0 h

set_option maxRecDepth 100000 in
set_option maxHeartbeats 800000 in
theorem Select_any (n : Int) (s : ByteArray) (i : Int) (w : World) (hs : s.size ≤ 140737488351232) (hi : i ≤ 9223372036854775807) :
    Calls Tryd.prog 40 #[.int .i64 n, .string s, .int .i64 i] w fun e w' => e = .returned (.tuple #[.int .i64 (slV n s i), .int .i64 (slE n s i)]) ∧ w.grownBy w' none := by
  have hmf : ∀ (fn : Fn) (first cap : Array Value) (w : World), (Instr.makeFunc fn first cap).run Tryd.prog w = .ok (.func fn first cap) w := fun _ _ _ _ => rfl
  have g := Be.aw_gb (bx3 w n s i)
  have hb2 : ∀ k, some (w.heap.size + 1 + 1) = some k → k < (bx3 w n s i).heap.size := fun k e => by cases e; rw [bx3_sz']; omega
  have H : Hid (Calls Tryd.prog 73 #[.func (Fn.func 86) #[] #[.pointer (some ⟨w.heap.size, 0, none⟩), .pointer (some ⟨w.heap.size + 1, 0, none⟩), .pointer (some ⟨w.heap.size + 1 + 1, 0, none⟩)]] (bx3 w n s i) fun e w' => e = .returned (.tuple #[.int .i64 (slV n s i), .int .i64 (slE n s i)]) ∧ (bx3 w n s i).grownBy w' (some (w.heap.size + 1 + 1))) := by
    refine Lib.hid ?_
    by_cases h : chk n s ≠ 0 ∨ i < 0
    · have e0 : slE n s i ≠ 0 := by
        unfold slE
        rcases h with h | h
        · rw [if_neg h]; exact h
        · split
          · first | decide | (rw [if_pos h]; decide)
          · assumption
      rw [show slV n s i = 0 from if_neg e0]
      refine (Be.att_no 86 _ (slE n s i) (bx3 w n s i) none (fun _ => True) (sta_true _) (fun _ h => by cases h) enterSelect0 ((Select0_bad n s i _ _ _ _ hs (gb_cell g (bx3_k0 w n s i) (by simp)) (gb_cell g (bx3_k1 w n s i) (by simp)) (gb_cell g (bx3_k2 w n s i) (by simp)) h).mono fun e w' hh => ⟨hh.1, trivial, hh.2⟩)).mono fun e w' hh => ⟨hh.1, gb_none hh.2.2 _⟩
    · have hcc : chk n s = 0 := by
        by_cases e : chk n s = 0
        · exact e
        · exact absurd (.inl e) h
      have hi0 : ¬ i < 0 := fun e => h (.inr e)
      obtain ⟨K, rfl⟩ : ∃ K : Nat, i = K := ⟨i.toNat, by omega⟩
      have HN := Select0_in n s K _ _ _ _ hs (gb_cell g (bx3_k0 w n s K) (by simp)) (gb_cell g (bx3_k1 w n s K) (by simp)) (gb_cell g (bx3_k2 w n s K) (by simp)) (gb_frozen g (bx3_k2 w n s K) (bx3_f2 w n s K) (by simp)) hi hcc
      by_cases hx : cnt (bt s) n.toNat ≤ K
      · have e2 : slE n s K = 8 := by unfold slE; rw [if_pos hcc, if_neg hi0, if_pos (by omega)]
        rw [show slV n s K = 0 from if_neg (by rw [e2]; decide), e2]
        refine (Be.att_no 86 _ 8 (bx3 w n s K) (some (w.heap.size + 1 + 1)) (fun _ => True) (sta_true _) hb2 enterSelect0 (HN.mono ?_)).mono fun e w' hh => ⟨hh.1, hh.2.2⟩
        rintro e w' ⟨⟨x, _, _, h2⟩ | ⟨h1, _⟩, hg⟩
        · omega
        · exact ⟨h1, trivial, hg⟩
      · have e2 : slE n s K = 0 := by unfold slE; rw [if_pos hcc, if_neg hi0, if_neg (by omega)]
        have e1 : slV n s K = (nbl (bt s) n.toNat).getD K 0 := by unfold slV; rw [if_pos e2, Int.toNat_natCast]
        rw [e1, e2]
        refine (Be.att_ok 86 _ _ (bx3 w n s K) (some (w.heap.size + 1 + 1)) (fun _ => True) (sta_true _) hb2 enterSelect0 (HN.mono ?_)).mono fun e w' hh => ⟨hh.1, hh.2.2⟩
        rintro e w' ⟨⟨y, h1, h2, _⟩ | ⟨_, h2⟩, hg⟩
        · rw [h2]; exact ⟨h1, trivial, hg⟩
        · omega
  obtain ⟨x, hx⟩ : ∃ x, slV n s i = x := ⟨_, rfl⟩
  obtain ⟨y, hy⟩ : ∃ y, slE n s i = y := ⟨_, rfl⟩
  rw [hx, hy] at H ⊢
  have HW := Lib.hid (bx3_gb w n s i)
  clear hx hy g hb2
  unfold bx3 bxs bx at H HW
  go_enter Tryd.func40, Tryd.ntmps40
  go_wp2_with fail
  refine H.out.mono ?_
  rintro e w1 ⟨rfl, hg⟩
  have HG := Lib.hid (gb_part HW.out hg (by omega))
  clear hg
  go_wp2
  go_ret2
  exact ⟨rfl, HG.out⟩
end Go.Proofs.YtbeaohnjifcgaaaDoor.Bh
