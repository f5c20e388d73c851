/-
  Fields of bits: the program's Rank and Count.
-/
import Derived.Test.YtbeaohnjifcgaaaDoorCh
import Derived.Test.YtbeaohnjifcgaaaDoorBe
namespace Go.Proofs.YtbeaohnjifcgaaaDoor.Bh
open Go Go.RowKit Go.Shelf Go.Proofs.YtbeaohnjifcgaaaDoor.Sx Go.Proofs.YtbeaohnjifcgaaaDoor.Na Go.Proofs.YtbeaohnjifcgaaaDoor.Ba
attribute [local go_sem] Oper.semAt_some

/-- while Rank counts -/
def JC (bl : Nat) (w : World) (N : Nat) (s : ByteArray) (k : Nat) (W : World) : Prop :=
  Below bl w W ∧ Boxed W bl 3 (.int .i64 (cnt (bt s) k : Int)) ∧ Boxed W (bl + 1) 3 (.int .i64 (N : Int)) ∧ Boxed W (bl + 1 + 1) 9 (.string s)
theorem own_JC {bl N : Nat} {w : World} {s : ByteArray} (hn : bl ≤ w.heap.size) (B : Nat) (hB : bl ≤ B) : OwnFrom B (JC bl w N s) := by
  intro x W W' row ⟨h1, h2, h3, h4⟩ hg hr
  have hr2 : ∀ r, row = some r → ∃ o : Obj, W.heap[r]? = some o ∧ o.isCells = false := fun r e => (hr r e).2
  exact ⟨h1.grown hg (Nat.le_trans hn h1.size) (fun r e => Nat.le_trans hB (hr r e).1), own_boxed _ _ _ () W W' row h2 hg hr2, own_boxed _ _ _ () W W' row h3 hg hr2, own_boxed _ _ _ () W W' row h4 hg hr2⟩

set_option maxRecDepth 1000000 in
set_option maxHeartbeats 4000000 in
theorem Rank0_any (n : Int) (s : ByteArray) (f : Int) (c cs cf : Nat) (w : World) (hs : s.size ≤ 140737488351232) (hc : w.cell? ⟨c, 0, none⟩ = some (.int .i64 n)) (hcs : w.cell? ⟨cs, 0, none⟩ = some (.string s)) (hcf : w.cell? ⟨cf, 0, none⟩ = some (.int .i64 f)) (h : rkE n s f = 0) :
    Calls Tryd.prog 85 #[.pointer (some ⟨c, 0, none⟩), .pointer (some ⟨cs, 0, none⟩), .pointer (some ⟨cf, 0, none⟩)] w fun e w' => e = .returned (.int .i64 (rkV n s f)) ∧ w.grownBy w' none := by
  have hcc : chk n s = 0 := by
    unfold rkE at h
    split at h
    · assumption
    · exact h
  have hf : 0 ≤ f ∧ f ≤ n := by
    unfold rkE at h
    rw [if_pos hcc] at h
    split at h
    · omega
    · omega
  obtain ⟨hf0, hfn⟩ := hf
  have HA := Lib.hid (fun w => askField_ok n s w hs hcc)
  have HRN := Lib.hid (fun w => Bc.refuse_no 7 w)
  obtain ⟨N, rfl, h1, h2, h3⟩ := vd_t (chk_t hcc)
  obtain ⟨I, rfl⟩ : ∃ I : Nat, f = I := ⟨f.toNat, by omega⟩
  rw [show rkV N s I = (cnt (bt s) I : Int) from by unfold rkV; rw [if_pos h, Int.toNat_natCast]]
  have hs6 : s.size ≤ 600 := by omega
  have hN8 : I ≤ 8 * s.size := by omega
  have d1 : decide ((I : Int) < 0) = false := by simp
  have d2 : decide (N < I) = false := by simp; omega
  have HC := Lib.hid hc
  have HCS := Lib.hid hcs
  have HCF := Lib.hid hcf
  clear h h2 h3 hs hcc
  refine (callsIn_wide (n := 6)).1 ?_
  refine callsIn_of_wp_marks Tryd.func85 rfl trivial ?_ rfl
  simp only [Tryd.ntmps85, List.size_toArray, List.length_cons, List.length_nil, Nat.reduceAdd, Nat.reduceSub, Array.replicate_succ, Array.replicate_zero, List.push_toArray, List.append_toArray, List.nil_append, List.cons_append]
  gi_wp2_with fail
  refine ⟨trivial, ?_⟩
  refine (callsIn_wide.2 (HA.out _)).mono ?_
  rintro e w1 ⟨rfl, hg⟩
  have k0 := gb_cell hg hc (by simp)
  have k1 := gb_cell hg hcs (by simp)
  have k2 := gb_cell hg hcf (by simp)
  have HG := Lib.hid hg
  clear hg hc hcs hcf
  gi_wp2_with fail
  refine ⟨trivial, ?_⟩
  refine (callsIn_wide.2 (HRN.out _)).mono ?_
  rintro e w2 ⟨rfl, rfl⟩
  have k1' := gb_cell (gb_alloc w1 (.cells #[.int .i64 0] 3) none) k1 (by simp)
  have k2' := gb_cell (gb_alloc w1 (.cells #[.int .i64 0] 3) none) k2 (by simp)
  gi_wp2_with fail
  refine ⟨trivial, ?_⟩
  refine (set_in _ I s _).mono ?_
  rintro e w2 ⟨rfl, rfl⟩
  gi_wp2_with fail
  obtain ⟨W0, hW0⟩ : ∃ W0, ((w1.alloc (.cells #[.int .i64 0] 3)).alloc (.cells #[.int .i64 (I : Int)] 3)).alloc (.cells #[.string s] 9) = W0 := ⟨_, rfl⟩
  have hsz : W0.heap.size = w1.heap.size + 3 := by rw [← hW0]; simp
  have hJ0 : JC w1.heap.size w1 I s 0 W0 := by
    rw [← hW0]
    have s1 : (w1.alloc (.cells #[.int .i64 0] 3)).heap.size = w1.heap.size + 1 := by simp
    have s2 : ((w1.alloc (.cells #[.int .i64 0] 3)).alloc (.cells #[.int .i64 (I : Int)] 3)).heap.size = w1.heap.size + 1 + 1 := by simp
    exact ⟨((((Below.refl _ _).alloc (Nat.le_refl _) _).alloc (by simp) _).alloc (by simp; omega) _), ((Boxed.new w1 _ _).alloc _).alloc _, Boxed.alloc (by rw [← s1]; exact Boxed.new _ _ _) _, by rw [← s2]; exact Boxed.new _ _ _⟩
  rw [hW0]
  clear hW0
  obtain ⟨bl, hbl⟩ : ∃ bl, w1.heap.size = bl := ⟨_, rfl⟩
  have HBL := Lib.hid hbl
  rw [hbl] at hJ0 hsz ⊢
  have HBW := Lib.hid (show bl ≤ w1.heap.size by omega)
  clear hbl k0 k1 k2 k1' k2'
  refine range_set (by omega) rfl rfl hN8 hs6 (JC bl w1 I s) (fun _ _ => False) (own_JC HBW.out _ (by omega)) (fun _ _ _ _ h _ _ => h)
    (fun i W h => ⟨h.2.2.1.cell, h.2.2.2.cell⟩) (fun i W _ hb ⟨h1, h2, h3, h4⟩ => ⟨h1, by rw [cnt_f hb]; exact h2, h3, h4⟩) hJ0
    (fun x => { tmps := #[.pointer (some ⟨c, 0, none⟩), .pointer (some ⟨cs, 0, none⟩), .pointer (some ⟨cf, 0, none⟩), .int .i64 0, .pointer (some ⟨bl, 0, none⟩), .int .i64 (N : Int), .string s, .tuple #[], .int .i64 (I : Int), .bool false, .bool false, .int .i64 (I : Int), .int .i64 (N : Int), .bool false, .bool false, .tuple #[], .int .i64 (I : Int), .string s, .func (.func 106) #[] #[.pointer (some ⟨bl + 1, 0, none⟩), .pointer (some ⟨bl + 1 + 1, 0, none⟩)], .int .i64 (x : Int), undef, undef, undef], defers := [] }) ?_ ?_ ?_ ?_
  · intro lp x W K hK
    rw [Rf.zip1]
    change Code.wpIn _ _ _ _ _ { tmps := #[.pointer (some ⟨c, 0, none⟩), .pointer (some ⟨cs, 0, none⟩), .pointer (some ⟨cf, 0, none⟩), .int .i64 0, .pointer (some ⟨bl, 0, none⟩), .int .i64 (N : Int), .string s, .tuple #[], .int .i64 (I : Int), .bool false, .bool false, .int .i64 (I : Int), .int .i64 (N : Int), .bool false, .bool false, .tuple #[], .int .i64 (I : Int), .string s, .func (.func 106) #[] #[.pointer (some ⟨bl + 1, 0, none⟩), .pointer (some ⟨bl + 1 + 1, 0, none⟩)], .int .i64 (x : Int), undef, undef, undef], defers := [] } W
    gi_wp2
    exact hK
  · rintro lp x W hxN hbx ⟨hbe, hbr, hpn, hps⟩
    have cr := hbr.cell
    have fr := hbr.frozen
    have hle := cnt_le (bt s) x
    have ht : ((cnt (bt s) (x + 1) : Nat) : Int) = (cnt (bt s) x : Int) + 1 := by rw [cnt_t hbx]; omega
    have hJ1 : JC bl w1 I s (x + 1) (W.setCell ⟨bl, 0, none⟩ (.int .i64 ((cnt (bt s) x : Int) + 1))) := ⟨hbe.setCell (p := ⟨bl, 0, none⟩) (Nat.le_refl _) _, by rw [ht]; exact hbr.set _, hpn.kept (grownBy_setCell' W bl _) (by simp), hps.kept (grownBy_setCell' W bl _) (by simp; omega)⟩
    obtain ⟨j, hj⟩ : ∃ j, cnt (bt s) x = j := ⟨_, rfl⟩
    rw [hj] at cr hle hJ1
    have HX := Lib.hid hJ1
    clear hbx hbe hbr hpn hps hJ0 ht hJ1 hj
    gi_wp2
    exact ⟨KeepsOthers.setCell _ _ _, HX.out⟩
  · rintro D W hD ⟨hbe, hbr, hpn, hps⟩ hK
    have cr := hbr.cell
    obtain ⟨j, hj⟩ : ∃ j, cnt (bt s) I = j := ⟨_, rfl⟩
    rw [hj] at cr
    have HJ := Lib.hid hj
    have HBE := Lib.hid hbe
    have HK := Lib.hid hK
    clear hbe hK hbr hpn hps hJ0 hj
    gi_wp2_with fail
    refine ⟨by simp, .inl ⟨_, _, rfl, run_takeDeferred HK.out, ?_⟩⟩
    refine ⟨.int .i64 (j : Int), ?_, by rw [HJ.out], ?_⟩
    · simp [results, Tryd.results85, go_sem]
    · exact gb_trans HG.out (gb_below (by rw [HBL.out]; exact HBE.out.grown (grownBy_putObj' W D _) (Nat.le_trans HBW.out HBE.out.size) (fun k e => by cases e; omega)) none)
  · intro D c W hD h
    exact h.elim

theorem enterRank0 (args : Array Value) (w : World) : (callFunc 85 args).run Tryd.prog w = .ok (.enter 85 args) w := by kernel_rfl
set_option maxRecDepth 100000 in
set_option maxHeartbeats 1600000 in
theorem Rank0_no (n : Int) (s : ByteArray) (i : Int) (c cs ci : Nat) (w : World) (hs : s.size ≤ 140737488351232) (hc : w.cell? ⟨c, 0, none⟩ = some (.int .i64 n)) (hcs : w.cell? ⟨cs, 0, none⟩ = some (.string s)) (hci : w.cell? ⟨ci, 0, none⟩ = some (.int .i64 i)) (h : rkE n s i ≠ 0) :
    Calls Tryd.prog 85 #[.pointer (some ⟨c, 0, none⟩), .pointer (some ⟨cs, 0, none⟩), .pointer (some ⟨ci, 0, none⟩)] w fun e w' => e = .panicked [{ v := .iface 24 (.int .i64 (rkE n s i)), recovered := false }] ∧ w.grownBy w' none := by
  by_cases hcc : chk n s = 0
  · have hi : i < 0 ∨ n < i := by
      unfold rkE at h
      rw [if_pos hcc] at h
      by_cases e : i < 0 ∨ n < i
      · exact e
      · rw [if_neg e] at h; exact absurd rfl h
    rw [show rkE n s i = 7 from by unfold rkE; rw [if_pos hcc, if_pos hi]]
    have HA := Lib.hid (askField_ok n s w hs hcc)
    have HR := Lib.hid (fun w => Bc.refuse_yes 7 w)
    have HC := Lib.hid hc
    have HCI := Lib.hid hci
    by_cases h1 : i < 0
    · have d1 : decide (i < 0) = true := by simpa using h1
      clear h hcc hi
      go_enter Tryd.func85, Tryd.ntmps85
      go_wp2_with fail
      refine HA.out.mono ?_
      rintro e w1 ⟨rfl, hg⟩
      have k0 := gb_cell hg HC.out (by simp)
      have k2 := gb_cell hg HCI.out (by simp)
      have HG := Lib.hid hg
      clear hg hc hcs hci
      go_wp2_with fail
      refine (HR.out _).mono ?_
      rintro e w2 ⟨rfl, rfl⟩
      exact ⟨rfl, rfl, HG.out⟩
    · have d1 : decide (i < 0) = false := by simpa using h1
      have d2 : decide (n < i) = true := by simp; omega
      clear h hcc hi
      go_enter Tryd.func85, Tryd.ntmps85
      go_wp2_with fail
      refine HA.out.mono ?_
      rintro e w1 ⟨rfl, hg⟩
      have k0 := gb_cell hg HC.out (by simp)
      have k2 := gb_cell hg HCI.out (by simp)
      have HG := Lib.hid hg
      clear hg hc hcs hci
      go_wp2_with fail
      refine (HR.out _).mono ?_
      rintro e w2 ⟨rfl, rfl⟩
      exact ⟨rfl, rfl, HG.out⟩
  · rw [show rkE n s i = chk n s from if_neg hcc]
    have HA := Lib.hid (askField_no n s w hs hcc)
    obtain ⟨z, hz⟩ : ∃ z, chk n s = z := ⟨_, rfl⟩
    rw [hz] at HA ⊢
    clear hz h hcc
    go_enter Tryd.func85, Tryd.ntmps85
    go_wp2_with fail
    refine HA.out.mono ?_
    rintro e w1 ⟨rfl, hg⟩
    exact ⟨rfl, rfl, hg⟩

set_option maxRecDepth 100000 in
set_option maxHeartbeats 800000 in
theorem Rank_any (n : Int) (s : ByteArray) (i : Int) (w : World) (hs : s.size ≤ 140737488351232) :
    Calls Tryd.prog 38 #[.int .i64 n, .string s, .int .i64 i] w fun e w' => e = .returned (.tuple #[.int .i64 (rkV n s i), .int .i64 (rkE n s i)]) ∧ w.grownBy w' none := by
  have hmf : ∀ (fn : Fn) (first cap : Array Value) (w : World), (Instr.makeFunc fn first cap).run Tryd.prog w = .ok (.func fn first cap) w := fun _ _ _ _ => rfl
  have g := Be.aw_gb (bx3 w n s i)
  have H : Hid (Calls Tryd.prog 73 #[.func (Fn.func 85) #[] #[.pointer (some ⟨w.heap.size, 0, none⟩), .pointer (some ⟨w.heap.size + 1, 0, none⟩), .pointer (some ⟨w.heap.size + 1 + 1, 0, none⟩)]] (bx3 w n s i) fun e w' => e = .returned (.tuple #[.int .i64 (rkV n s i), .int .i64 (rkE n s i)]) ∧ (bx3 w n s i).grownBy w' none) := by
    refine Lib.hid ?_
    by_cases h : rkE n s i = 0
    · rw [h]
      refine (Be.att_ok 85 _ _ (bx3 w n s i) none (fun _ => True) (sta_true _) (fun _ h => by cases h) enterRank0 ((Rank0_any n s i _ _ _ _ hs (gb_cell g (bx3_k0 w n s i) (by simp)) (gb_cell g (bx3_k1 w n s i) (by simp)) (gb_cell g (bx3_k2 w n s i) (by simp)) h).mono fun e w' hh => ⟨hh.1, trivial, hh.2⟩)).mono fun e w' hh => ⟨hh.1, hh.2.2⟩
    · rw [show rkV n s i = 0 from if_neg h]
      refine (Be.att_no 85 _ (rkE n s i) (bx3 w n s i) none (fun _ => True) (sta_true _) (fun _ h => by cases h) enterRank0 ((Rank0_no n s i _ _ _ _ hs (gb_cell g (bx3_k0 w n s i) (by simp)) (gb_cell g (bx3_k1 w n s i) (by simp)) (gb_cell g (bx3_k2 w n s i) (by simp)) h).mono fun e w' hh => ⟨hh.1, trivial, hh.2⟩)).mono fun e w' hh => ⟨hh.1, hh.2.2⟩
  obtain ⟨x, hx⟩ : ∃ x, rkV n s i = x := ⟨_, rfl⟩
  obtain ⟨y, hy⟩ : ∃ y, rkE n s i = y := ⟨_, rfl⟩
  rw [hx, hy] at H ⊢
  have HW := Lib.hid (bx3_gb w n s i)
  clear hx hy g
  unfold bx3 bxs bx at H HW
  go_enter Tryd.func38, Tryd.ntmps38
  go_wp2_with fail
  refine H.out.mono ?_
  rintro e w1 ⟨rfl, hg⟩
  have HG := Lib.hid (gb_trans HW.out hg)
  clear hg
  go_wp2
  go_ret2
  exact ⟨rfl, HG.out⟩

set_option maxRecDepth 100000 in
set_option maxHeartbeats 800000 in
theorem Count_any (n : Int) (s : ByteArray) (w : World) (hs : s.size ≤ 140737488351232) :
    Calls Tryd.prog 36 #[.int .i64 n, .string s] w fun e w' => e = .returned (.tuple #[.int .i64 ((liL n s).length : Int), .int .i64 (chk n s)]) ∧ w.grownBy w' none := by
  have HR := Lib.hid (Rank_any n s n w hs)
  have e1 : rkE n s n = chk n s := by
    unfold rkE
    split
    · rename_i h
      obtain ⟨N, rfl, _⟩ := vd_t (chk_t h)
      rw [if_neg (by omega), h]
    · rfl
  have e2 : rkV n s n = ((liL n s).length : Int) := by
    unfold rkV
    rw [e1]
    unfold liL
    split
    · rfl
    · rfl
  rw [e1, e2] at HR
  obtain ⟨x, hx⟩ : ∃ x, (liL n s).length = x := ⟨_, rfl⟩
  obtain ⟨y, hy⟩ : ∃ y, chk n s = y := ⟨_, rfl⟩
  rw [hx, hy] at HR ⊢
  clear hx hy e1 e2
  go_enter Tryd.func36, Tryd.ntmps36
  go_wp2_with fail
  refine HR.out.mono ?_
  rintro e w1 ⟨rfl, hg⟩
  go_wp2
  go_ret2
  exact ⟨rfl, hg⟩
end Go.Proofs.YtbeaohnjifcgaaaDoor.Bh
