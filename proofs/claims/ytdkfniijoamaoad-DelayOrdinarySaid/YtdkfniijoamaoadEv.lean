/-
  An ordinary control: the reference's methods.
-/
import Derived.Test.YtdkfniijoamaoadEq
import Derived.Test.YtdkfniijoamaoadEt
namespace Go.Proofs.Ytdkfniijoamaoad.Ew
open Go Go.RowKit Go.Proofs.Ytdkfniijoamaoad.Ee

theorem rbset {W : World} {c : Nat} {n a x y th : Int} {hv : Bool} (h : Rb W c n hv a x th) (e : x = y) : Rb W c n hv a y th := e ▸ h

set_option linter.unusedSimpArgs false in
set_option maxHeartbeats 1600000 in
theorem RAcked_yes (c : Nat) (n a l th b : Int) (hv : Bool) (w : World) (h : Rb w c n hv a l th) (h1 : 1500 ≤ l) (h2 : l ≤ 1000000) (hb : wn b 0 1000000 = true) :
    Calls Try.prog 21 #[.pointer (some ⟨c, 0, none⟩), .int .i64 b] w fun e w' => e = .returned (.int .i64 0) ∧ Rb w' c n hv a (ak l th b) th ∧ w.grownBy w' (some c) := by
  obtain ⟨b1, b2⟩ : 0 ≤ b ∧ b ≤ 1000000 := by unfold wn at hb; simpa using hb
  have HW := Lib.hid (right_t _ _ _ hb)
  have c2 := h.c2
  have c3 := h.c3
  have f2 := h.fz 2
  have H2 := Lib.hid (fun k x => show Rb ((w.drewN k).setCell ⟨c, 2, none⟩ (.int .i64 x)) c n hv a x th from Rb.set2 (W := w.drewN k) h x)
  by_cases k0 : b = 0
  · have HZ := Lib.hid (show Rb w c n hv a (ak l th b) th from rbset h (by subst k0; unfold ak; dsimp only; split <;> simp <;> omega))
    subst k0
    clear h hb
    go_enter Try.func21, Try.ntmps21
    go_wp2_with fail
    refine (HW.out _).mono ?_
    rintro e w1 ⟨rfl, rfl⟩
    go_wp2
    go_ret
    exact ⟨rfl, HZ.out, gb_drew w 0 _⟩
  · clear h hb
    have k3 : 0 < b := by omega
    go_enter Try.func21, Try.ntmps21
    go_wp2_with fail
    refine (HW.out _).mono ?_
    rintro e w1 ⟨rfl, rfl⟩
    by_cases k1 : b < 1500
    · have hq : 0 ≤ 1500 * b / l := Int.ediv_nonneg (by omega) (by omega)
      have hq2 : 1500 * b / l ≤ 1500 * b := Int.ediv_le_self _ (by omega)
      by_cases k2 : th ≤ l
      · go_wp2_with fail
        all_goals go_quiet (fail)
        all_goals go_wp2
        all_goals
          go_ret
          exact ⟨rfl, rbset (H2.out _ _) (by unfold ak; dsimp only; simp only [k1, k2, k3, if_true, if_false, and_true, and_false, true_and, false_and, and_self]; (repeat' split) <;> omega), gb_trans (gb_drew w _ _) (gb_set _ c 2 _)⟩
      · go_wp2_with fail
        all_goals go_quiet (fail)
        all_goals go_wp2
        all_goals
          go_ret
          exact ⟨rfl, rbset (H2.out _ _) (by unfold ak; dsimp only; simp only [k1, k2, k3, if_true, if_false, and_true, and_false, true_and, false_and, and_self]; (repeat' split) <;> omega), gb_trans (gb_drew w _ _) (gb_set _ c 2 _)⟩
    · have hq : 0 ≤ 2250000 / l := Int.ediv_nonneg (by omega) (by omega)
      have hq2 : 2250000 / l ≤ 2250000 := Int.ediv_le_self _ (by omega)
      by_cases k2 : th ≤ l
      · by_cases k5 : b = 1500
        · subst k5
          go_wp2_with fail
          all_goals go_quiet (fail)
          all_goals go_wp2
          all_goals
            go_ret
            exact ⟨rfl, rbset (H2.out _ _) (by rw [ak_big (by omega)]; dsimp only; (repeat' split) <;> omega), gb_trans (gb_drew w _ _) (gb_set _ c 2 _)⟩
        · have k6 : 1500 < b := by omega
          go_wp2_with fail
          all_goals go_quiet (fail)
          all_goals go_wp2
          all_goals
            go_ret
            exact ⟨rfl, rbset (H2.out _ _) (by rw [ak_big (by omega)]; dsimp only; (repeat' split) <;> omega), gb_trans (gb_drew w _ _) (gb_set _ c 2 _)⟩
      · by_cases k5 : b = 1500
        · subst k5
          go_wp2_with fail
          all_goals go_quiet (fail)
          all_goals go_wp2
          all_goals
            go_ret
            exact ⟨rfl, rbset (H2.out _ _) (by rw [ak_big (by omega)]; dsimp only; (repeat' split) <;> omega), gb_trans (gb_drew w _ _) (gb_set _ c 2 _)⟩
        · have k6 : 1500 < b := by omega
          go_wp2_with fail
          all_goals go_quiet (fail)
          all_goals go_wp2
          all_goals
            go_ret
            exact ⟨rfl, rbset (H2.out _ _) (by rw [ak_big (by omega)]; dsimp only; (repeat' split) <;> omega), gb_trans (gb_drew w _ _) (gb_set _ c 2 _)⟩

set_option maxHeartbeats 400000 in
theorem RAcked_no (c : Nat) (b : Int) (w : World) (hb : wn b 0 1000000 = false) :
    Calls Try.prog 21 #[.pointer (some ⟨c, 0, none⟩), .int .i64 b] w fun e w' => e = .returned (.int .i64 7) ∧ w = w' := by
  have HW := Lib.hid (right_f _ _ _ hb)
  clear hb
  go_enter Try.func21, Try.ntmps21
  go_wp2_with fail
  refine (HW.out _).mono ?_
  rintro e w1 ⟨rfl, rfl⟩
  go_wp2
  go_ret
  exact ⟨rfl, rfl⟩

set_option maxHeartbeats 800000 in
theorem ROut_any (c : Nat) (n a l th : Int) (hv : Bool) (w : World) (h : Rb w c n hv a l th) (h1 : 1500 ≤ l) (h2 : l ≤ 1000000) :
    Calls Try.prog 19 #[.pointer (some ⟨c, 0, none⟩)] w fun e w' => e = .returned (.int .i64 0) ∧ Rb w' c n hv a 1500 (hl l) ∧ w.grownBy w' (some c) := by
  have c2 := h.c2
  have c3 := h.c3
  have f2 := h.fz 2
  have f3 := h.fz 3
  by_cases h3 : 3000 < l / 2
  · rw [show hl l = l / 2 from if_pos h3]
    have H2 := Lib.hid ((h.set3 (l / 2)).set2 1500)
    have HG := Lib.hid (gb_trans (gb_set w c 3 (.int .i64 (l / 2))) (gb_set (w.setCell ⟨c, 3, none⟩ (.int .i64 (l / 2))) c 2 (.int .i64 1500)))
    clear h
    go_enter Try.func19, Try.ntmps19
    go_wp2
    go_ret
    exact ⟨rfl, H2.out, HG.out⟩
  · rw [show hl l = 3000 from if_neg h3]
    have H2 := Lib.hid ((h.set3 3000).set2 1500)
    have HG := Lib.hid (gb_trans (gb_set w c 3 (.int .i64 3000)) (gb_set (w.setCell ⟨c, 3, none⟩ (.int .i64 3000)) c 2 (.int .i64 1500)))
    clear h
    by_cases h4 : l / 2 = 3000
    · go_enter Try.func19, Try.ntmps19
      go_wp2
      go_ret
      exact ⟨rfl, H2.out, HG.out⟩
    · have h5 : l / 2 < 3000 := by omega
      go_enter Try.func19, Try.ntmps19
      go_wp2
      go_ret
      exact ⟨rfl, H2.out, HG.out⟩
set_option maxHeartbeats 400000 in
theorem RLimit_any (c : Nat) (n a l th : Int) (hv : Bool) (w : World) (h : Rb w c n hv a l th) :
    Calls Try.prog 23 #[.pointer (some ⟨c, 0, none⟩)] w fun e w' => e = .returned (.int .i64 l) ∧ w = w' := by
  have c2 := h.c2
  clear h
  go_enter Try.func23, Try.ntmps23
  go_wp2
  go_ret
  exact ⟨rfl, rfl⟩
set_option maxHeartbeats 400000 in
theorem RNew_any (w : World) :
    Calls Try.prog 15 #[] w fun e w' => e = .returned (.pointer (some ⟨w.heap.size, 0, none⟩)) ∧ Rb w' w.heap.size 0 false 0 3000 1000000 ∧ w.grownBy w' none := by
  go_enter Try.func15, Try.ntmps15
  go_wp2
  go_ret
  exact ⟨rfl, World.alloc_heap_new _ _, World.grownBy_alloc _ _ _⟩
end Go.Proofs.Ytdkfniijoamaoad.Ew
