/-
  Acked: the program's function.
-/
import Derived.Test.YtdkfniijoamaoadEq
namespace Go.Proofs.Ytdkfniijoamaoad.Ew
open Go Go.RowKit Go.Proofs.Ytdkfniijoamaoad.Ee

/-- the limit behind bytes that were acknowledged -/
def ak (l th b : Int) : Int :=
  let n := if b < 1500 then b else 1500
  let m := if 0 < n ∧ th ≤ l then (if 1 < 1500 * n / l then 1500 * n / l else 1) else n
  if l + m < 1000000 then l + m else 1000000
theorem ak_big {l th b : Int} (h : 1500 ≤ b) : ak l th b = (let m := if th ≤ l then (if 1 < 2250000 / l then 2250000 / l else 1) else 1500; if l + m < 1000000 then l + m else 1000000) := by
  have e : (if b < 1500 then b else 1500) = 1500 := by split <;> omega
  unfold ak
  rw [e]
  simp only [show (0 : Int) < 1500 from by decide, true_and, show (1500 : Int) * 1500 = 2250000 from by decide]
theorem ak_in {l th b : Int} (h1 : 1500 ≤ l) (h2 : l ≤ 1000000) (hb : 0 ≤ b) : 1500 ≤ ak l th b ∧ ak l th b ≤ 1000000 := by
  have hq : ∀ n : Int, 0 ≤ 1500 * n / l ∨ n < 0 := by
    intro n
    by_cases h : 0 ≤ n
    · exact Or.inl (Int.ediv_nonneg (by omega) (by omega))
    · exact Or.inr (by omega)
  unfold ak
  dsimp only
  have := hq (if b < 1500 then b else 1500)
  generalize 1500 * (if b < 1500 then b else 1500) / l = q at this ⊢
  repeat' split
  all_goals omega

set_option maxHeartbeats 1600000 in
theorem AckedF_no (po pb c : Nat) (n a l th b : Int) (hv : Bool) (w : World) (h : Ob w c n hv a l th) (h1 : 1500 ≤ l) (hb : wn b 0 1000000 = false)
    (cp : w.cell? ⟨po, 0, none⟩ = some (.pointer (some ⟨c, 0, none⟩))) (cb : w.cell? ⟨pb, 0, none⟩ = some (.int .i64 b)) :
    Calls Try.prog 52 #[.pointer (some ⟨po, 0, none⟩), .pointer (some ⟨pb, 0, none⟩)] w fun e w' => e = .panicked [{ v := .iface 26 (.int .i64 7), recovered := false }] ∧ Below w.heap.size w w' := by
  have HA := Lib.hid (ask_any c n a l th hv w h h1)
  have HW := Lib.hid (within_f _ _ _ hb)
  clear h hb
  go_enter Try.func52, Try.ntmps52
  go_wp2_with fail
  refine HA.out.mono ?_
  rintro e w1 ⟨rfl, rfl⟩
  go_wp2_with fail
  refine (HW.out _).mono ?_
  rintro e w1 ⟨rfl, rfl⟩
  go_wp2_with fail
  refine (Eb.refuse_yes _ _).mono ?_
  rintro e w1 ⟨rfl, rfl⟩
  go_wp2_with fail
  simp [bodyPost]
  exact Below.refl w.heap.size w

theorem akset {W : World} {c : Nat} {n a x y th : Int} {hv : Bool} (h : Ob W c n hv a x th) (e : x = y) : Ob W c n hv a y th := e ▸ h

set_option linter.unusedSimpArgs false in
set_option maxHeartbeats 1600000 in
theorem AckedF_yes (po pb c : Nat) (n a l th b : Int) (hv : Bool) (w : World) (h : Ob w c n hv a l th) (h1 : 1500 ≤ l) (h2 : l ≤ 1000000) (hb : wn b 0 1000000 = true)
    (cp : w.cell? ⟨po, 0, none⟩ = some (.pointer (some ⟨c, 0, none⟩))) (cb : w.cell? ⟨pb, 0, none⟩ = some (.int .i64 b)) :
    Calls Try.prog 52 #[.pointer (some ⟨po, 0, none⟩), .pointer (some ⟨pb, 0, none⟩)] w fun e w' => e = .returned (.bool true) ∧ Ob w' c n hv a (ak l th b) th ∧ w.grownBy w' (some c) := by
  obtain ⟨b1, b2⟩ : 0 ≤ b ∧ b ≤ 1000000 := by unfold wn at hb; simpa using hb
  have HA := Lib.hid (ask_any c n a l th hv w h h1)
  have HW := Lib.hid (within_t _ _ _ hb)
  have c3 := h.c3
  have c4 := h.c4
  have f3 := h.fz 3
  have H2 := Lib.hid (fun k x => show Ob ((w.drewN k).setCell ⟨c, 3, none⟩ (.int .i64 x)) c n hv a x th from Ob.set3 (W := w.drewN k) h x)
  clear h hb
  go_enter Try.func52, Try.ntmps52
  go_wp2_with fail
  refine HA.out.mono ?_
  rintro e w1 ⟨rfl, rfl⟩
  go_wp2_with fail
  refine (HW.out _).mono ?_
  rintro e w1 ⟨rfl, rfl⟩
  go_wp2_with fail
  refine (Eb.refuse_no _ _).mono ?_
  rintro e w1 ⟨rfl, rfl⟩
  clear HA HW
  by_cases k1 : b < 1500
  · by_cases k2 : th ≤ l
    · by_cases k3 : 0 < b
      · have hq : 0 ≤ 1500 * b / l := Int.ediv_nonneg (by omega) (by omega)
        have hq2 : 1500 * b / l ≤ 1500 * b := Int.ediv_le_self _ (by omega)
        go_wp2_with fail
        go_quiet (fail)
        go_wp2_with fail
        all_goals go_region
        all_goals go_wp2
        all_goals
          go_ret
          exact ⟨rfl, akset (H2.out _ _) (by unfold ak; dsimp only; simp only [k1, k2, k3, if_true, if_false, and_true, and_false, true_and, false_and, and_self, show (0 : Int) < 1500 from by decide, show (1500 : Int) * 1500 = 2250000 from by decide, show ¬ (0 : Int) < 0 from by decide]; (repeat' split) <;> omega), gb_trans (gb_drew w _ _) (gb_set _ c 3 _)⟩
      · have k4 : b = 0 := by omega
        subst k4
        go_wp2_with fail
        go_quiet (fail)
        go_wp2_with fail
        all_goals go_region
        all_goals go_wp2
        all_goals
          go_ret
          exact ⟨rfl, akset (H2.out _ _) (by unfold ak; dsimp only; simp only [k1, k2, if_true, if_false, and_true, and_false, true_and, false_and, and_self, show (0 : Int) < 1500 from by decide, show (1500 : Int) * 1500 = 2250000 from by decide, show ¬ (0 : Int) < 0 from by decide]; (repeat' split) <;> omega), gb_trans (gb_drew w _ _) (gb_set _ c 3 _)⟩
    · by_cases k3 : 0 < b
      · go_wp2_with fail
        go_quiet (fail)
        go_wp2_with fail
        all_goals go_region
        all_goals go_wp2
        all_goals
          go_ret
          exact ⟨rfl, akset (H2.out _ _) (by unfold ak; dsimp only; simp only [k1, k2, k3, if_true, if_false, and_true, and_false, true_and, false_and, and_self, show (0 : Int) < 1500 from by decide, show (1500 : Int) * 1500 = 2250000 from by decide, show ¬ (0 : Int) < 0 from by decide]; (repeat' split) <;> omega), gb_trans (gb_drew w _ _) (gb_set _ c 3 _)⟩
      · have k4 : b = 0 := by omega
        subst k4
        go_wp2_with fail
        go_quiet (fail)
        go_wp2_with fail
        all_goals go_region
        all_goals go_wp2
        all_goals
          go_ret
          exact ⟨rfl, akset (H2.out _ _) (by unfold ak; dsimp only; simp only [k1, k2, if_true, if_false, and_true, and_false, true_and, false_and, and_self, show (0 : Int) < 1500 from by decide, show (1500 : Int) * 1500 = 2250000 from by decide, show ¬ (0 : Int) < 0 from by decide]; (repeat' split) <;> omega), gb_trans (gb_drew w _ _) (gb_set _ c 3 _)⟩
  · by_cases k5 : b = 1500
    · subst k5
      by_cases k2 : th ≤ l
      · have hq : 0 ≤ 2250000 / l := Int.ediv_nonneg (by omega) (by omega)
        have hq2 : 2250000 / l ≤ 2250000 := Int.ediv_le_self _ (by omega)
        go_wp2_with fail
        go_quiet (fail)
        go_wp2_with fail
        all_goals go_region
        all_goals go_wp2
        all_goals
          go_ret
          exact ⟨rfl, akset (H2.out _ _) (by rw [ak_big (by omega)]; dsimp only; (repeat' split) <;> omega), gb_trans (gb_drew w _ _) (gb_set _ c 3 _)⟩
      · skip
        go_wp2_with fail
        go_quiet (fail)
        go_wp2_with fail
        all_goals go_region
        all_goals go_wp2
        all_goals
          go_ret
          exact ⟨rfl, akset (H2.out _ _) (by rw [ak_big (by omega)]; dsimp only; (repeat' split) <;> omega), gb_trans (gb_drew w _ _) (gb_set _ c 3 _)⟩
    · have k6 : 1500 < b := by omega
      by_cases k2 : th ≤ l
      · have hq : 0 ≤ 2250000 / l := Int.ediv_nonneg (by omega) (by omega)
        have hq2 : 2250000 / l ≤ 2250000 := Int.ediv_le_self _ (by omega)
        go_wp2_with fail
        go_quiet (fail)
        go_wp2_with fail
        all_goals go_region
        all_goals go_wp2
        all_goals
          go_ret
          exact ⟨rfl, akset (H2.out _ _) (by rw [ak_big (by omega)]; dsimp only; (repeat' split) <;> omega), gb_trans (gb_drew w _ _) (gb_set _ c 3 _)⟩
      · skip
        go_wp2_with fail
        go_quiet (fail)
        go_wp2_with fail
        all_goals go_region
        all_goals go_wp2
        all_goals
          go_ret
          exact ⟨rfl, akset (H2.out _ _) (by rw [ak_big (by omega)]; dsimp only; (repeat' split) <;> omega), gb_trans (gb_drew w _ _) (gb_set _ c 3 _)⟩

end Go.Proofs.Ytdkfniijoamaoad.Ew
