/-
  Shared, Power; the law's check.
-/
import Derived.Test.YtionmnjcfnmpeaaDoorSi
import Derived.Test.YtionmnjcfnmpeaaDoorSc
import Derived.Deep.RegionWith
import Derived.RegionTactic
import Derived.BigRegion
namespace Go.Proofs.YtionmnjcfnmpeaaDoor.Sg
open Go Go.RowKit Go.Proofs.YtionmnjcfnmpeaaDoor.Hz

/-- a number below the prime -/
def nok (x : Int) : Bool := decide (0 ≤ x) && decide (x ≤ 2305843009213693950)
theorem nok_nat (x : Int) (h : nok x = true) : ∃ n : Nat, x = n ∧ n < P := by
  unfold nok at h
  simp at h
  rw [P_eq]
  exact ⟨x.toNat, by omega, by omega⟩

set_option maxRecDepth 1000000 in
set_option maxHeartbeats 800000 in
theorem askNumbers_yes (b : Nat) (x y : Int) (w : World) (hx : nok x = true) (hy : nok y = true) (cx : w.cell? ⟨b, 0, none⟩ = some (.int .i64 x)) (cy : w.cell? ⟨b, 1, none⟩ = some (.int .i64 y)) :
    Calls Tryd.prog 85 #[.slice (some ⟨b, 0, none⟩) 2 2] w fun e w' => e = .returned (.tuple #[]) ∧ w = w' := by
  unfold nok at hx hy
  simp at hx hy
  have k1 : decide (x < 0) = false := by simp; omega
  have k2 : decide (2305843009213693950 < x) = false := by simp; omega
  have k3 : decide (y < 0) = false := by simp; omega
  have k4 : decide (2305843009213693950 < y) = false := by simp; omega
  clear hx hy
  go_enter Tryd.func85, Tryd.ntmps85
  go_wp2_with fail
  refine wp_loop_rounds 3 ?_
  rw [rounds_succ]
  go_wp2_with fail
  refine (Sb.refuse_no _ _).mono ?_
  rintro e w1 ⟨rfl, rfl⟩
  go_wp2_with fail
  rw [rounds_succ]
  go_wp2_with fail
  refine (Sb.refuse_no _ _).mono ?_
  rintro e w1 ⟨rfl, rfl⟩
  go_wp2_with fail
  rw [rounds_succ]
  go_wp2_with fail
  go_end0
  exact ⟨rfl, rfl⟩

set_option maxRecDepth 1000000 in
set_option maxHeartbeats 800000 in
theorem askNumbers_no (b : Nat) (x y : Int) (w : World) (h : (nok x && nok y) = false) (cx : w.cell? ⟨b, 0, none⟩ = some (.int .i64 x)) (cy : w.cell? ⟨b, 1, none⟩ = some (.int .i64 y)) :
    Calls Tryd.prog 85 #[.slice (some ⟨b, 0, none⟩) 2 2] w fun e w' => e = .panicked [{ v := .iface 23 (.int .i64 7), recovered := false }] ∧ w = w' := by
  by_cases h1 : 0 ≤ x
  · have k1 : decide (x < 0) = false := by simp; omega
    by_cases h2 : x ≤ 2305843009213693950
    · have k2 : decide (2305843009213693950 < x) = false := by simp; omega
      by_cases h3 : 0 ≤ y
      · have k3 : decide (y < 0) = false := by simp; omega
        have k4 : decide (2305843009213693950 < y) = true := by
          unfold nok at h; simp [h1, h2, h3] at h; simp; omega
        clear h h1 h2 h3
        go_enter Tryd.func85, Tryd.ntmps85
        go_wp2_with fail
        refine wp_loop_rounds 3 ?_
        rw [rounds_succ]
        go_wp2_with fail
        refine (Sb.refuse_no _ _).mono ?_
        rintro e w1 ⟨rfl, rfl⟩
        go_wp2_with fail
        rw [rounds_succ]
        go_wp2_with fail
        refine (Sb.refuse_yes _ _).mono ?_
        rintro e w1 ⟨rfl, rfl⟩
        go_wp2_with fail
        simp [bodyPost]
      · have k3 : decide (y < 0) = true := by simp; omega
        clear h h1 h2 h3
        go_enter Tryd.func85, Tryd.ntmps85
        go_wp2_with fail
        refine wp_loop_rounds 3 ?_
        rw [rounds_succ]
        go_wp2_with fail
        refine (Sb.refuse_no _ _).mono ?_
        rintro e w1 ⟨rfl, rfl⟩
        go_wp2_with fail
        rw [rounds_succ]
        go_wp2_with fail
        refine (Sb.refuse_yes _ _).mono ?_
        rintro e w1 ⟨rfl, rfl⟩
        go_wp2_with fail
        simp [bodyPost]
    · have k2 : decide (2305843009213693950 < x) = true := by simp; omega
      clear h h1 h2
      go_enter Tryd.func85, Tryd.ntmps85
      go_wp2_with fail
      refine wp_loop_rounds 3 ?_
      rw [rounds_succ]
      go_wp2_with fail
      refine (Sb.refuse_yes _ _).mono ?_
      rintro e w1 ⟨rfl, rfl⟩
      go_wp2_with fail
      simp [bodyPost]
  · have k1 : decide (x < 0) = true := by simp; omega
    clear h h1
    go_enter Tryd.func85, Tryd.ntmps85
    go_wp2_with fail
    refine wp_loop_rounds 3 ?_
    rw [rounds_succ]
    go_wp2_with fail
    refine (Sb.refuse_yes _ _).mono ?_
    rintro e w1 ⟨rfl, rfl⟩
    go_wp2_with fail
    simp [bodyPost]
end Go.Proofs.YtionmnjcfnmpeaaDoor.Sg
