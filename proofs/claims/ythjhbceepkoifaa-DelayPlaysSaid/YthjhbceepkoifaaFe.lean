/-
  move at any fill.
-/
import Derived.Test.YthjhbceepkoifaaFd
namespace Go.Proofs.Ythjhbceepkoifaa.Fe
open Go Go.RowKit Go.Proofs.Ythjhbceepkoifaa.Ec Go.Proofs.Ythjhbceepkoifaa.Ee Go.Proofs.Ythjhbceepkoifaa.Rg Go.Proofs.Ythjhbceepkoifaa.Fa Go.Proofs.Ythjhbceepkoifaa.Fb Go.Proofs.Ythjhbceepkoifaa.Fc Go.Proofs.Ythjhbceepkoifaa.Fd

/-- within the bounds of a limit -/
def bnd (n : Int) : Int := min 1000000 (max 1500 n)
set_option maxHeartbeats 400000 in
theorem bound_any (n : Int) (w : World) : Calls Try.prog 61 #[.int .i64 n] w fun e w' => e = .returned (.int .i64 (bnd n)) ∧ w' = w := by
  unfold bnd
  go_enter Try.func61, Try.ntmps61
  go_wp2
  all_goals
    go_ret
    refine ⟨?_, rfl⟩
    first
      | (show Ending.returned (Value.int .i64 n) = _; congr 2; omega)
      | (show Ending.returned (Value.int .i64 1500) = _; congr 2; omega)
      | (show Ending.returned (Value.int .i64 1000000) = _; congr 2; omega)

/-- how far off the target -/
def off (target q : Int) : Int := max (-target) (target - q)
/-- the change that a sample asks -/
def chg (target limit q bytes : Int) : Int := (3000 * off target q * bytes).tdiv (target * limit)
/-- the limit behind a sample -/
def mvd (target limit q bytes under : Int) : Int :=
  if 0 < chg target limit q bytes then (if 2 * under < limit then limit else bnd (limit + min (chg target limit q bytes) bytes)) else bnd (limit + chg target limit q bytes)

theorem off_in {target q : Int} (h1 : 1 ≤ target) (h2 : target ≤ 1000) (h3 : 0 ≤ q) : -1000 ≤ off target q ∧ off target q ≤ 1000 := by unfold off; omega
theorem prod_in {a b : Int} (h1 : -1000 ≤ a) (h2 : a ≤ 1000) (h3 : 0 ≤ b) (h4 : b ≤ 1000000) : -3000000000000 ≤ 3000 * a * b ∧ 3000 * a * b ≤ 3000000000000 := by
  have e1 : 3000 * a * b ≤ 3000000 * b := Int.mul_le_mul_of_nonneg_right (by omega) h3
  have e2 : -3000000 * b ≤ 3000 * a * b := Int.mul_le_mul_of_nonneg_right (by omega) h3
  omega
theorem den_in {t l : Int} (h1 : 1 ≤ t) (h2 : t ≤ 1000) (h3 : 1500 ≤ l) (h4 : l ≤ 1000000) : 1500 ≤ t * l ∧ t * l ≤ 1000000000 := by
  have e1 : t * l ≤ 1000 * l := Int.mul_le_mul_of_nonneg_right h2 (by omega)
  have e2 : 1 * l ≤ t * l := Int.mul_le_mul_of_nonneg_right h1 (by omega)
  omega
theorem quo_in {a b : Int} (h1 : -3000000000000 ≤ a) (h2 : a ≤ 3000000000000) (_hb : 1500 ≤ b) : -3000000000000 ≤ a.tdiv b ∧ a.tdiv b ≤ 3000000000000 := by
  have h := Int.natAbs_tdiv_le_natAbs a b
  omega

section
variable {w : World} {c : Nat} {now : Int} {hv : Bool} {at' target limit : Int} {bs : List (Int × Int)} {zs : List Int} {ml fl : Value}
theorem qd_in (bs : List (Int × Int)) (zs : List Int) : 0 ≤ qd bs zs ∧ qd bs zs ≤ 10000 := by unfold qd; omega

set_option maxRecDepth 100000 in
set_option maxHeartbeats 4000000 in
theorem move_any (h : Rings w c now hv at' target limit bs zs ml fl) (hne : bs ≠ []) (hnz : zs ≠ []) (bytes under : Int) (ht : 1 ≤ target ∧ target ≤ 1000) (hl : 1500 ≤ limit ∧ limit ≤ 1000000) (hb : 0 ≤ bytes ∧ bytes ≤ 1000000) (hu : 0 ≤ under ∧ under ≤ 1000000) :
    Calls Try.prog 47 #[.pointer (some ⟨c, 0, none⟩), .int .i64 bytes, .int .i64 under] w fun e w' => e = .returned (.tuple #[]) ∧ Ctl w' c now hv at' target (mvd target limit (qd bs zs) bytes under) ml fl ∧ w.grownBy w' (some c) := by
  obtain ⟨t1, t2⟩ := ht
  obtain ⟨l1, l2⟩ := hl
  obtain ⟨b1, b2⟩ := hb
  obtain ⟨u1, u2⟩ := hu
  have hC := h.ctl
  have hc : c < w.heap.size := hC.lt
  have c3 := hC.c3
  have hQ1 : Calls Try.prog 50 #[.pointer (some ⟨c, 0, none⟩)] w.drew fun e w' => e = .returned (.int .i64 (qd bs zs)) ∧ Below w.heap.size w.drew w' := queueing_any (w := w.drew) ⟨hC, h.rm.kept (gb_drew w 1 none) (by simp), h.rf.kept (gb_drew w 1 none) (by simp), h.lm, h.lf, h.mc, h.fc, h.mf⟩ hne hnz
  obtain ⟨q1, q2⟩ := qd_in bs zs
  obtain ⟨q, hq⟩ : ∃ q, qd bs zs = q := ⟨_, rfl⟩
  rw [hq] at hQ1 q1 q2 ⊢
  obtain ⟨o1, o2⟩ := off_in (q := q) t1 t2 q1
  obtain ⟨p1, p2⟩ := prod_in o1 o2 b1 b2
  obtain ⟨d1, d2⟩ := den_in t1 t2 l1 l2
  obtain ⟨r1, r2⟩ := quo_in p1 p2 d1
  have hm : (if IntKind.i64.wrap (-target) < IntKind.i64.wrap (target - q) then IntKind.i64.wrap (target - q) else IntKind.i64.wrap (-target)) = off target q := by
    rw [show IntKind.i64.wrap (-target) = -target by rw [IntKind.wrap_i64]; omega, show IntKind.i64.wrap (target - q) = target - q by rw [IntKind.wrap_i64]; omega]
    unfold off; split <;> omega
  have hmv : mvd target limit q bytes under = if 0 < (3000 * off target q * bytes).tdiv (target * limit) then (if 2 * under < limit then limit else bnd (limit + min ((3000 * off target q * bytes).tdiv (target * limit)) bytes)) else bnd (limit + (3000 * off target q * bytes).tdiv (target * limit)) := rfl
  rw [hmv]
  have hm2 : (if -target < target - q then target - q else -target) = off target q := by unfold off; split <;> omega
  have hdz : target * limit ≠ 0 := by omega
  have hw1 : IntKind.i64.wrap (-target) = -target := by rw [IntKind.wrap_i64]; omega
  have hw2 : IntKind.i64.wrap (target - q) = target - q := by rw [IntKind.wrap_i64]; omega
  have hw3 : IntKind.i64.wrap (3000 * off target q) = 3000 * off target q := by rw [IntKind.wrap_i64]; omega
  have hw4 : IntKind.i64.wrap (3000 * off target q * bytes) = 3000 * off target q * bytes := by rw [IntKind.wrap_i64]; omega
  have hw5 : IntKind.i64.wrap (target * limit) = target * limit := by rw [IntKind.wrap_i64]; omega
  have hw6 : IntKind.i64.wrap ((3000 * off target q * bytes).tdiv (target * limit)) = (3000 * off target q * bytes).tdiv (target * limit) := by rw [IntKind.wrap_i64]; omega
  have hw7 : IntKind.i64.wrap (2 * under) = 2 * under := by rw [IntKind.wrap_i64]; omega
  have hw8 : IntKind.i64.wrap (limit + (3000 * off target q * bytes).tdiv (target * limit)) = limit + (3000 * off target q * bytes).tdiv (target * limit) := by rw [IntKind.wrap_i64]; omega
  have HQ := Lib.hid hQ1
  have HC := Lib.hid hC
  clear hQ1 hC h
  go_enter Try.func47, Try.ntmps47
  go_wp2_with fail
  go_region_with (go_at_call 50; refine HQ.out.mono ?_; rintro e w1 ⟨rfl, hb1⟩; have hgb1 := gb_below (a := w.drew) hb1 (none : Option Nat); have hC1 := (show Ctl w.drew c now hv at' target limit ml fl from HC.out).kept hgb1 (by simp); have d3 := hC1.c3; have d4 := hC1.c4; have f4 := hC1.fz 4)
  all_goals
    clear hm
    go_wp2_with fail
    go_quiet (fail)
    go_wp2_with (go_at_call 61; refine (bound_any _ _).mono ?_; rintro e w2 ⟨rfl, rfl⟩)
  all_goals
    first
      | (go_end0
         refine ⟨rfl, ?_, ?_⟩
         · first
             | exact (show Ctl (w1.drewN nq) c now hv at' target limit ml fl from hC1).set4 _
             | (rw [show min ((3000 * off target q * bytes).tdiv (target * limit)) bytes = bytes by omega]; exact (show Ctl (w1.drewN nq) c now hv at' target limit ml fl from hC1).set4 _)
             | (rw [show min ((3000 * off target q * bytes).tdiv (target * limit)) bytes = (3000 * off target q * bytes).tdiv (target * limit) by omega]; exact (show Ctl (w1.drewN nq) c now hv at' target limit ml fl from hC1).set4 _)
         · exact gb_trans (gb_trans (gb_trans (gb_drew w 1 _) (gb_none hgb1 _)) (gb_drew w1 nq _)) (gb_set _ c 4 _))
      | (refine bodyPost_ret (results_none rfl _ _ _) rfl ?_
         exact ⟨rfl, hC1, gb_trans (gb_trans (gb_drew w 1 _) (gb_none hgb1 _)) (gb_drew w1 nq _)⟩)
end
end Go.Proofs.Ythjhbceepkoifaa.Fe
