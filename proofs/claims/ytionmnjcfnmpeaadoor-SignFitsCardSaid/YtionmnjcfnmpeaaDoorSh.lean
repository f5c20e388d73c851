/-
  The reference's products and powers; keys.
-/
import Derived.Test.YtionmnjcfnmpeaaDoorSg
import Derived.Test.YtionmnjcfnmpeaaDoorSb
namespace Go.Proofs.YtionmnjcfnmpeaaDoor.Sg
open Go Go.RowKit Go.Proofs.YtionmnjcfnmpeaaDoor.Hz

set_option maxRecDepth 1000000 in
set_option maxHeartbeats 800000 in
theorem RMul_any (a b m : Nat) (hm : m ≤ 2305843009213693951) (ha : a < m) (hb : b ≤ 9223372036854775807) (w : World) :
    Calls Tryd.prog 51 #[.int .i64 a, .int .i64 b, .int .i64 m] w fun e w' => e = .returned (.int .i64 ((a * b % m : Nat) : Int)) ∧ w = w' := by
  have hm2 : (m : Int) ≤ 2305843009213693951 := by omega
  have hm1 : (1 : Int) ≤ m := by omega
  obtain ⟨res, hres⟩ : ∃ res, a * b % m = res := ⟨_, rfl⟩
  rw [hres]
  have HS := Lib.hid hres
  clear hres
  have HB := Lib.hid (And.intro ha (And.intro hb hm))
  go_enter Tryd.func51, Tryd.ntmps51
  go_wp2
  clear ha hb hm
  go_loop [0, 1, 7] (fun x y z => ∃ a' b' o : Nat, x = .int .i64 a' ∧ y = .int .i64 b' ∧ z = .int .i64 o ∧ a' < m ∧ o < m ∧ b' ≤ b ∧ (o + a' * b') % m = res) (fun _ y _ => (intOf y).toNat)
  case atStart => exact ⟨a, b, 0, rfl, rfl, rfl, HB.out.1, by have := HB.out.1; omega, Nat.le_refl _, by rw [← HS.out, Nat.zero_add]⟩
  case round =>
    obtain ⟨a', b', o, rfl, rfl, rfl, h1, h2, h3, h4⟩ := hrel
    have h1' : (a' : Int) < m := by omega
    have h2' : (o : Int) < m := by omega
    have h3' : (b' : Int) ≤ 9223372036854775807 := by have := HB.out.2.1; omega
    have H := Lib.hid (And.intro h1 (And.intro h2 (And.intro h3 h4)))
    by_cases h0 : b' = 0
    · subst h0
      obtain rfl : o = res := by rw [← h4, Nat.mul_zero, Nat.add_zero, Nat.mod_eq_of_lt h2]
      clear h1 h2 h3 h4
      go_wp2
      go_ret
      exact ⟨rfl, rfl⟩
    · have h0' : (1 : Int) ≤ b' := by omega
      have M := Lib.hid (show b' / 2 < b' by omega)
      by_cases hp : b' % 2 = 1
      · have hp' : ((b' : Int) % 2 == 1) = true := by simp; omega
        have HP := Lib.hid hp
        clear h0 h1 h2 h3 h4 hp
        go_wp2
        refine ⟨⟨(a' + a') % m, b' / 2, (o + a') % m, ?_, ?_, ?_, Nat.mod_lt _ (by omega), Nat.mod_lt _ (by omega), by have := H.out.2.2.1; omega, ?_⟩, ?_⟩
        · first | rfl | simp
        · first | rfl | simp
        · first | rfl | simp
        · rw [mul_odd m o a' b' HP.out]; exact H.out.2.2.2
        · have := M.out; simp [intOf]; omega
      · have hp' : ((b' : Int) % 2 == 1) = false := by simp; omega
        have HP := Lib.hid (show b' % 2 = 0 by omega)
        clear h0 h1 h2 h3 h4 hp
        go_wp2
        refine ⟨⟨(a' + a') % m, b' / 2, o, ?_, ?_, rfl, Nat.mod_lt _ (by omega), H.out.2.1, by have := H.out.2.2.1; omega, ?_⟩, ?_⟩
        · first | rfl | simp
        · first | rfl | simp
        · rw [mul_even m o a' b' HP.out]; exact H.out.2.2.2
        · have := M.out; simp [intOf]; omega

theorem RMulP (a b : Nat) (ha : a < P) (hb : b < P) (w : World) :
    Calls Tryd.prog 51 #[.int .i64 a, .int .i64 b, .int .i64 2305843009213693951] w fun e w' => e = .returned (.int .i64 ((a * b % P : Nat) : Int)) ∧ w = w' := by
  have hP : P = 2305843009213693951 := by decide +kernel
  rw [← castP]; exact RMul_any a b P (by omega) ha (by omega) w

set_option maxRecDepth 1000000 in
set_option maxHeartbeats 800000 in
theorem RPow_any (a n : Nat) (ha : a < P) (hn : n ≤ 9223372036854775807) (w : World) :
    Calls Tryd.prog 50 #[.int .i64 a, .int .i64 n] w fun e w' => e = .returned (.int .i64 ((a ^ n % P : Nat) : Int)) ∧ w = w' := by
  have HB := Lib.hid (And.intro ha hn)
  have hP0 : 1 < P := by decide +kernel
  have HP0 := Lib.hid hP0
  obtain ⟨res, hres⟩ : ∃ res, a ^ n % P = res := ⟨_, rfl⟩
  rw [hres]
  have HS := Lib.hid hres
  clear hres
  go_enter Tryd.func50, Tryd.ntmps50
  go_wp2
  clear ha hn hP0
  go_loop [0, 1, 5] (fun x y z => ∃ a' n' o : Nat, x = .int .i64 a' ∧ y = .int .i64 n' ∧ z = .int .i64 o ∧ a' < P ∧ o < P ∧ n' ≤ n ∧ o * a' ^ n' % P = res) (fun _ y _ => (intOf y).toNat)
  case atStart => exact ⟨a, n, 1, rfl, rfl, rfl, HB.out.1, HP0.out, Nat.le_refl _, by rw [Nat.one_mul, HS.out]⟩
  case round =>
    obtain ⟨a', n', o, rfl, rfl, rfl, h1, h2, h3, h4⟩ := hrel
    have h3' : (n' : Int) ≤ 9223372036854775807 := by have := HB.out.2; omega
    have H := Lib.hid (And.intro h1 (And.intro h2 (And.intro h3 h4)))
    by_cases h0 : n' = 0
    · subst h0
      obtain rfl : o = res := by rw [← h4, Nat.pow_zero, Nat.mul_one, Nat.mod_eq_of_lt h2]
      clear h1 h2 h3 h4
      go_wp2
      go_ret
      exact ⟨rfl, rfl⟩
    · have h0' : (1 : Int) ≤ n' := by omega
      have M := Lib.hid (show n' / 2 < n' by omega)
      have q1 := Lib.hid (RMulP o a' h2 h1)
      have q2 := Lib.hid (RMulP a' a' h1 h1)
      by_cases hp : n' % 2 = 1
      · have hp' : ((n' : Int) % 2 == 1) = true := by simp; omega
        have HP := Lib.hid hp
        clear h0 h1 h2 h3 h4 hp
        go_wp2_with fail
        refine (q1.out _).mono ?_
        rintro e w1 ⟨rfl, rfl⟩
        go_wp2_with fail
        refine (q2.out _).mono ?_
        rintro e w1 ⟨rfl, rfl⟩
        go_wp2_with fail
        refine ⟨⟨a' * a' % P, n' / 2, o * a' % P, rfl, ?_, rfl, Nat.mod_lt _ (by have := HP0.out; omega), Nat.mod_lt _ (by have := HP0.out; omega), by have := H.out.2.2.1; omega, ?_⟩, ?_⟩
        · first | rfl | simp
        · rw [pow_odd o a' n' HP.out]; exact H.out.2.2.2
        · have := M.out; simp [intOf]; omega
      · have hp' : ((n' : Int) % 2 == 1) = false := by simp; omega
        have HP := Lib.hid (show n' % 2 = 0 by omega)
        clear h0 h1 h2 h3 h4 hp
        go_wp2_with fail
        refine (q2.out _).mono ?_
        rintro e w1 ⟨rfl, rfl⟩
        go_wp2_with fail
        refine ⟨⟨a' * a' % P, n' / 2, o, rfl, ?_, rfl, Nat.mod_lt _ (by have := HP0.out; omega), H.out.2.1, by have := H.out.2.2.1; omega, ?_⟩, ?_⟩
        · first | rfl | simp
        · rw [pow_even o a' n' HP.out]; exact H.out.2.2.2
        · have := M.out; simp [intOf]; omega
end Go.Proofs.YtionmnjcfnmpeaaDoor.Sg
