/-
  product: a product modulo the prime.
-/
import Derived.Test.YtionmnjcfnmpeaaDoorSd
namespace Go.Proofs.YtionmnjcfnmpeaaDoor.Sg
open Go Go.RowKit

set_option maxRecDepth 1000000 in
set_option maxHeartbeats 1000000 in
theorem Div64_lo (m lo : Nat) (hm : m = P) (hl : lo < 18446744073709551616) (w : World) :
    Calls Tryd.prog 94 #[.int .u64 0, .int .u64 lo, .int .u64 (m : Int)] w fun e w' => (∃ q : Int, e = .returned (.tuple #[.int .u64 q, .int .u64 ((lo % P : Nat) : Int)])) ∧ ∃ n, w' = w.drewN n := by
  have hma : m ≤ 2305843009213693951 := by rw [hm]; decide +kernel
  have hmb : 2305843009213693951 ≤ m := by rw [hm]; decide +kernel
  have HM := Lib.hid hm
  clear hm
  go_enter Tryd.func94, Tryd.ntmps94
  go_wp2_with fail
  go_quiet (fail)
  go_wp2_with fail
  go_ret2
  exact ⟨⟨_, by rw [← HM.out]; rfl⟩, _, rfl⟩

theorem prod_hi (a b : Nat) (ha : a < P) (hb : b < P) : a * b / 18446744073709551616 < P ∧ a * b < 340282366920938463463374607431768211456 := by
  have h : a * b ≤ (P - 1) * (P - 1) := Nat.mul_le_mul (by omega) (by omega)
  have e : (P - 1) * (P - 1) < 18446744073709551616 * P := by decide +kernel
  have e2 : (P - 1) * (P - 1) < 340282366920938463463374607431768211456 := by decide +kernel
  exact ⟨Nat.div_lt_of_lt_mul (by omega), by omega⟩

set_option maxRecDepth 1000000 in
set_option maxHeartbeats 1000000 in
theorem product_any (m a b : Nat) (hm : m = P) (ha : a < P) (hb : b < P) (w : World) :
    Calls Tryd.prog 46 #[.int .u64 a, .int .u64 b, .int .u64 (m : Int)] w fun e w' => e = .returned (.int .u64 ((a * b % P : Nat) : Int)) ∧ ∃ n, w' = w.drewN n := by
  have hP : P < 18446744073709551616 := by decide +kernel
  have hM := Mul64_any a b (by omega) (by omega) w
  obtain ⟨hp, _⟩ := prod_hi a b ha hb
  have hlt : a * b % 18446744073709551616 < 18446744073709551616 := Nat.mod_lt _ (by omega)
  have hd : a * b = a * b / 18446744073709551616 * 18446744073709551616 + a * b % 18446744073709551616 := by omega
  generalize h1 : a * b / 18446744073709551616 = h at *
  generalize h2 : a * b % 18446744073709551616 = l at *
  generalize h3 : a * b = ab at *
  subst hd
  have HM := Lib.hid hM
  clear hM h1 h2 h3 ha hb hP
  rcases Nat.eq_zero_or_pos h with h0 | h0
  · subst h0
    have HD := Lib.hid (Div64_lo m l hm hlt w)
    clear hp hlt hm
    go_enter Tryd.func46, Tryd.ntmps46
    go_wp2_with fail
    refine HM.out.mono ?_
    rintro e w1 ⟨rfl, rfl⟩
    go_wp2_with fail
    refine HD.out.mono ?_
    rintro e w1 ⟨⟨q, rfl⟩, n, rfl⟩
    go_wp2_with fail
    go_ret
    exact ⟨by simp, n, rfl⟩
  · have HD := Lib.hid (Div64_hi m h l hm h0 (by omega) hlt w)
    clear hp hlt hm h0
    go_enter Tryd.func46, Tryd.ntmps46
    go_wp2_with fail
    refine HM.out.mono ?_
    rintro e w1 ⟨rfl, rfl⟩
    go_wp2_with fail
    refine HD.out.mono ?_
    rintro e w1 ⟨⟨q, rfl⟩, rfl⟩
    go_wp2_with fail
    go_ret
    exact ⟨rfl, 0, rfl⟩
end Go.Proofs.YtionmnjcfnmpeaaDoor.Sg
