/-
  product: a product modulo the order. (made by mk_so.py)
-/
import Derived.Test.YtionmnjcfnmpeaaDoorSo
namespace Go.Proofs.YtionmnjcfnmpeaaDoor.So
open Go Go.RowKit Go.Proofs.YtionmnjcfnmpeaaDoor.Sg
open Go.Proofs.YtionmnjcfnmpeaaDoor.Sg (Mul64_any Len64_any)

set_option maxRecDepth 1000000 in
set_option maxHeartbeats 1000000 in
theorem Div64_loO (m lo : Nat) (hm : m = O) (hl : lo < 18446744073709551616) (w : World) :
    Calls Tryd.prog 94 #[.int .u64 0, .int .u64 lo, .int .u64 (m : Int)] w fun e w' => (∃ q : Int, e = .returned (.tuple #[.int .u64 q, .int .u64 ((lo % O : Nat) : Int)])) ∧ ∃ n, w' = w.drewN n := by
  have hma : m ≤ 2305843009213693950 := by rw [hm]; decide +kernel
  have hmb : 2305843009213693950 ≤ m := by rw [hm]; decide +kernel
  have HM := Lib.hid hm
  clear hm
  go_enter Tryd.func94, Tryd.ntmps94
  go_wp2_with fail
  go_quiet (fail)
  go_wp2_with fail
  go_ret2
  exact ⟨⟨_, by rw [← HM.out]; rfl⟩, _, rfl⟩

theorem prod_hiO (a b : Nat) (ha : a < O) (hb : b < O) : a * b / 18446744073709551616 < O ∧ a * b < 340282366920938463463374607431768211456 := by
  have h : a * b ≤ (O - 1) * (O - 1) := Nat.mul_le_mul (by omega) (by omega)
  have e : (O - 1) * (O - 1) < 18446744073709551616 * O := by decide +kernel
  have e2 : (O - 1) * (O - 1) < 340282366920938463463374607431768211456 := by decide +kernel
  exact ⟨Nat.div_lt_of_lt_mul (by omega), by omega⟩

set_option maxRecDepth 1000000 in
set_option maxHeartbeats 1000000 in
theorem product_anyO (m a b : Nat) (hm : m = O) (ha : a < O) (hb : b < O) (w : World) :
    Calls Tryd.prog 46 #[.int .u64 a, .int .u64 b, .int .u64 (m : Int)] w fun e w' => e = .returned (.int .u64 ((a * b % O : Nat) : Int)) ∧ ∃ n, w' = w.drewN n := by
  have hP : O < 18446744073709551616 := by decide +kernel
  have hM := Mul64_any a b (by omega) (by omega) w
  obtain ⟨hp, _⟩ := prod_hiO a b ha hb
  have hlt : a * b % 18446744073709551616 < 18446744073709551616 := Nat.mod_lt _ (by omega)
  have hd : a * b = a * b / 18446744073709551616 * 18446744073709551616 + a * b % 18446744073709551616 := by omega
  generalize h1 : a * b / 18446744073709551616 = h at *
  generalize h2 : a * b % 18446744073709551616 = l at *
  generalize h3 : a * b = ab at *
  subst hd
  have HM := Lib.hid hM
  clear hM h1 h2 h3 ha hb hP
  rcases Nat.eq_zero_or_pos h with h0 | h0
  · subst h0
    have HD := Lib.hid (Div64_loO m l hm hlt w)
    clear hp hlt hm
    go_enter Tryd.func46, Tryd.ntmps46
    go_wp2_with fail
    refine HM.out.mono ?_
    rintro e w1 ⟨rfl, rfl⟩
    go_wp2_with fail
    refine HD.out.mono ?_
    rintro e w1 ⟨⟨q, rfl⟩, n, rfl⟩
    go_wp2_with fail
    go_ret
    exact ⟨by simp, n, rfl⟩
  · have HD := Lib.hid (Div64_hiO m h l hm h0 (by omega) hlt w)
    clear hp hlt hm h0
    go_enter Tryd.func46, Tryd.ntmps46
    go_wp2_with fail
    refine HM.out.mono ?_
    rintro e w1 ⟨rfl, rfl⟩
    go_wp2_with fail
    refine HD.out.mono ?_
    rintro e w1 ⟨⟨q, rfl⟩, rfl⟩
    go_wp2_with fail
    go_ret
    exact ⟨rfl, 0, rfl⟩
end Go.Proofs.YtionmnjcfnmpeaaDoor.So
