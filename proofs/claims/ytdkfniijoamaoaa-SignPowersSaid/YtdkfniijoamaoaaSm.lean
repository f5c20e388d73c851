/-
  SignPowers: the walk.
-/
import Derived.Test.YtdkfniijoamaoaaSk
namespace Go.Proofs.Ytdkfniijoamaoaa.Sg
open Go Go.RowKit Go.Proofs.Ytdkfniijoamaoaa.Hz

theorem pow_parts (b m n : Nat) : (b ^ m % P) * (b ^ n % P) % P = b ^ (m + n) % P := by
  rw [← Nat.mul_mod, ← Nat.pow_add]

/-- what the law asks before it goes on -/
def goes (b m n : Int) : Bool := both b m && (decide (0 ≤ n) && decide (n < 2305843009213693951 - m))

set_option maxRecDepth 1000000 in
set_option maxHeartbeats 1600000 in
theorem powers_on (b m n : Nat) (w : World) (hg : goes b m n = true) :
    Calls Try.prog 4 #[.int .i64 b, .int .i64 m, .int .i64 n] w fun e w' => e = .returned (.bool true) ∧ Below w.heap.size w w' := by
  unfold goes at hg
  simp only [Bool.and_eq_true, decide_eq_true_eq] at hg
  obtain ⟨hb, hn0, hn1⟩ := hg
  obtain ⟨b', m', e1, e2, hbP, hmP⟩ := both_nat _ _ hb
  obtain rfl : b = b' := by omega
  obtain rfl : m = m' := by omega
  have hP := P_eq
  have kb : nok (b : Int) = true := by unfold nok; simp; omega
  have bn : both (b : Int) (n : Int) = true := by unfold both nok; simp; omega
  have bmn : both (b : Int) ((m : Int) + n) = true := by unfold both nok; simp; omega
  have bo : both (b : Int) 2305843009213693950 = true := by unfold both; rw [kb]; decide
  have l1 : b ^ m % P < P := Nat.mod_lt _ (by decide +kernel)
  have l2 : b ^ n % P < P := Nat.mod_lt _ (by decide +kernel)
  have hbb : ∀ x y : Nat, x < P → y < P → both (x : Int) (y : Int) = true := by intro x y hx hy; unfold both nok; simp; omega
  have bt := hbb _ _ l1 l2
  have k1 := Times_any (b : Int) (m : Int)
  have k2 := RTimes_any (b : Int) (m : Int)
  have k3 := Power_any (b : Int) (m : Int)
  have k4 := RPower_any (b : Int) (m : Int)
  have k5 := Power_any (b : Int) (n : Int)
  have k6 := Power_any (b : Int) ((m : Int) + n)
  have k7 := Times_any (((b ^ m % P : Nat) : Int)) (((b ^ n % P : Nat) : Int))
  have k8 := Power_any (b : Int) 2305843009213693950
  have vm : pwV (b : Int) (m : Int) = ((b ^ m % P : Nat) : Int) := by unfold pwV; rw [hb, if_pos rfl]; simp only [Int.toNat_natCast]
  have vn : pwV (b : Int) (n : Int) = ((b ^ n % P : Nat) : Int) := by unfold pwV; rw [bn, if_pos rfl]; simp only [Int.toNat_natCast]
  have vmn : pwV (b : Int) ((m : Int) + n) = ((b ^ (m + n) % P : Nat) : Int) := by
    unfold pwV; rw [bmn, if_pos rfl, show ((m : Int) + n).toNat = m + n by omega]; simp only [Int.toNat_natCast]
  have vt : tmV (((b ^ m % P : Nat) : Int)) (((b ^ n % P : Nat) : Int)) = ((b ^ (m + n) % P : Nat) : Int) := by
    unfold tmV; rw [bt, if_pos rfl]; simp only [Int.toNat_natCast]; rw [pow_parts]
  have vo : 0 < b → pwV (b : Int) 2305843009213693950 = 1 := by
    intro h0
    unfold pwV
    rw [bo, if_pos rfl]
    simp only [Int.toNat_natCast]
    rw [show (2305843009213693950 : Int).toNat = P - 1 by decide +kernel, fermat b h0 hbP]
    rfl
  have e1 : bE (b : Int) (m : Int) = 0 := by unfold bE; rw [hb]; rfl
  have e2 : bE (b : Int) (n : Int) = 0 := by unfold bE; rw [bn]; rfl
  have e3 : bE (b : Int) ((m : Int) + n) = 0 := by unfold bE; rw [bmn]; rfl
  have e4 : bE (((b ^ m % P : Nat) : Int)) (((b ^ n % P : Nat) : Int)) = 0 := by unfold bE; rw [bt]; rfl
  have e5 : bE (b : Int) 2305843009213693950 = 0 := by unfold bE; rw [bo]; rfl
  rw [vm] at k3 k4
  rw [e1] at k1 k2 k3 k4
  rw [vn, e2] at k5
  rw [vmn, e3] at k6
  rw [vt, e4] at k7
  rw [e5] at k8
  have wmn : IntKind.i64.wrap ((m : Int) + (n : Int)) = (m : Int) + (n : Int) := by rw [IntKind.wrap_i64]; omega
  have t1 : decide ((0 : Int) ≤ (m : Int)) = true := by simp
  have t2 : decide ((0 : Int) ≤ (n : Int)) = true := by simp
  have t3 : decide ((m : Int) < 2305843009213693951) = true := by simp; omega
  have t4 : decide ((n : Int) < 2305843009213693951 - (m : Int)) = true := by simp; omega
  have mb : (m : Int) ≤ 2305843009213693950 := by omega
  have nb : (n : Int) ≤ 2305843009213693950 := by omega
  clear e1 e2 e3 e4 e5 vm vn vmn vt hb hn0 hn1 hbP hmP kb bn bmn bo l1 l2 bt hP hbb
  generalize b ^ (m + n) % P = q at *
  generalize b ^ m % P = x at *
  generalize b ^ n % P = y at *
  generalize tmV (b : Int) (m : Int) = t at *
  generalize pwV (b : Int) 2305843009213693950 = o at *
  have K1 := Lib.hid k1
  have K2 := Lib.hid k2
  have K3 := Lib.hid k3
  have K4 := Lib.hid k4
  have K5 := Lib.hid k5
  have K6 := Lib.hid k6
  have K7 := Lib.hid k7
  have K8 := Lib.hid k8
  clear k1 k2 k3 k4 k5 k6 k7 k8
  by_cases h0 : 0 < b
  · have t5 : (0 : Int) < (b : Int) := by omega
    obtain rfl := vo h0
    clear vo
    go_enter Try.func4, Try.ntmps4
    go_wp2_with fail
    refine (K1.out _).mono ?_
    rintro e w1 ⟨rfl, hb1⟩
    go_wp2_with fail
    refine (K2.out _).mono ?_
    rintro e w2 ⟨rfl, rfl⟩
    go_wp2_with fail
    refine (K3.out _).mono ?_
    rintro e w3 ⟨rfl, hb3⟩
    go_wp2_with fail
    refine (K4.out _).mono ?_
    rintro e w4 ⟨rfl, rfl⟩
    go_wp2_with fail
    refine (K5.out _).mono ?_
    rintro e w5 ⟨rfl, hb5⟩
    go_wp2_with fail
    refine (K6.out _).mono ?_
    rintro e w6 ⟨rfl, hb6⟩
    go_wp2_with fail
    refine (K7.out _).mono ?_
    rintro e w7 ⟨rfl, hb7⟩
    go_wp2_with fail
    refine (K8.out _).mono ?_
    rintro e w8 ⟨rfl, hb8⟩
    go_wp2_with fail
    refine (awake_any _).mono ?_
    rintro e w9 ⟨rfl, hb9⟩
    go_wp2
    go_ret
    exact ⟨rfl, blw (blw (blw (blw (blw (blw hb1 hb3) hb5) hb6) hb7) hb8) hb9⟩
  · obtain rfl : b = 0 := by omega
    clear h0 vo
    go_enter Try.func4, Try.ntmps4
    go_wp2_with fail
    refine (K1.out _).mono ?_
    rintro e w1 ⟨rfl, hb1⟩
    go_wp2_with fail
    refine (K2.out _).mono ?_
    rintro e w2 ⟨rfl, rfl⟩
    go_wp2_with fail
    refine (K3.out _).mono ?_
    rintro e w3 ⟨rfl, hb3⟩
    go_wp2_with fail
    refine (K4.out _).mono ?_
    rintro e w4 ⟨rfl, rfl⟩
    go_wp2_with fail
    refine (K5.out _).mono ?_
    rintro e w5 ⟨rfl, hb5⟩
    go_wp2_with fail
    refine (K6.out _).mono ?_
    rintro e w6 ⟨rfl, hb6⟩
    go_wp2_with fail
    refine (K7.out _).mono ?_
    rintro e w7 ⟨rfl, hb7⟩
    go_wp2_with fail
    refine (K8.out _).mono ?_
    rintro e w8 ⟨rfl, hb8⟩
    go_wp2_with fail
    refine (awake_any _).mono ?_
    rintro e w9 ⟨rfl, hb9⟩
    go_wp2
    go_ret
    exact ⟨rfl, blw (blw (blw (blw (blw (blw hb1 hb3) hb5) hb6) hb7) hb8) hb9⟩

set_option maxRecDepth 1000000 in
set_option maxHeartbeats 1600000 in
theorem powers_off (b m n : Int) (w : World) (hg : goes b m n = false) :
    Calls Try.prog 4 #[.int .i64 b, .int .i64 m, .int .i64 n] w fun e w' => e = .returned (.bool true) ∧ Below w.heap.size w w' := by
  have K1 := Lib.hid (Times_any b m)
  have K2 := Lib.hid (RTimes_any b m)
  have K3 := Lib.hid (Power_any b m)
  have K4 := Lib.hid (RPower_any b m)
  have hE : both b m = false → bE b m = 7 := by intro h; unfold bE; rw [h]; rfl
  have hc : decide (0 ≤ m) = false ∨ (decide (0 ≤ m) = true ∧ decide (0 ≤ n) = false) ∨ (decide (0 ≤ m) = true ∧ decide (0 ≤ n) = true ∧ decide (m < 2305843009213693951) = false) ∨
      (decide (0 ≤ m) = true ∧ decide (0 ≤ n) = true ∧ decide (m < 2305843009213693951) = true ∧ (0 ≤ m ∧ m ≤ 2305843009213693950) ∧ decide (n < 2305843009213693951 - m) = false) ∨
      (decide (0 ≤ m) = true ∧ decide (0 ≤ n) = true ∧ decide (m < 2305843009213693951) = true ∧ (0 ≤ m ∧ m ≤ 2305843009213693950) ∧ decide (n < 2305843009213693951 - m) = true ∧ bE b m = 7) := by
    by_cases h1 : 0 ≤ m
    · by_cases h2 : 0 ≤ n
      · by_cases h3 : m < 2305843009213693951
        · by_cases h4 : n < 2305843009213693951 - m
          · refine .inr (.inr (.inr (.inr ⟨by simp [h1], by simp [h2], by simp [h3], ⟨h1, by omega⟩, by simp [h4], hE ?_⟩)))
            unfold goes at hg
            simpa [h2, h4] using hg
          · exact .inr (.inr (.inr (.inl ⟨by simp [h1], by simp [h2], by simp [h3], ⟨h1, by omega⟩, by simpa using h4⟩)))
        · exact .inr (.inr (.inl ⟨by simp [h1], by simp [h2], by simpa using h3⟩))
      · exact .inr (.inl ⟨by simp [h1], by simpa using h2⟩)
    · exact .inl (by simpa using h1)
  clear hg hE
  generalize tmV b m = t at *
  generalize pwV b m = p at *
  generalize bE b m = x at *
  rcases hc with t1 | ⟨t1, t2⟩ | ⟨t1, t2, t3⟩ | ⟨t1, t2, t3, ⟨m0, m1⟩, t4⟩ | ⟨t1, t2, t3, ⟨m0, m1⟩, t4, rfl⟩
  all_goals
    go_enter Try.func4, Try.ntmps4
    go_wp2_with fail
    refine (K1.out _).mono ?_
    rintro e w1 ⟨rfl, hb1⟩
    go_wp2_with fail
    refine (K2.out _).mono ?_
    rintro e w2 ⟨rfl, rfl⟩
    go_wp2_with fail
    refine (K3.out _).mono ?_
    rintro e w3 ⟨rfl, hb3⟩
    go_wp2_with fail
    refine (K4.out _).mono ?_
    rintro e w4 ⟨rfl, rfl⟩
    go_wp2_with fail
    refine (awake_any _).mono ?_
    rintro e w9 ⟨rfl, hb9⟩
    go_wp2
    go_ret
    exact ⟨rfl, blw (blw hb1 hb3) hb9⟩
end Go.Proofs.Ytdkfniijoamaoaa.Sg
