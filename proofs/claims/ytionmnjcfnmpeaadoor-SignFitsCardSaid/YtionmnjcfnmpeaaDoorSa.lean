/-
  Plain maths of layer 8: powers modulo the prime, by bits from the top and from the bottom; products by doubling; Fermat by a primitive root.
-/
import Derived.Test.YtionmnjcfnmpeaaDoorRows
namespace Go.Proofs.YtionmnjcfnmpeaaDoor.Sg

def P : Nat := 2305843009213693951

theorem pw_sq (b m k : Nat) (h : 2 * m = k) : (b ^ m % P) * (b ^ m % P) % P = b ^ k % P := by
  rw [← Nat.mul_mod, ← Nat.pow_add, ← Nat.two_mul, h]
theorem pw_mul (b m : Nat) : (b ^ m % P) * b % P = b ^ (m + 1) % P := by
  rw [Nat.pow_succ, Nat.mod_mul_mod]
theorem half_bit (n k : Nat) : 2 * (n / 2 ^ (k + 1)) + n / 2 ^ k % 2 = n / 2 ^ k := by
  have : n / 2 ^ (k + 1) = n / 2 ^ k / 2 := by rw [Nat.pow_succ, Nat.div_div_eq_div_mul]
  omega

/-- a product by doubling: what one round keeps -/
theorem mul_odd (m out a b : Nat) (h : b % 2 = 1) : ((out + a) % m + (a + a) % m * (b / 2)) % m = (out + a * b) % m := by
  have e : out + a * b = (out + a) + (a + a) * (b / 2) := by
    obtain ⟨c, hc⟩ : ∃ c, b = 2 * c + 1 := ⟨b / 2, by omega⟩
    have hd : b / 2 = c := by omega
    rw [hd, hc, Nat.mul_add, Nat.mul_one, ← Nat.two_mul, Nat.mul_comm 2 a, Nat.mul_assoc]
    omega
  rw [e, Nat.add_mod, Nat.mod_mod, Nat.mod_mul_mod, ← Nat.add_mod]
theorem mul_even (m out a b : Nat) (h : b % 2 = 0) : (out + (a + a) % m * (b / 2)) % m = (out + a * b) % m := by
  have e : a * b = (a + a) * (b / 2) := by
    obtain ⟨c, hc⟩ : ∃ c, b = 2 * c := ⟨b / 2, by omega⟩
    have hd : b / 2 = c := by omega
    rw [hd, hc, ← Nat.two_mul, Nat.mul_comm 2 a, Nat.mul_assoc]
  rw [e, Nat.add_mod, Nat.mod_mul_mod, ← Nat.add_mod]
/-- a power from the bottom: what one round keeps -/
theorem pow_odd (out a n : Nat) (h : n % 2 = 1) : (out * a % P) * (a * a % P) ^ (n / 2) % P = out * a ^ n % P := by
  have e : a ^ n = a * (a * a) ^ (n / 2) := by
    obtain ⟨c, hc⟩ : ∃ c, n = 2 * c + 1 := ⟨n / 2, by omega⟩
    have hd : n / 2 = c := by omega
    rw [hd, hc, Nat.pow_succ, Nat.pow_mul, Nat.mul_comm, Nat.pow_two]
  rw [e, Nat.mod_mul_mod, ← Nat.mul_assoc, Nat.mul_mod (out * a) ((a * a % P) ^ (n / 2)), ← Nat.pow_mod, ← Nat.mul_mod]
theorem pow_even (out a n : Nat) (h : n % 2 = 0) : out * (a * a % P) ^ (n / 2) % P = out * a ^ n % P := by
  have e : a ^ n = (a * a) ^ (n / 2) := by
    obtain ⟨c, hc⟩ : ∃ c, n = 2 * c := ⟨n / 2, by omega⟩
    have hd : n / 2 = c := by omega
    rw [hd, hc, Nat.pow_mul, Nat.pow_two]
  rw [e, Nat.mul_mod out ((a * a % P) ^ (n / 2)), ← Nat.pow_mod, ← Nat.mul_mod]

/-- a power that can be reckoned -/
def pm : Nat → Nat → Nat → Nat
  | 0, _, _ => 1
  | f + 1, b, n => if n = 0 then 1 else if n % 2 = 1 then pm f b (n / 2) * pm f b (n / 2) % P * b % P else pm f b (n / 2) * pm f b (n / 2) % P
theorem pm_eq : ∀ (f b n : Nat), n < 2 ^ f → pm f b n = b ^ n % P
  | 0, b, n, h => by
    have : n = 0 := by simpa using h
    subst this; rfl
  | f + 1, b, n, h => by
    have hlt : n / 2 < 2 ^ f := by rw [Nat.pow_succ] at h; omega
    have ih := pm_eq f b (n / 2) hlt
    unfold pm
    by_cases h0 : n = 0
    · subst h0; rfl
    rw [if_neg h0, ih]
    by_cases h1 : n % 2 = 1
    · rw [if_pos h1, pw_sq b (n / 2) (n - 1) (by omega), pw_mul]
      congr 2; omega
    · rw [if_neg h1, pw_sq b (n / 2) n (by omega)]

/-- the power of a power -/
theorem pow_swap (g a b : Nat) : (g ^ b % P) ^ a % P = (g ^ a % P) ^ b % P := by
  rw [← Nat.pow_mod, ← Nat.pow_mod, ← Nat.pow_mul, ← Nat.pow_mul, Nat.mul_comm]
/-- the base's powers are not 0: it has an inverse -/
theorem pow_pos37 (a : Nat) : 0 < 37 ^ a % P := by
  rcases Nat.eq_zero_or_pos (37 ^ a % P) with h | h
  · exfalso
    have e : (37 * 2181202846553494278) ^ a % P = 1 := by
      rw [Nat.pow_mod, show 37 * 2181202846553494278 % P = 1 by decide +kernel, Nat.one_pow]; decide +kernel
    rw [Nat.mul_pow, Nat.mul_mod, h, Nat.zero_mul] at e
    exact absurd e (by decide +kernel)
  · exact h

theorem pow_gcd (g : Nat) : ∀ a b : Nat, g ^ a % P = 1 → g ^ b % P = 1 → g ^ (Nat.gcd a b) % P = 1 := by
  intro a b
  induction a, b using Nat.gcd.induction with
  | H0 n => intro _ h; simpa using h
  | H1 a b ha ih =>
    intro h1 h2
    rw [Nat.gcd_rec]
    refine ih ?_ h1
    have e : g ^ b = (g ^ a) ^ (b / a) * g ^ (b % a) := by rw [← Nat.pow_mul, ← Nat.pow_add, Nat.div_add_mod]
    rw [e, Nat.mul_mod, Nat.pow_mod, h1, Nat.one_pow, show 1 % P = 1 by decide +kernel, Nat.one_mul, Nat.mod_mod] at h2
    exact h2

theorem pigeon : ∀ (n : Nat) (f : Nat → Nat), (∀ i, i < n → f i < n) → (∀ i j, i < n → j < n → f i = f j → i = j) → ∀ a, a < n → ∃ i, i < n ∧ f i = a
  | 0, _, _, _, a, h => absurd h (Nat.not_lt_zero a)
  | n + 1, f, hf, hi, a, ha => by
    have hn := hf n (Nat.lt_succ_self n)
    have ih := pigeon n (fun i => if f i = n then f n else f i)
      (fun i h => by
        have h1 := hf i (by omega)
        by_cases e : f i = n
        · have : f n ≠ n := fun e2 => by have := hi i n (by omega) (by omega) (by rw [e, e2]); omega
          simp only [e, if_true]; omega
        · simp only [e, if_false]; omega)
      (fun i j h k e => by
        by_cases e1 : f i = n <;> by_cases e2 : f j = n
        · exact hi i j (by omega) (by omega) (by rw [e1, e2])
        · simp only [e1, e2, if_true, if_false] at e
          have := hi n j (by omega) (by omega) e; omega
        · simp only [e1, e2, if_true, if_false] at e
          have := hi i n (by omega) (by omega) e; omega
        · simp only [e1, e2, if_false] at e
          exact hi i j (by omega) (by omega) e)
    by_cases e : a = f n
    · exact ⟨n, by omega, e.symm⟩
    by_cases e2 : a = n
    · obtain ⟨i, h1, h2⟩ := ih (f n) (by omega)
      by_cases e3 : f i = n
      · exact ⟨i, by omega, by omega⟩
      · simp only [e3, if_false] at h2
        have := hi i n (by omega) (by omega) h2; omega
    · obtain ⟨i, h1, h2⟩ := ih a (by omega)
      by_cases e3 : f i = n
      · simp only [e3, if_true] at h2; omega
      · simp only [e3, if_false] at h2
        exact ⟨i, by omega, h2⟩

/-- the primes of the order -/
def Q : List Nat := [2, 3, 5, 7, 11, 13, 31, 41, 61, 151, 331, 1321]
theorem order_eq : P - 1 = 2 * (3 * (3 * (5 * (5 * (7 * (11 * (13 * (31 * (41 * (61 * (151 * (331 * 1321)))))))))))) := by decide +kernel
theorem cop_of (q k : Nat) (hq : ∀ d, d ≤ q → d ∣ q → d = 1 ∨ d = q) (h0 : 0 < q) (h : ¬ q ∣ k) : Nat.Coprime k q := by
  have h1 := Nat.gcd_dvd_right k q
  rcases hq _ (Nat.le_of_dvd h0 h1) h1 with e | e
  · exact e
  · exact absurd (by have := Nat.gcd_dvd_left k q; rwa [e] at this) h
theorem prime_q : ∀ q, q ∈ Q → 0 < q ∧ ∀ d, d < q + 1 → d ∣ q → d = 1 ∨ d = q := by decide +kernel
theorem q_dvd (k : Nat) (h1 : 1 < k) (hk : k ∣ P - 1) : ∃ q, q ∈ Q ∧ q ∣ k := by
  rcases Classical.em (∃ q, q ∈ Q ∧ q ∣ k) with h | h
  · exact h
  exfalso
  have hc : ∀ q, q ∈ Q → Nat.Coprime k q := fun q hq =>
    cop_of q k (fun d hd hd2 => (prime_q q hq).2 d (by omega) hd2) (prime_q q hq).1 (fun h2 => h ⟨q, hq, h2⟩)
  have c2 := hc 2 (by decide)
  have c3 := hc 3 (by decide)
  have c5 := hc 5 (by decide)
  have c7 := hc 7 (by decide)
  have c11 := hc 11 (by decide)
  have c13 := hc 13 (by decide)
  have c31 := hc 31 (by decide)
  have c41 := hc 41 (by decide)
  have c61 := hc 61 (by decide)
  have c151 := hc 151 (by decide)
  have c331 := hc 331 (by decide)
  have c1321 := hc 1321 (by decide)
  have e : Nat.Coprime k (P - 1) := by
    rw [order_eq]
    exact Nat.Coprime.mul_right c2 (Nat.Coprime.mul_right c3 (Nat.Coprime.mul_right c3 (Nat.Coprime.mul_right c5 (Nat.Coprime.mul_right c5 (Nat.Coprime.mul_right c7
      (Nat.Coprime.mul_right c11 (Nat.Coprime.mul_right c13 (Nat.Coprime.mul_right c31 (Nat.Coprime.mul_right c41 (Nat.Coprime.mul_right c61 (Nat.Coprime.mul_right c151 (Nat.Coprime.mul_right c331 c1321))))))))))))
  have e2 : Nat.gcd k (P - 1) = k := Nat.gcd_eq_left hk
  have e3 : Nat.gcd k (P - 1) = 1 := e
  omega
theorem full : 37 ^ (P - 1) % P = 1 := by rw [← pm_eq 62 37 (P - 1) (by decide +kernel)]; decide +kernel
theorem part : ∀ q, q ∈ Q → 37 ^ ((P - 1) / q) % P ≠ 1 := by
  intro q hq
  rw [← pm_eq 62 37 ((P - 1) / q) (Nat.lt_of_le_of_lt (Nat.div_le_self _ _) (by decide +kernel))]
  revert q
  decide +kernel
theorem order (d : Nat) (h0 : 0 < d) (h1 : d < P - 1) : 37 ^ d % P ≠ 1 := by
  intro h
  have hg := pow_gcd 37 d (P - 1) h full
  obtain ⟨k, hk⟩ := Nat.gcd_dvd_right d (P - 1)
  have hle := Nat.le_of_dvd h0 (Nat.gcd_dvd_left d (P - 1))
  generalize Nat.gcd d (P - 1) = e at hg hk hle
  have hk1 : 1 < k := by
    rcases k with _ | _ | k
    · rw [Nat.mul_zero] at hk; omega
    · rw [Nat.mul_one] at hk; omega
    · omega
  obtain ⟨q, hq, c, hc⟩ := q_dvd k hk1 ⟨e, by rw [hk, Nat.mul_comm]⟩
  have hq0 := (prime_q q hq).1
  have hd : (P - 1) / q = e * c := by
    rw [hk, hc, Nat.mul_left_comm, Nat.mul_div_cancel_left _ hq0]
  refine part q hq ?_
  rw [hd, Nat.pow_mul, Nat.pow_mod, hg, Nat.one_pow]
  decide +kernel
theorem pow_inj (i j : Nat) (_ : i < P - 1) (hj : j < P - 1) (hij : i ≤ j) (h : 37 ^ i % P = 37 ^ j % P) : i = j := by
  rcases Nat.lt_or_ge i j with hlt | hge
  · exfalso
    refine order (j - i) (by omega) (by omega) ?_
    have e : (37 ^ j * 2181202846553494278 ^ i) % P = 37 ^ (j - i) % P := by
      have : j = (j - i) + i := by omega
      rw [this, Nat.pow_add, Nat.mul_assoc, ← Nat.mul_pow, Nat.mul_mod, Nat.pow_mod (37 * _), show 37 * 2181202846553494278 % P = 1 by decide +kernel, Nat.one_pow, show 1 % P = 1 by decide +kernel, Nat.mul_one, Nat.mod_mod, Nat.add_sub_cancel]
    have e2 : (37 ^ i * 2181202846553494278 ^ i) % P = 1 := by
      rw [← Nat.mul_pow, Nat.pow_mod, show 37 * 2181202846553494278 % P = 1 by decide +kernel, Nat.one_pow]; decide +kernel
    rw [← e, Nat.mul_mod, ← h, ← Nat.mul_mod, e2]
  · omega
/-- the prime's order: every number below it that is not 0 -/
theorem fermat (a : Nat) (h0 : 0 < a) (h1 : a < P) : a ^ (P - 1) % P = 1 := by
  obtain ⟨i, _, he⟩ := pigeon (P - 1) (fun i => 37 ^ i % P - 1)
    (fun i _ => by have := pow_pos37 i; have := Nat.mod_lt (37 ^ i) (show 0 < P by decide +kernel); omega)
    (fun i j hi hj e => by
      have p1 := pow_pos37 i
      have p2 := pow_pos37 j
      have e' : 37 ^ i % P = 37 ^ j % P := by omega
      rcases Nat.le_total i j with hle | hle
      · exact pow_inj i j hi hj hle e'
      · exact (pow_inj j i hj hi hle e'.symm).symm) (a - 1) (by omega)
  have p1 := pow_pos37 i
  have e : a = 37 ^ i % P := by omega
  rw [e, ← Nat.pow_mod, ← Nat.pow_mul, Nat.mul_comm, Nat.pow_mul, Nat.pow_mod, full, Nat.one_pow]
  decide +kernel
end Go.Proofs.YtionmnjcfnmpeaaDoor.Sg
