/-
  Identifiers as numbers: plain maths for sums, middles, heads.
-/
import Derived.Test.YtaoanggiibgcdaaDoorNa
namespace Go.Proofs.YtaoanggiibgcdaaDoor.Na
open Go

/-- the number of the last j bytes -/
def low (s : ByteArray) : Nat → Nat
  | 0 => 0
  | j + 1 => low s j + by_ s (19 - j) * 256 ^ j
def nb (s : ByteArray) : Nat := low s 20
theorem p256 (j : Nat) : (256 : Nat) ^ j = 2 ^ (8 * j) := by rw [Nat.pow_mul]
theorem low_lt (s : ByteArray) (j : Nat) : low s j < 256 ^ j := by
  induction j with
  | zero => simp [low]
  | succ j ih =>
    rw [low, Nat.pow_succ]
    have := by_lt s (19 - j)
    have : by_ s (19 - j) * 256 ^ j ≤ 255 * 256 ^ j := Nat.mul_le_mul_right _ (by omega)
    omega
theorem add_high (x m e j : Nat) (h : e < j) : (x + m * 256 ^ j) / 256 ^ e % 256 = x / 256 ^ e % 256 := by
  obtain ⟨d, rfl⟩ : ∃ d, j = e + 1 + d := ⟨j - e - 1, by omega⟩
  have e1 : m * 256 ^ (e + 1 + d) = 256 ^ e * (256 * (m * 256 ^ d)) := by
    rw [Nat.pow_add, Nat.pow_succ]
    simp only [Nat.mul_assoc, Nat.mul_comm, Nat.mul_left_comm]
  rw [e1, Nat.add_mul_div_left _ _ (Nat.pow_pos (by omega)), Nat.add_mul_mod_self_left]
theorem low_at (s : ByteArray) (j e : Nat) (h : e < j) : low s j / 256 ^ e % 256 = by_ s (19 - e) := by
  induction j with
  | zero => omega
  | succ j ih =>
    rw [low]
    by_cases he : e < j
    · rw [add_high _ _ _ _ he, ih he]
    · obtain rfl : e = j := by omega
      rw [Nat.add_mul_div_right _ _ (Nat.pow_pos (by omega)), Nat.div_eq_of_lt (low_lt s e), Nat.zero_add, Nat.mod_eq_of_lt (by_lt _ _)]
theorem bit_of (n t : Nat) : n.testBit t = (n / 256 ^ (t / 8) % 256).testBit (t % 8) := by
  rw [p256, show (256 : Nat) = 2 ^ 8 from rfl, Nat.testBit_mod_two_pow, ← Nat.shiftRight_eq_div_pow, Nat.testBit_shiftRight, decide_eq_true (by omega), Bool.true_and]
  congr 1
  omega
theorem nb_bit (s : ByteArray) (i : Nat) (hi : i < 160) : (nb s).testBit (159 - i) = bt s i := by
  rw [bit_of, nb, low_at s 20 _ (by omega)]
  unfold bt
  rw [show 19 - (159 - i) / 8 = i / 8 by omega, show (159 - i) % 8 = 7 - i % 8 by omega]
theorem nb_lt (s : ByteArray) : nb s < 2 ^ 160 := by have := low_lt s 20; rwa [p256] at this

/-- the identifier of a number -/
def il (n : Nat) : List Int := (List.range 20).map fun k => ((n / 256 ^ (19 - k) % 256 : Nat) : Int)
def idn (n : Nat) : ByteArray := strOfNums (il n)
theorem il_len (n : Nat) : (il n).length = 20 := by simp [il]
theorem idn_size (n : Nat) : (idn n).size = 20 := by rw [idn, strOfNums_size, il_len]
theorem il_at (n k : Nat) (hk : k < 20) : (il n).getD k 0 = ((n / 256 ^ (19 - k) % 256 : Nat) : Int) := by
  simp [il, List.getD, List.getElem?_map, List.getElem?_range hk]
theorem by_idn (n k : Nat) (hk : k < 20) : by_ (idn n) k = n / 256 ^ (19 - k) % 256 :=
  by_str _ k (by rw [il_len]; exact hk) _ (Nat.mod_lt _ (by omega)) (il_at n k hk)
theorem bt_idn (n i : Nat) (hi : i < 160) : bt (idn n) i = n.testBit (159 - i) := by
  unfold bt
  rw [by_idn n _ (by omega), bit_of n]
  rw [show 19 - i / 8 = (159 - i) / 8 by omega, show (159 - i) % 8 = 7 - i % 8 by omega]

/-! the program's sum: a carry from byte to byte -/
def car (a b : ByteArray) (c : Nat) (j : Nat) : Nat := (low a j + low b j + c) / 256 ^ j
theorem car_zero (a b : ByteArray) (c : Nat) : car a b c 0 = c := by simp [car, low]
theorem car_mid (a b : ByteArray) (c j : Nat) : (low a (j + 1) + low b (j + 1) + c) / 256 ^ j = car a b c j + by_ a (19 - j) + by_ b (19 - j) := by
  unfold car
  rw [low, low, show low a j + by_ a (19 - j) * 256 ^ j + (low b j + by_ b (19 - j) * 256 ^ j) + c = low a j + low b j + c + (by_ a (19 - j) + by_ b (19 - j)) * 256 ^ j by rw [Nat.add_mul]; omega,
    Nat.add_mul_div_right _ _ (Nat.pow_pos (by omega))]
  omega
theorem car_succ (a b : ByteArray) (c j : Nat) : car a b c (j + 1) = (car a b c j + by_ a (19 - j) + by_ b (19 - j)) / 256 := by
  rw [← car_mid]
  unfold car
  rw [Nat.pow_succ, Nat.div_div_eq_div_mul]
theorem car_le (a b : ByteArray) (c : Nat) (hc : c ≤ 1) (j : Nat) : car a b c j ≤ 1 := by
  have h1 := low_lt a j
  have h2 := low_lt b j
  have : car a b c j < 2 := by
    unfold car
    rw [Nat.div_lt_iff_lt_mul (Nat.pow_pos (by omega))]
    omega
  omega
/-- the bytes of a sum, those from the last j on put -/
def sumL (a b : ByteArray) (c j : Nat) : List Int := (List.range 20).map fun k => if 20 - j ≤ k then (((low a j + low b j + c) / 256 ^ (19 - k) % 256 : Nat) : Int) else 0
theorem sumL_len (a b : ByteArray) (c j : Nat) : (sumL a b c j).length = 20 := by simp [sumL]
theorem sumL_get (a b : ByteArray) (c j k : Nat) (h : k < (sumL a b c j).length) : (sumL a b c j)[k] = if 20 - j ≤ k then (((low a j + low b j + c) / 256 ^ (19 - k) % 256 : Nat) : Int) else 0 := by simp [sumL]
theorem sumL_zero (a b : ByteArray) (c : Nat) : sumL a b c 0 = List.replicate 20 0 := by
  apply List.ext_getElem (by simp [sumL])
  intro k h1 h2
  have hk : k < 20 := by simpa using h2
  rw [sumL_get, List.getElem_replicate, if_neg (by omega)]
theorem sumL_done (a b : ByteArray) (c : Nat) : sumL a b c 20 = il (nb a + nb b + c) := by
  unfold sumL il nb
  apply List.map_congr_left
  intro k _
  rw [if_pos (by omega)]
theorem sumL_set (a b : ByteArray) (c j : Nat) (hj : j < 20) : (sumL a b c j).set (19 - j) (((car a b c j + by_ a (19 - j) + by_ b (19 - j)) % 256 : Nat) : Int) = sumL a b c (j + 1) := by
  apply List.ext_getElem (by simp [sumL])
  intro k h1 h2
  have hk : k < 20 := by simpa [sumL] using h2
  rw [List.getElem_set, sumL_get, sumL_get]
  by_cases e : 19 - j = k
  · rw [if_pos e, if_pos (by omega), ← car_mid]
    subst e
    rw [show 19 - (19 - j) = j by omega]
  · rw [if_neg e]
    by_cases hk2 : 20 - j ≤ k
    · rw [if_pos hk2, if_pos (by omega)]
      congr 1
      rw [low, low, show low a j + by_ a (19 - j) * 256 ^ j + (low b j + by_ b (19 - j) * 256 ^ j) + c = low a j + low b j + c + (by_ a (19 - j) + by_ b (19 - j)) * 256 ^ j by rw [Nat.add_mul]; omega, add_high _ _ _ _ (by omega)]
    · rw [if_neg hk2, if_neg (by omega)]

/-! the middle: one bit to the right -/
def crB (n k : Nat) : Nat := n / 256 ^ (20 - k) % 2
theorem half_at (n k : Nat) (hk : k < 20) : (n / 2) / 256 ^ (19 - k) % 256 = n / 256 ^ (19 - k) % 256 / 2 + crB n k * 128 := by
  unfold crB
  rw [Nat.div_div_eq_div_mul, Nat.mul_comm, ← Nat.div_div_eq_div_mul, show 20 - k = 19 - k + 1 by omega, Nat.pow_succ, ← Nat.div_div_eq_div_mul]
  generalize n / 256 ^ (19 - k) = u
  omega
theorem crB_succ (n k : Nat) (hk : k < 20) : crB n (k + 1) = n / 256 ^ (19 - k) % 256 % 2 := by
  unfold crB
  rw [show 20 - (k + 1) = 19 - k by omega]
  generalize n / 256 ^ (19 - k) = u
  omega
def midL (n k : Nat) : List Int := (il (n / 2)).take k ++ (il n).drop k
theorem midL_len (n k : Nat) (hk : k ≤ 20) : (midL n k).length = 20 := by
  unfold midL
  rw [List.length_append, List.length_take, List.length_drop, il_len, il_len]
  omega
theorem midL_zero (n : Nat) : midL n 0 = il n := by simp [midL]
theorem midL_done (n : Nat) : midL n 20 = il (n / 2) := by
  unfold midL
  rw [List.take_of_length_le (by rw [il_len]; omega), List.drop_of_length_le (by rw [il_len]; omega), List.append_nil]
theorem midL_at (n k : Nat) (hk : k < 20) : (midL n k).getD k 0 = ((n / 256 ^ (19 - k) % 256 : Nat) : Int) := by
  rw [← il_at n k hk]
  unfold midL
  rw [List.getD, List.getElem?_append_right (by rw [List.length_take, il_len]; omega), List.length_take, il_len, List.getElem?_drop, List.getD]
  congr 2
  omega
theorem midL_set (n k : Nat) (hk : k < 20) : (midL n k).set k ((n / 256 ^ (19 - k) % 256 / 2 + crB n k * 128 : Nat) : Int) = midL n (k + 1) := by
  have h1 : ((il (n / 2)).take k).length = k := by rw [List.length_take, il_len]; omega
  unfold midL
  rw [List.set_append_right _ _ (by omega), h1, Nat.sub_self, List.drop_eq_getElem_cons (by rw [il_len]; exact hk), List.set_cons_zero, ← half_at n k hk,
    List.take_succ_eq_append_getElem (by rw [il_len]; exact hk), List.append_assoc]
  have := il_at (n / 2) k hk
  rw [List.getD, List.getElem?_eq_getElem (by rw [il_len]; exact hk)] at this
  simp only [Option.getD_some] at this
  rw [this]
  rfl

/-! the specification's sum: a carry from bit to bit -/
def cyb (A B j : Nat) : Nat := (A % 2 ^ j + B % 2 ^ j) / 2 ^ j
theorem tb_div (n j : Nat) : n.testBit j = decide (n / 2 ^ j % 2 = 1) := Nat.testBit_eq_decide_div_mod_eq
theorem tb_nat (n j : Nat) : (n.testBit j).toNat = n / 2 ^ j % 2 := by
  rw [tb_div]
  by_cases h : n / 2 ^ j % 2 = 1
  · rw [decide_eq_true h, h]; rfl
  · rw [decide_eq_false h]
    show 0 = _
    omega
theorem mod_succ (A j : Nat) : A % 2 ^ (j + 1) = A % 2 ^ j + 2 ^ j * (A.testBit j).toNat := by rw [Nat.mod_pow_succ, tb_nat]
theorem cyb_zero (A B : Nat) : cyb A B 0 = 0 := by simp [cyb, Nat.mod_one]
theorem cyb_mid (A B j : Nat) : (A % 2 ^ (j + 1) + B % 2 ^ (j + 1)) / 2 ^ j = cyb A B j + (A.testBit j).toNat + (B.testBit j).toNat := by
  unfold cyb
  rw [mod_succ, mod_succ, show A % 2 ^ j + 2 ^ j * (A.testBit j).toNat + (B % 2 ^ j + 2 ^ j * (B.testBit j).toNat) = A % 2 ^ j + B % 2 ^ j + 2 ^ j * ((A.testBit j).toNat + (B.testBit j).toNat) by rw [Nat.mul_add]; omega,
    Nat.add_mul_div_left _ _ (Nat.pow_pos (by omega))]
  omega
theorem cyb_succ (A B j : Nat) : cyb A B (j + 1) = (cyb A B j + (A.testBit j).toNat + (B.testBit j).toNat) / 2 := by
  rw [← cyb_mid]
  unfold cyb
  rw [Nat.pow_succ 2 j, Nat.div_div_eq_div_mul]
theorem cyb_le (A B j : Nat) : cyb A B j ≤ 1 := by
  have h0 : 0 < 2 ^ j := Nat.pow_pos (by omega)
  have h1 := Nat.mod_lt A h0
  have h2 := Nat.mod_lt B h0
  have : cyb A B j < 2 := by
    unfold cyb
    rw [Nat.div_lt_iff_lt_mul h0]
    omega
  omega
theorem sum_bit (A B j : Nat) : (A + B).testBit j = decide ((cyb A B j + (A.testBit j).toNat + (B.testBit j).toNat) % 2 = 1) := by
  have h0 : 0 < 2 ^ j := Nat.pow_pos (by omega)
  have e : (A + B) / 2 ^ j = A / 2 ^ j + B / 2 ^ j + cyb A B j := by
    unfold cyb
    have a1 := Nat.div_add_mod A (2 ^ j)
    have b1 := Nat.div_add_mod B (2 ^ j)
    have : A + B = A % 2 ^ j + B % 2 ^ j + 2 ^ j * (A / 2 ^ j + B / 2 ^ j) := by rw [Nat.mul_add]; omega
    rw [this, Nat.add_mul_div_left _ _ h0]
    have e1 : (A % 2 ^ j + B % 2 ^ j + 2 ^ j * (A / 2 ^ j + B / 2 ^ j)) = A + B := this.symm
    omega
  rw [tb_div, e, tb_nat, tb_nat]
  congr 1
  apply propext
  omega
theorem cyb_top (A B : Nat) (hA : A < 2 ^ 160) (hB : B < 2 ^ 160) : (A + B).testBit 160 = decide (cyb A B 160 = 1) := by
  have hc := cyb_le A B 160
  rw [sum_bit, Nat.testBit_lt_two_pow hA, Nat.testBit_lt_two_pow hB]
  congr 1
  apply propext
  show (cyb A B 160 + 0 + 0) % 2 = 1 ↔ _
  omega
theorem half_bit (n i : Nat) : (n / 2).testBit i = n.testBit (i + 1) := by rw [Nat.testBit_succ]

/-! the next one -/
theorem next_low (A j k : Nat) (h1 : ∀ q, q < j → A.testBit q = true) (h0 : A.testBit j = false) : (A + 1).testBit k = if k < j then false else if k = j then true else A.testBit k := by
  have hm : ∀ j, (∀ q, q < j → A.testBit q = true) → A % 2 ^ j = 2 ^ j - 1 := by
    intro j
    induction j with
    | zero => intro _; simp [Nat.mod_one]
    | succ j ih =>
      intro h
      rw [mod_succ, ih fun q hq => h q (by omega), h j (by omega), Nat.pow_succ]
      have : 0 < 2 ^ j := Nat.pow_pos (by omega)
      show 2 ^ j - 1 + 2 ^ j * 1 = _
      omega
  have e0 := hm j h1
  have hp : 0 < 2 ^ j := Nat.pow_pos (by omega)
  have e1 : A % 2 ^ (j + 1) = 2 ^ j - 1 := by rw [mod_succ, e0, h0]; simp
  have e2 : A + 1 = 2 ^ (j + 1) * (A / 2 ^ (j + 1)) + 2 ^ j := by
    have := Nat.div_add_mod A (2 ^ (j + 1))
    omega
  rw [e2, Nat.testBit_two_pow_mul_add _ (by rw [Nat.pow_succ]; omega)]
  by_cases hk : k < j
  · rw [if_pos (by omega), if_pos hk, Nat.testBit_two_pow, decide_eq_false (by omega)]
  · rw [if_neg hk]
    by_cases hkj : k = j
    · rw [if_pos (by omega), if_pos hkj, Nat.testBit_two_pow, decide_eq_true hkj.symm]
    · rw [if_neg (by omega), if_neg hkj, ← Nat.shiftRight_eq_div_pow, Nat.testBit_shiftRight]
      congr 1
      omega
theorem next_all (A : Nat) (hA : A < 2 ^ 160) (h1 : ∀ q, q < 160 → A.testBit q = true) (k : Nat) (hk : k < 160) : (A + 1).testBit k = false := by
  have := next_low A 160 k h1 (Nat.testBit_lt_two_pow hA)
  rw [this, if_pos hk]

/-! heads: the first n bits of one, and behind them those of another -/
def mk (n : Nat) : Nat := 256 - 2 ^ (8 - min 8 n)
theorem mk_lt (n : Nat) : mk n ≤ 255 := by
  unfold mk
  have : 0 < 2 ^ (8 - min 8 n) := Nat.pow_pos (by omega)
  omega
theorem mk_bit (n b : Nat) (hb : b < 8) : (mk n).testBit b = decide (7 - b < n) := by
  have h8 : min 8 n = 0 ∨ min 8 n = 1 ∨ min 8 n = 2 ∨ min 8 n = 3 ∨ min 8 n = 4 ∨ min 8 n = 5 ∨ min 8 n = 6 ∨ min 8 n = 7 ∨ min 8 n = 8 := by omega
  have e : decide (7 - b < n) = decide (7 - b < min 8 n) := by
    rw [Bool.eq_iff_iff, decide_eq_true_iff, decide_eq_true_iff]; omega
  rw [e]
  unfold mk
  generalize min 8 n = m at *
  have hb8 : b = 0 ∨ b = 1 ∨ b = 2 ∨ b = 3 ∨ b = 4 ∨ b = 5 ∨ b = 6 ∨ b = 7 := by omega
  rcases h8 with rfl | rfl | rfl | rfl | rfl | rfl | rfl | rfl | rfl <;> rcases hb8 with rfl | rfl | rfl | rfl | rfl | rfl | rfl | rfl <;> decide
/-- one byte of a head: the bits under the mask of x, the others of y -/
def hy (x y m : Nat) : Nat := (x &&& m) ||| (y &&& (255 - m))
theorem hy_lt (x y m : Nat) (hx : x < 256) (hy' : y < 256) : hy x y m < 256 := by
  unfold hy
  exact Nat.or_lt_two_pow (n := 8) (Nat.lt_of_le_of_lt Nat.and_le_left hx) (Nat.lt_of_le_of_lt Nat.and_le_left hy')
theorem not_bit (m b : Nat) (hm : m < 256) (hb : b < 8) : (255 - m).testBit b = !m.testBit b := by
  have := Nat.testBit_two_pow_sub_succ (n := 8) (x := m) hm b
  rw [show 255 - m = 2 ^ 8 - (m + 1) by omega, this, decide_eq_true hb, Bool.true_and]
theorem hy_bit (x y m b : Nat) (hm : m < 256) (hb : b < 8) : (hy x y m).testBit b = if m.testBit b = true then x.testBit b else y.testBit b := by
  unfold hy
  rw [Nat.testBit_or, Nat.testBit_and, Nat.testBit_and, not_bit m b hm hb]
  cases m.testBit b <;> simp
def hdB (a b : ByteArray) (n k : Nat) : Nat := hy (by_ a k) (by_ b k) (mk (n - 8 * k))
def hl (a b : ByteArray) (n : Nat) : List Int := (List.range 20).map fun k => (hdB a b n k : Int)
def hd (a b : ByteArray) (n : Nat) : ByteArray := strOfNums (hl a b n)
theorem hl_len (a b : ByteArray) (n : Nat) : (hl a b n).length = 20 := by simp [hl]
theorem hl_at (a b : ByteArray) (n k : Nat) (hk : k < 20) : (hl a b n).getD k 0 = (hdB a b n k : Int) := by
  simp [hl, List.getD, List.getElem?_map, List.getElem?_range hk]
theorem hd_size (a b : ByteArray) (n : Nat) : (hd a b n).size = 20 := by rw [hd, strOfNums_size, hl_len]
theorem bt_hd (a b : ByteArray) (n i : Nat) (hi : i < 160) : bt (hd a b n) i = if i < n then bt a i else bt b i := by
  have hml : mk (n - 8 * (i / 8)) < 256 := by have := mk_lt (n - 8 * (i / 8)); omega
  unfold bt
  rw [show by_ (hd a b n) (i / 8) = hdB a b n (i / 8) from by_str _ _ (by rw [hl_len]; omega) _ (hy_lt _ _ _ (by_lt _ _) (by_lt _ _)) (hl_at a b n _ (by omega))]
  unfold hdB
  rw [hy_bit _ _ _ _ hml (by omega), mk_bit _ _ (by omega)]
  by_cases h : i < n
  · rw [if_pos h, decide_eq_true (by omega), if_pos rfl]
  · rw [if_neg h, decide_eq_false (by omega), if_neg (by decide)]
/-- what a prefix holds is that so many bits are equal -/
theorem hd_is (a b : ByteArray) (n : Nat) (hb : b.size = 20) (hn : n ≤ 160) : (hd a b n = b) ↔ n ≤ cmn a b := by
  obtain ⟨h1, h2⟩ := fst_is fun i => bt a i != bt b i
  change ∀ j, j < cmn a b → _ at h1
  change cmn a b = 160 ∨ cmn a b < 160 ∧ (bt a (cmn a b) != bt b (cmn a b)) = true at h2
  constructor
  · intro h
    rcases h2 with h2 | ⟨h2, h3⟩
    · omega
    · by_cases hlt : n ≤ cmn a b
      · exact hlt
      · have e := bt_hd a b n (cmn a b) h2
        rw [h, if_pos (by omega)] at e
        rw [e] at h3
        simp at h3
  · intro h
    refine bt_ext _ _ (hd_size _ _ _) hb fun i hi => ?_
    rw [bt_hd _ _ _ _ hi]
    by_cases hin : i < n
    · rw [if_pos hin]
      simpa using h1 i (by omega)
    · rw [if_neg hin]
theorem hd_cmn (a b : ByteArray) (n : Nat) (ha : a.size = 20) (hn : n ≤ 160) : n ≤ cmn (hd a b n) a := by
  refine (hd_is (hd a b n) a n ha hn).1 (bt_ext _ _ (hd_size _ _ _) ha fun i hi => ?_)
  rw [bt_hd _ _ _ _ hi, bt_hd _ _ _ _ hi]
  by_cases h : i < n
  · rw [if_pos h, if_pos h]
  · rw [if_neg h]
/-- no bits -/
def zid : ByteArray := strOfNums (List.replicate 20 0)
theorem zid_size : zid.size = 20 := by rw [zid, strOfNums_size]; simp
theorem by_zid (k : Nat) (hk : k < 20) : by_ zid k = 0 := by
  refine by_str _ k (by simpa using hk) 0 (by omega) ?_
  rw [List.getD, List.getElem?_replicate, if_pos hk]; rfl
theorem bt_zid (i : Nat) (hi : i < 160) : bt zid i = false := by
  unfold bt
  rw [by_zid _ (by omega)]
  simp
theorem nb_zid : nb zid = 0 := by
  have : ∀ j, j ≤ 20 → low zid j = 0 := by
    intro j
    induction j with
    | zero => intro _; rfl
    | succ j ih => intro hj; rw [low, ih (by omega), by_zid _ (by omega)]; simp
  exact this 20 (by omega)
end Go.Proofs.YtaoanggiibgcdaaDoor.Na
