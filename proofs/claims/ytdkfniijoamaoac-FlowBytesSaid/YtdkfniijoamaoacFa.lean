/-
  Plain maths of marks: bits of bytes.
-/
import Derived.Test.YtdkfniijoamaoacHz
import Derived.Laws.BitsLemmas
namespace Go.Proofs.Ytdkfniijoamaoac.Fl
open Go Go.RowKit

theorem tb_or (b t u : Nat) : (b ||| 2 ^ t).testBit u = (b.testBit u || decide (t = u)) := by
  rw [Nat.testBit_or, Nat.testBit_two_pow]
theorem or_lt (b t : Nat) (hb : b < 256) (ht : t < 8) : b ||| 2 ^ t < 256 :=
  Nat.or_lt_two_pow (n := 8) hb (Nat.pow_lt_pow_right (by omega) ht)
theorem shr_bit (b t : Nat) : decide (b / 2 ^ t % 2 = 1) = b.testBit t := by rw [Nat.testBit_eq_decide_div_mod_eq]
theorem and_bit (b t : Nat) : decide (b &&& 2 ^ t ≠ 0) = b.testBit t := by
  cases h : b.testBit t
  · have e : b &&& 2 ^ t = 0 := by
      apply Nat.eq_of_testBit_eq
      intro i
      rw [Nat.testBit_and, Nat.testBit_two_pow, Nat.zero_testBit]
      by_cases hi : t = i
      · subst hi; rw [h]; rfl
      · simp [hi]
    simp [e]
  · simp only [decide_eq_true_eq]
    intro e
    have h2 : (b &&& 2 ^ t).testBit t = true := by rw [Nat.testBit_and, Nat.testBit_two_pow, h]; simp
    rw [e, Nat.zero_testBit] at h2
    cases h2
theorem pow_8 (t : Nat) (h : t < 8) : 2 ^ t < 256 := Nat.pow_lt_pow_right (n := 8) (by omega) h
theorem or8 (a b : Nat) (ha : a < 256) (hb : b < 256) : bits .or .u8 (a : Int) (b : Int) = ((a ||| b : Nat) : Int) := (bits_nat .u8 8 (by decide) wraps_u8 a b ha hb).2
theorem and8 (a b : Nat) (ha : a < 256) (hb : b < 256) : bits .and .u8 (a : Int) (b : Int) = ((a &&& b : Nat) : Int) := (bits_nat .u8 8 (by decide) wraps_u8 a b ha hb).1
theorem shl8 (t : Nat) (h : t < 8) : IntKind.u8.wrap (2 ^ t : Int) = ((2 ^ t : Nat) : Int) := by
  have := pow_8 t h
  rw [show ((2 : Int) ^ t) = ((2 ^ t : Nat) : Int) by rw [Int.natCast_pow]; rfl, IntKind.wrap_u8]
  generalize (2 : Nat) ^ t = p at *
  omega

/-- the byte number j of the marks at some places -/
def mb : List Nat → Nat → Nat
  | [], _ => 0
  | i :: is, j => if i / 8 = j then mb is j ||| 2 ^ (i % 8) else mb is j
theorem mb_lt : ∀ (is : List Nat) (j : Nat), mb is j < 256
  | [], _ => by unfold mb; omega
  | i :: is, j => by
    unfold mb
    split
    · exact or_lt _ _ (mb_lt is j) (Nat.mod_lt _ (by omega))
    · exact mb_lt is j
theorem mb_snoc : ∀ (is : List Nat) (i j : Nat), mb (is ++ [i]) j = if i / 8 = j then mb is j ||| 2 ^ (i % 8) else mb is j
  | [], i, j => rfl
  | e :: is, i, j => by
    have ih := mb_snoc is i j
    rw [List.cons_append]
    by_cases h1 : e / 8 = j <;> by_cases h2 : i / 8 = j
    · simp only [mb, h1, h2, if_true] at ih ⊢
      rw [ih, Nat.or_assoc, Nat.or_assoc, Nat.or_comm (2 ^ (i % 8))]
    · simp only [mb, h1, h2, if_true, if_false] at ih ⊢
      rw [ih]
    · simp only [mb, h1, h2, if_true, if_false] at ih ⊢
      rw [ih]
    · simp only [mb, h1, h2, if_false] at ih ⊢
      rw [ih]
theorem mb_bit : ∀ (is : List Nat) (j t : Nat), t < 8 → (mb is j).testBit t = decide (8 * j + t ∈ is)
  | [], j, t, _ => by simp [mb]
  | i :: is, j, t, ht => by
    have ih := mb_bit is j t ht
    unfold mb
    by_cases e : i / 8 = j
    · rw [if_pos e, tb_or, ih]
      rw [Bool.eq_iff_iff]
      simp only [Bool.or_eq_true, decide_eq_true_eq, List.mem_cons]
      constructor
      · rintro (h1 | h1)
        · exact .inr h1
        · exact .inl (by omega)
      · rintro (h1 | h1)
        · exact .inr (by omega)
        · exact .inl h1
    · rw [if_neg e, ih]
      rw [Bool.eq_iff_iff]
      simp only [decide_eq_true_eq, List.mem_cons]
      constructor
      · exact .inr
      · rintro (h1 | h1)
        · exfalso; apply e; omega
        · exact h1
/-- how many bytes the marks have -/
def mn : List Nat → Nat
  | [] => 0
  | i :: is => max (mn is) (i / 8 + 1)
theorem mn_snoc : ∀ (is : List Nat) (i : Nat), mn (is ++ [i]) = max (mn is) (i / 8 + 1)
  | [], _ => rfl
  | e :: is, i => by
    have ih := mn_snoc is i
    rw [List.cons_append]
    simp only [mn]
    omega
theorem mn_le : ∀ (is : List Nat), (∀ i, i ∈ is → i < 32) → mn is ≤ 4
  | [], _ => by unfold mn; omega
  | i :: is, h => by
    have ih := mn_le is (fun x hx => h x (List.mem_cons_of_mem _ hx))
    have hd := h i (by simp)
    unfold mn; omega
theorem mn_mem : ∀ (is : List Nat) (i : Nat), i ∈ is → i < 8 * mn is
  | e :: is, i, h => by
    unfold mn
    rcases List.mem_cons.1 h with rfl | h1
    · omega
    · have := mn_mem is i h1; omega
/-- the farthest of them, by how much it is beyond; 0 if there is none -/
def mx : List Nat → Nat
  | [] => 0
  | i :: is => max (mx is) (i + 2)
theorem mx_snoc : ∀ (is : List Nat) (i : Nat), mx (is ++ [i]) = max (mx is) (i + 2)
  | [], _ => rfl
  | e :: is, i => by
    have ih := mx_snoc is i
    rw [List.cons_append]
    simp only [mx]
    omega
theorem mx_le : ∀ (is : List Nat), (∀ i, i ∈ is → i < 32) → mx is ≤ 33
  | [], _ => by unfold mx; omega
  | i :: is, h => by
    have ih := mx_le is (fun x hx => h x (List.mem_cons_of_mem _ hx))
    have hd := h i (by simp)
    unfold mx; omega
theorem mx_mn : ∀ (is : List Nat), (mx is = 0 ∧ mn is = 0 ∧ is = []) ∨ (2 ≤ mx is ∧ mn is = (mx is - 2) / 8 + 1)
  | [] => .inl ⟨rfl, rfl, rfl⟩
  | i :: is => by
    refine .inr ?_
    rcases mx_mn is with ⟨h1, h2, _⟩ | ⟨h1, h2⟩
    · unfold mx mn; omega
    · unfold mx mn; omega

/-- the four bytes -/
def m4 (is : List Nat) : List Int := [(mb is 0 : Int), (mb is 1 : Int), (mb is 2 : Int), (mb is 3 : Int)]
theorem m4_len (is : List Nat) : (m4 is).length = 4 := rfl
theorem m4_at (is : List Nat) (j : Nat) (h : j < 4) : (m4 is).getD j 0 = (mb is j : Int) := by
  obtain rfl | rfl | rfl | rfl : j = 0 ∨ j = 1 ∨ j = 2 ∨ j = 3 := by omega
  all_goals rfl
theorem m4_snoc (is : List Nat) (i : Nat) (h : i < 32) : m4 (is ++ [i]) = (m4 is).set (i / 8) ((mb is (i / 8) ||| 2 ^ (i % 8) : Nat) : Int) := by
  have hj : i / 8 < 4 := by omega
  unfold m4
  simp only [mb_snoc]
  generalize i / 8 = j at *
  obtain rfl | rfl | rfl | rfl : j = 0 ∨ j = 1 ∨ j = 2 ∨ j = 3 := by omega
  all_goals simp
/-- the marks' text -/
def mt (is : List Nat) : ByteArray := strOfNums ((m4 is).take (mn is))

/-- the places that a text of marks names -/
def bitOf (s : ByteArray) (i : Nat) : Bool := ((s.data.toList.getD (i / 8) 0).toNat).testBit (i % 8)
def nm (p : Nat → Bool) (m : Nat) : List Nat := (List.range m).filter p
theorem nm_succ (p : Nat → Bool) (m : Nat) : nm p (m + 1) = if p m then nm p m ++ [m] else nm p m := by
  unfold nm
  rw [List.range_succ, List.filter_append]
  cases h : p m <;> simp [h]
theorem nm_len (p : Nat → Bool) (m : Nat) : (nm p m).length ≤ m := by
  unfold nm
  exact Nat.le_trans (List.length_filter_le _ _) (by simp)
theorem nm_congr (p q : Nat → Bool) : ∀ (m : Nat), (∀ i, i < m → p i = q i) → nm p m = nm q m
  | 0, _ => rfl
  | m + 1, h => by
    rw [nm_succ, nm_succ, nm_congr p q m (fun i hi => h i (by omega)), h m (by omega)]
theorem nm_more (p : Nat → Bool) (m : Nat) : ∀ (k : Nat), (∀ i, m ≤ i → i < m + k → p i = false) → nm p (m + k) = nm p m
  | 0, _ => rfl
  | k + 1, h => by
    rw [show m + (k + 1) = (m + k) + 1 by omega, nm_succ, h (m + k) (by omega) (by omega)]
    exact nm_more p m k (fun i h1 h2 => h i h1 (by omega))
theorem nm_lt (p : Nat → Bool) (m x : Nat) (h : x ∈ nm p m) : x < m := by
  unfold nm at h
  simpa using (List.mem_filter.1 h).1

theorem mt_size (is : List Nat) (h : ∀ i, i ∈ is → i < 32) : (mt is).size = mn is := by
  unfold mt
  rw [strOfNums_size, List.length_take, m4_len]
  have := mn_le is h
  omega
theorem mt_byte (is : List Nat) (j : Nat) (h : ∀ i, i ∈ is → i < 32) (hj : j < mn is) : ((mt is).data.toList.getD j 0).toNat = mb is j := by
  have h4 := mn_le is h
  have hm := mb_lt is j
  have hl : j < ((m4 is).take (mn is)).length := by rw [List.length_take, m4_len]; omega
  have ha := m4_at is j (by omega)
  unfold mt
  rw [strOfNums_data, List.getD, List.getElem?_map, List.getElem?_take_of_lt hj]
  rw [List.getD] at ha
  have hl4 : j < (m4 is).length := by rw [m4_len]; omega
  rw [List.getElem?_eq_getElem hl4] at ha ⊢
  simp only [Option.getD_some] at ha
  simp only [Option.map_some, Option.getD_some]
  rw [ha]
  simp
  omega
/-- what the marks' text names are the places -/
theorem mt_names (is : List Nat) (h : ∀ i, i ∈ is → i < 32) : nm (bitOf (mt is)) (8 * (mt is).size) = nm (fun i => decide (i ∈ is)) 32 := by
  rw [mt_size is h]
  have h4 := mn_le is h
  rw [nm_congr (bitOf (mt is)) (fun i => decide (i ∈ is)) (8 * mn is) (fun i hi => by
    unfold bitOf
    rw [mt_byte is (i / 8) h (by omega), mb_bit is (i / 8) (i % 8) (Nat.mod_lt _ (by omega)), Nat.div_add_mod])]
  have hm := nm_more (fun i => decide (i ∈ is)) (8 * mn is) (32 - 8 * mn is) (fun i h1 _ => by
    have := mn_mem is i
    simp only [decide_eq_false_iff_not]
    intro hi
    have := this hi
    omega)
  rw [show 8 * mn is + (32 - 8 * mn is) = 32 by omega] at hm
  exact hm.symm
end Go.Proofs.Ytdkfniijoamaoac.Fl
