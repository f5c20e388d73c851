/-
  Fields of bits: plain maths (nothing of the program's own).
-/
import Derived.Test.YtbeaohnjifcgaaaDoorNa
namespace Go.Proofs.YtbeaohnjifcgaaaDoor.Ba
open Go Go.Proofs.YtbeaohnjifcgaaaDoor.Na

/-- the first j bits of byte k, as a number -/
def acc (β : Nat → Bool) (k : Nat) : Nat → Nat
  | 0 => 0
  | j + 1 => 2 * acc β k j + (β (8 * k + j)).toNat
theorem toNat_le (b : Bool) : b.toNat ≤ 1 := by cases b <;> decide
theorem acc_lt (β : Nat → Bool) (k j : Nat) : acc β k j < 2 ^ j := by
  induction j with
  | zero => simp [acc]
  | succ j ih => rw [acc, Nat.pow_succ]; have := toNat_le (β (8 * k + j)); omega
theorem acc_bit (β : Nat → Bool) (k : Nat) : ∀ j b, b < j → (acc β k j).testBit b = β (8 * k + (j - 1 - b)) := by
  intro j
  induction j with
  | zero => intro b h; omega
  | succ j ih =>
    intro b h
    rw [acc]
    cases b with
    | zero =>
      rw [Nat.testBit_zero]
      simp only [Nat.sub_zero, Nat.add_sub_cancel]
      cases β (8 * k + j) <;> simp <;> omega
    | succ b =>
      rw [Nat.testBit_succ, show (2 * acc β k j + (β (8 * k + j)).toNat) / 2 = acc β k j from by have := toNat_le (β (8 * k + j)); omega, ih b (by omega)]
      congr 1
      omega
/-- a byte of bits -/
def bN (β : Nat → Bool) (k : Nat) : Nat := acc β k 8
theorem bN_lt (β : Nat → Bool) (k : Nat) : bN β k < 256 := acc_lt β k 8
theorem bN_bit (β : Nat → Bool) (k b : Nat) (h : b < 8) : (bN β k).testBit b = β (8 * k + (7 - b)) := acc_bit β k 8 b h
theorem bN_of (β : Nat → Bool) (k x : Nat) (hx : x < 256) (h : ∀ b, b < 8 → x.testBit b = β (8 * k + (7 - b))) : x = bN β k :=
  nat_ext _ _ hx (bN_lt _ _) fun b hb => by rw [h b hb, bN_bit _ _ _ hb]
theorem bN_congr (β γ : Nat → Bool) (k : Nat) (h : ∀ j, j < 8 → β (8 * k + j) = γ (8 * k + j)) : bN β k = bN γ k :=
  bN_of _ _ _ (bN_lt _ _) fun b hb => by rw [bN_bit _ _ _ hb]; exact h _ (by omega)

def upd (β : Nat → Bool) (i : Nat) (v : Bool) : Nat → Bool := fun j => if j = i then v else β j
theorem upd_same (β : Nat → Bool) (i : Nat) (v : Bool) : upd β i v i = v := if_pos rfl
theorem upd_other (β : Nat → Bool) (i j : Nat) (v : Bool) (h : j ≠ i) : upd β i v j = β j := if_neg h
theorem bN_upd_other (β : Nat → Bool) (i k : Nat) (v : Bool) (h : k ≠ i / 8) : bN (upd β i v) k = bN β k :=
  bN_congr _ _ _ fun j hj => upd_other _ _ _ _ (by omega)
theorem two_lt (t : Nat) : 2 ^ (7 - t) < 256 := by
  have : 2 ^ (7 - t) ≤ 2 ^ 7 := Nat.pow_le_pow_right (by omega) (by omega)
  omega
theorem bN_raise (β : Nat → Bool) (i : Nat) : bN β (i / 8) ||| 2 ^ (7 - i % 8) = bN (upd β i true) (i / 8) := by
  refine bN_of _ _ _ (Nat.or_lt_two_pow (n := 8) (bN_lt _ _) (two_lt _)) fun b hb => ?_
  rw [Nat.testBit_or, bN_bit _ _ _ hb, Nat.testBit_two_pow]
  unfold upd
  by_cases e : 7 - i % 8 = b
  · rw [if_pos (by omega)]; simp [e]
  · rw [if_neg (by omega)]; simp [e]
theorem bN_clear (β : Nat → Bool) (i x : Nat) (hx : x < 256) (h : ∀ b, b < 8 → x.testBit b = ((bN β (i / 8)).testBit b && !decide (7 - i % 8 = b))) : x = bN (upd β i false) (i / 8) := by
  refine bN_of _ _ _ hx fun b hb => ?_
  rw [h b hb, bN_bit _ _ _ hb]
  unfold upd
  by_cases e : 7 - i % 8 = b
  · rw [if_pos (by omega)]; simp [e]
  · rw [if_neg (by omega)]; simp [e]

/-- a field of m bytes -/
def fl (m : Nat) (β : Nat → Bool) : List Int := (List.range m).map fun k => (bN β k : Int)
def fld (m : Nat) (β : Nat → Bool) : ByteArray := strOfNums (fl m β)
theorem fl_len (m : Nat) (β : Nat → Bool) : (fl m β).length = m := by simp [fl]
theorem fl_at (m : Nat) (β : Nat → Bool) (k : Nat) (h : k < m) : (fl m β).getD k 0 = (bN β k : Int) := by simp [fl, List.getD, h]
theorem fld_size (m : Nat) (β : Nat → Bool) : (fld m β).size = m := by rw [fld, strOfNums_size, fl_len]
theorem by_fld (m : Nat) (β : Nat → Bool) (k : Nat) (h : k < m) : by_ (fld m β) k = bN β k := by_str _ k (by rw [fl_len]; exact h) _ (bN_lt _ _) (fl_at m β k h)
theorem bt_fld (m : Nat) (β : Nat → Bool) (i : Nat) (h : i < 8 * m) : bt (fld m β) i = β i := by
  unfold bt
  rw [by_fld m β _ (by omega), bN_bit _ _ _ (by omega)]
  congr 1
  omega
theorem fl_set (m : Nat) (β γ : Nat → Bool) (i : Nat) (hi : i < m) (h : ∀ k, k < m → k ≠ i → bN γ k = bN β k) : (fl m β).set i (bN γ i : Int) = fl m γ := by
  apply List.ext_getElem (by rw [List.length_set, fl_len, fl_len])
  intro k h1 h2
  rw [fl_len] at h2
  by_cases e : k = i
  · subst e; simp [fl]
  · rw [List.getElem_set_ne (Ne.symm e)]; simp [fl, h k h2 e]
theorem by_ext (s t : ByteArray) (hs : s.size = t.size) (h : ∀ k, k < s.size → by_ s k = by_ t k) : s = t := by
  apply ByteArray.ext
  apply Array.ext'
  apply List.ext_getElem (by rw [Na.len_data, Na.len_data, hs])
  intro k h1 h2
  rw [Na.len_data] at h1 h2
  have := h k h1
  unfold by_ at this
  rw [List.getD, List.getD, List.getElem?_eq_getElem (by rw [Na.len_data]; omega), List.getElem?_eq_getElem (by rw [Na.len_data]; omega)] at this
  exact UInt8.toNat_inj.1 this
theorem bt_ext (s t : ByteArray) (hs : s.size = t.size) (h : ∀ i, i < 8 * s.size → bt s i = bt t i) : s = t := by
  apply by_ext s t hs
  intro k hk
  apply nat_ext _ _ (by_lt _ _) (by_lt _ _)
  intro b hb
  have := h (8 * k + (7 - b)) (by omega)
  unfold bt at this
  rwa [show (8 * k + (7 - b)) / 8 = k by omega, show 7 - (8 * k + (7 - b)) % 8 = b by omega] at this
theorem fld_congr (m : Nat) (β γ : Nat → Bool) (h : ∀ i, i < 8 * m → β i = γ i) : fld m β = fld m γ :=
  bt_ext _ _ (by rw [fld_size, fld_size]) fun i hi => by rw [fld_size] at hi; rw [bt_fld _ _ _ hi, bt_fld _ _ _ hi, h i hi]
theorem fld_self (s : ByteArray) (m : Nat) (h : s.size = m) : fld m (bt s) = s :=
  bt_ext _ _ (by rw [fld_size, h]) fun i hi => by rw [fld_size] at hi; exact bt_fld _ _ _ hi
theorem bN_bt (s : ByteArray) (k : Nat) : bN (bt s) k = by_ s k := by
  symm
  refine bN_of _ _ _ (by_lt _ _) fun b hb => ?_
  unfold bt
  rw [show (8 * k + (7 - b)) / 8 = k by omega, show 7 - (8 * k + (7 - b)) % 8 = b by omega]

/-! what is wrong with a field -/
def scan (s : ByteArray) (i : Nat) : Nat → Option Nat
  | 0 => none
  | f + 1 => if bt s i = true then some i else scan s (i + 1) f
theorem scan_none (s : ByteArray) : ∀ f i, scan s i f = none → ∀ j, i ≤ j → j < i + f → bt s j = false := by
  intro f
  induction f with
  | zero => intro i _ j h1 h2; omega
  | succ f ih =>
    intro i h j h1 h2
    rw [scan] at h
    split at h
    · cases h
    · rename_i hb
      by_cases e : j = i
      · subst e; simpa using hb
      · exact ih (i + 1) h j (by omega) (by omega)
theorem scan_of_none (s : ByteArray) : ∀ f i, (∀ j, i ≤ j → j < i + f → bt s j = false) → scan s i f = none := by
  intro f
  induction f with
  | zero => intro i _; rfl
  | succ f ih =>
    intro i h
    rw [scan, if_neg (by rw [h i (Nat.le_refl _) (by omega)]; decide)]
    exact ih (i + 1) fun j h1 h2 => h j (by omega) (by omega)
/-- how many bytes -/
def sz (n : Int) : Int := (n + 7) / 8
def wat (n : Int) (s : ByteArray) : Int :=
  if n < 0 ∨ 4096 < n then 0 else if (s.size : Int) < sz n then s.size else if sz n < (s.size : Int) then sz n
  else match scan s n.toNat (8 * s.size - n.toNat) with | some i => i | none => -1
def wer (n : Int) (s : ByteArray) : Int :=
  if n < 0 ∨ 4096 < n then 7 else if (s.size : Int) < sz n then 11 else if sz n < (s.size : Int) then 11
  else match scan s n.toNat (8 * s.size - n.toNat) with | some _ => 12 | none => 0
/-- a number of bits is right -/
def rgt (n : Int) : Bool := decide (0 ≤ n) && decide (n ≤ 4096)
/-- a field is right -/
def vd (n : Int) (s : ByteArray) : Bool := decide (wer n s = 0)
theorem rgt_t {n : Int} (h : rgt n = true) : 0 ≤ n ∧ n ≤ 4096 := by unfold rgt at h; simpa using h
theorem rgt_f {n : Int} (h : rgt n = false) : n < 0 ∨ 4096 < n := by unfold rgt at h; simp at h; omega
theorem vd_t {n : Int} {s : ByteArray} (h : vd n s = true) : ∃ N : Nat, n = N ∧ N ≤ 4096 ∧ s.size = (N + 7) / 8 ∧ ∀ i, N ≤ i → i < 8 * s.size → bt s i = false := by
  unfold vd wer at h
  simp only [decide_eq_true_eq] at h
  split at h
  · omega
  · rename_i h0
    split at h
    · omega
    · rename_i h1
      split at h
      · omega
      · rename_i h2
        unfold sz at h1 h2
        refine ⟨n.toNat, by omega, by omega, by omega, fun i hi hi2 => ?_⟩
        cases e : scan s n.toNat (8 * s.size - n.toNat) with
        | none => exact scan_none s _ _ e i hi (by omega)
        | some x => rw [e] at h; simp at h
theorem vd_of {N : Nat} {s : ByteArray} (h1 : N ≤ 4096) (h2 : s.size = (N + 7) / 8) (h3 : ∀ i, N ≤ i → i < 8 * s.size → bt s i = false) : vd N s = true := by
  unfold vd wer sz
  rw [if_neg (by omega), if_neg (by omega), if_neg (by omega), Int.toNat_natCast, scan_of_none s _ _ (fun j a b => h3 j a (by omega))]
  rfl
theorem vd_fld {N : Nat} (β : Nat → Bool) (h : N ≤ 4096) (hb : ∀ i, N ≤ i → i < 8 * ((N + 7) / 8) → β i = false) : vd N (fld ((N + 7) / 8) β) = true :=
  vd_of h (fld_size _ _) fun i a b => by rw [fld_size] at b; rw [bt_fld _ _ _ b]; exact hb i a b
end Go.Proofs.YtbeaohnjifcgaaaDoor.Ba
