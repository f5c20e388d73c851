/-
  Identifiers as bits: plain maths (nothing of the program's own).
-/
import Derived.Laws.BytesArg
import Derived.Laws.Bits64b
import GoSem.Op.String
import Derived.WalkKit
set_option linter.unusedVariables false
namespace Go.Proofs.YtpmmilnoeoapoaaGreatDoor.Na
open Go

def by_ (s : ByteArray) (k : Nat) : Nat := (s.data.toList.getD k 0).toNat
theorem by_lt (s : ByteArray) (k : Nat) : by_ s k < 256 := UInt8.toNat_lt _
theorem len_data (d : ByteArray) : d.data.toList.length = d.size := by simp
theorem by_at (s : ByteArray) (k : Nat) (h : k < s.size) : s[k].toNat = by_ s k := by
  have h' : k < s.data.toList.length := by rw [len_data]; exact h
  unfold by_
  rw [List.getD, List.getElem?_eq_getElem h']
  rfl
/-- bit i, the greatest of each byte first -/
def bt (s : ByteArray) (i : Nat) : Bool := (by_ s (i / 8)).testBit (7 - i % 8)

theorem nat_ext (x y : Nat) (hx : x < 256) (hy : y < 256) (h : ∀ b, b < 8 → x.testBit b = y.testBit b) : x = y := by
  apply Nat.eq_of_testBit_eq
  intro i
  by_cases hi : i < 8
  · exact h i hi
  · have p : (256 : Nat) = 2 ^ 8 := rfl
    have q : 2 ^ 8 ≤ 2 ^ i := Nat.pow_le_pow_right (by omega) (by omega)
    rw [Nat.testBit_lt_two_pow (by omega), Nat.testBit_lt_two_pow (by omega)]
theorem by_ext (s t : ByteArray) (hs : s.size = 20) (ht : t.size = 20) (h : ∀ k, k < 20 → by_ s k = by_ t k) : s = t := by
  apply ByteArray.ext
  apply Array.ext'
  apply List.ext_getElem (by rw [len_data, len_data, hs, ht])
  intro k h1 h2
  rw [len_data] at h1 h2
  have := h k (by omega)
  unfold by_ at this
  rw [List.getD, List.getD, List.getElem?_eq_getElem (by rw [len_data]; omega), List.getElem?_eq_getElem (by rw [len_data]; omega)] at this
  exact UInt8.toNat_inj.1 this
theorem bt_ext (s t : ByteArray) (hs : s.size = 20) (ht : t.size = 20) (h : ∀ i, i < 160 → bt s i = bt t i) : s = t := by
  apply by_ext s t hs ht
  intro k hk
  apply nat_ext _ _ (by_lt _ _) (by_lt _ _)
  intro b hb
  have := h (8 * k + (7 - b)) (by omega)
  unfold bt at this
  rwa [show (8 * k + (7 - b)) / 8 = k by omega, show 7 - (8 * k + (7 - b)) % 8 = b by omega] at this

/-- the xor of identifiers -/
def dl (a b : ByteArray) : List Int := (List.range 20).map fun k => ((by_ a k ^^^ by_ b k : Nat) : Int)
def ds (a b : ByteArray) : ByteArray := strOfNums (dl a b)
theorem dl_len (a b : ByteArray) : (dl a b).length = 20 := by simp [dl]
theorem ds_size (a b : ByteArray) : (ds a b).size = 20 := by rw [ds, strOfNums_size, dl_len]
theorem xor_lt (x y : Nat) (hx : x < 256) (hy : y < 256) : x ^^^ y < 256 := Nat.xor_lt_two_pow (n := 8) hx hy
theorem by_str (l : List Int) (k : Nat) (hk : k < l.length) (n : Nat) (hn : n < 256) (h : l.getD k 0 = (n : Int)) : by_ (strOfNums l) k = n := by
  unfold by_
  rw [strOfNums_data, List.getD, List.getElem?_map]
  rw [List.getD, List.getElem?_eq_getElem hk] at h
  rw [List.getElem?_eq_getElem hk]
  simp only [Option.getD_some, Option.map_some] at h ⊢
  rw [h]
  simp
  omega
theorem dl_at (a b : ByteArray) (k : Nat) (hk : k < 20) : (dl a b).getD k 0 = ((by_ a k ^^^ by_ b k : Nat) : Int) := by
  simp [dl, List.getD, List.getElem?_map, List.getElem?_range hk]
theorem by_ds (a b : ByteArray) (k : Nat) (hk : k < 20) : by_ (ds a b) k = by_ a k ^^^ by_ b k :=
  by_str _ k (by rw [dl_len]; exact hk) _ (xor_lt _ _ (by_lt _ _) (by_lt _ _)) (dl_at a b k hk)
theorem bt_ds (a b : ByteArray) (i : Nat) (hi : i < 160) : bt (ds a b) i = (bt a i != bt b i) := by
  unfold bt
  rw [by_ds a b _ (by omega), Nat.testBit_xor]
theorem ds_comm (a b : ByteArray) : ds a b = ds b a :=
  bt_ext _ _ (ds_size _ _) (ds_size _ _) fun i hi => by rw [bt_ds _ _ _ hi, bt_ds _ _ _ hi]; cases bt a i <;> cases bt b i <;> rfl
theorem ds_back (t a : ByteArray) (ha : a.size = 20) : ds t (ds t a) = a :=
  bt_ext _ _ (ds_size _ _) ha fun i hi => by rw [bt_ds _ _ _ hi, bt_ds _ _ _ hi]; cases bt t i <;> cases bt a i <;> rfl
theorem ds_add (t a b : ByteArray) : ds (ds t a) (ds a b) = ds t b :=
  bt_ext _ _ (ds_size _ _) (ds_size _ _) fun i hi => by rw [bt_ds _ _ _ hi, bt_ds _ _ _ hi, bt_ds _ _ _ hi, bt_ds _ _ _ hi]; cases bt t i <;> cases bt a i <;> cases bt b i <;> rfl

/-- the first number for which something holds, from 160 - k on -/
def lead (f : Nat → Bool) : Nat → Nat
  | 0 => 160
  | k + 1 => if f (160 - (k + 1)) then 160 - (k + 1) else lead f k
theorem lead_of (f : Nat → Bool) (i : Nat) (h1 : ∀ j, j < i → f j = false) (h2 : i = 160 ∨ i < 160 ∧ f i = true) : ∀ k, k ≤ 160 → 160 - k ≤ i → lead f k = i
  | 0, _, h => by simp only [lead]; omega
  | k + 1, hk, h => by
    simp only [lead]
    by_cases e : 160 - (k + 1) = i
    · rcases h2 with h2 | h2
      · omega
      · rw [e, h2.2]; rfl
    · rw [h1 _ (by omega)]
      exact lead_of f i h1 h2 k (by omega) (by omega)
def fst (f : Nat → Bool) : Nat := lead f 160
theorem fst_of (f : Nat → Bool) (i : Nat) (h1 : ∀ j, j < i → f j = false) (h2 : i = 160 ∨ i < 160 ∧ f i = true) : fst f = i := lead_of f i h1 h2 160 (by omega) (by omega)
theorem lead_is (f : Nat → Bool) : ∀ k, k ≤ 160 → (∀ j, j < 160 - k → f j = false) → (∀ j, j < lead f k → f j = false) ∧ (lead f k = 160 ∨ lead f k < 160 ∧ f (lead f k) = true)
  | 0, _, h => ⟨fun j hj => h j (by simpa [lead] using hj), .inl rfl⟩
  | k + 1, hk, h => by
    simp only [lead]
    cases e : f (160 - (k + 1))
    · simp only [Bool.false_eq_true, if_false]
      refine lead_is f k (by omega) fun j hj => ?_
      by_cases q : j = 160 - (k + 1)
      · rw [q, e]
      · exact h j (by omega)
    · simp only [if_true]
      exact ⟨fun j hj => h j (by omega), .inr ⟨by omega, e⟩⟩
theorem fst_is (f : Nat → Bool) : (∀ j, j < fst f → f j = false) ∧ (fst f = 160 ∨ fst f < 160 ∧ f (fst f) = true) := lead_is f 160 (by omega) fun j hj => by omega
theorem fst_le (f : Nat → Bool) : fst f ≤ 160 := by rcases (fst_is f).2 with h | h <;> omega

/-- with how many equal bits two identifiers begin -/
def cmn (a b : ByteArray) : Nat := fst fun i => bt a i != bt b i
/-- is a nearer to t than b? -/
def nr (t a b : ByteArray) : Bool := let i := cmn a b; decide (i < 160) && (bt a i == bt t i)
theorem cmn_ds (a b : ByteArray) : fst (bt (ds a b)) = cmn a b := by
  obtain ⟨h1, h2⟩ := fst_is fun i => bt a i != bt b i
  have hle : cmn a b ≤ 160 := fst_le _
  refine fst_of _ _ (fun j hj => ?_) ?_
  · rw [bt_ds _ _ _ (by omega)]; exact h1 j hj
  · rcases h2 with h2 | h2
    · exact .inl h2
    · exact .inr ⟨h2.1, (bt_ds _ _ _ h2.1).trans h2.2⟩
/-- who has more bits in common is nearer -/
theorem nr_of (t a b : ByteArray) (h : cmn t b < cmn t a) : nr t a b = true := by
  obtain ⟨p1, p2⟩ := fst_is fun i => bt t i != bt a i
  obtain ⟨q1, q2⟩ := fst_is fun i => bt t i != bt b i
  have hle : cmn t a ≤ 160 := fst_le _
  have hlt : cmn t b < 160 := by omega
  have e : cmn a b = cmn t b := by
    refine fst_of _ _ (fun j hj => ?_) (.inr ⟨hlt, ?_⟩)
    · have x := p1 j (Nat.lt_trans hj h)
      have y := q1 j hj
      simp only [bne_eq_false_iff_eq] at x y ⊢
      rw [← x, y]
    · have x := p1 _ h
      rcases q2 with q2 | q2
      · have : cmn t b = 160 := q2; omega
      · have y := q2.2
        change (bt t (cmn t b) != bt b (cmn t b)) = true at y
        change (bt t (cmn t b) != bt a (cmn t b)) = false at x
        simp only [bne_eq_false_iff_eq] at x
        rw [← x]; exact y
  unfold nr
  rw [e]
  have x := p1 _ h
  simp only [bne_eq_false_iff_eq] at x
  simp only [hlt, decide_true, Bool.true_and, beq_iff_eq]
  exact x.symm

theorem lt_bits {x y : Nat} (i : Nat) (hx : x.testBit i = false) (hy : y.testBit i = true) (h : ∀ j, i < j → x.testBit j = y.testBit j) : x < y := by
  have e : x >>> (i + 1) = y >>> (i + 1) := by
    apply Nat.eq_of_testBit_eq
    intro j
    rw [Nat.testBit_shiftRight, Nat.testBit_shiftRight]
    exact h _ (by omega)
  rw [Nat.shiftRight_succ, Nat.shiftRight_succ] at e
  have hx' : x >>> i % 2 = 0 := by
    have := hx
    rw [Nat.testBit, Nat.and_comm, Nat.and_one_is_mod] at this
    simpa using this
  have hy' : y >>> i % 2 = 1 := by
    have := hy
    rw [Nat.testBit, Nat.and_comm, Nat.and_one_is_mod] at this
    simp at this
    omega
  have : x >>> i < y >>> i := by omega
  rw [Nat.shiftRight_eq_div_pow, Nat.shiftRight_eq_div_pow] at this
  exact Nat.lt_of_div_lt_div this
theorem less_self : ∀ l : List UInt8, Op.bytesLess l l = false
  | [] => rfl
  | a :: l => by simp [Op.bytesLess, less_self l]
theorem less_app (p : List UInt8) (a b : UInt8) (x y : List UInt8) (h : a ≠ b) : Op.bytesLess (p ++ a :: x) (p ++ b :: y) = decide (a < b) := by
  induction p with
  | nil =>
    have : (a == b) = false := by simpa using h
    simp [Op.bytesLess, this]
  | cons c p ih => simp [Op.bytesLess, ih]
theorem split_at (s : ByteArray) (k : Nat) (hk : k < s.size) : s.data.toList = s.data.toList.take k ++ s[k] :: s.data.toList.drop (k + 1) := by
  have h' : k < s.data.toList.length := by rw [len_data]; exact hk
  have : s.data.toList[k] = s[k] := rfl
  rw [← this, ← List.drop_eq_getElem_cons h', List.take_append_drop]
/-- two texts that differ first in byte k -/
theorem less_at (s t : ByteArray) (hs : s.size = 20) (ht : t.size = 20) (k : Nat) (hk : k < 20) (h : ∀ j, j < k → by_ s j = by_ t j) (hne : by_ s k ≠ by_ t k) : Op.bytesLess s.toList t.toList = decide (by_ s k < by_ t k) := by
  rw [ByteArray.toList_eq, ByteArray.toList_eq]
  have e : s.data.toList.take k = t.data.toList.take k := by
    apply List.ext_getElem
    · simp only [List.length_take, len_data]; omega
    · intro j h1 h2
      simp only [List.length_take, len_data] at h1 h2
      have := h j (by omega)
      rw [← by_at s j (by omega), ← by_at t j (by omega)] at this
      rw [List.getElem_take, List.getElem_take]
      exact UInt8.toNat_inj.1 this
  rw [split_at s k (by omega), split_at t k (by omega), e, less_app]
  · rw [Bool.eq_iff_iff, decide_eq_true_iff, decide_eq_true_iff, UInt8.lt_iff_toNat_lt, by_at s k (by omega), by_at t k (by omega)]
  · intro q
    apply hne
    rw [← by_at s k (by omega), ← by_at t k (by omega), q]
theorem less_ds (t a b : ByteArray) (ha : a.size = 20) (hb : b.size = 20) : Op.bytesLess (ds t a).toList (ds t b).toList = nr t a b := by
  obtain ⟨h1, h2⟩ := fst_is fun i => bt a i != bt b i
  change ∀ j, j < cmn a b → _ at h1
  change cmn a b = 160 ∨ cmn a b < 160 ∧ (bt a (cmn a b) != bt b (cmn a b)) = true at h2
  have hn : nr t a b = (decide (cmn a b < 160) && (bt a (cmn a b) == bt t (cmn a b))) := rfl
  generalize cmn a b = i at *
  simp only [bne_eq_false_iff_eq] at h1
  rcases h2 with rfl | ⟨hi, h2⟩
  · have : a = b := bt_ext a b ha hb fun j hj => h1 j hj
    subst this; rw [less_self, hn]; rfl
  · have hbits : ∀ j, j < i → bt (ds t a) j = bt (ds t b) j := fun j hj => by rw [bt_ds _ _ _ (by omega), bt_ds _ _ _ (by omega), h1 j hj]
    have x : bt (ds t a) i = (bt t i != bt a i) := bt_ds _ _ _ hi
    have y : bt (ds t b) i = (bt t i != bt b i) := bt_ds _ _ _ hi
    have low : ∀ k, k < i / 8 → by_ (ds t a) k = by_ (ds t b) k := fun k hk => nat_ext _ _ (by_lt _ _) (by_lt _ _) fun c hc => by
      have := hbits (8 * k + (7 - c)) (by omega)
      unfold bt at this
      rwa [show (8 * k + (7 - c)) / 8 = k by omega, show 7 - (8 * k + (7 - c)) % 8 = c by omega] at this
    have hi8 : ∀ c, 7 - i % 8 < c → (by_ (ds t a) (i / 8)).testBit c = (by_ (ds t b) (i / 8)).testBit c := fun c hc => by
      by_cases h8 : c < 8
      · have := hbits (8 * (i / 8) + (7 - c)) (by omega)
        unfold bt at this
        rwa [show (8 * (i / 8) + (7 - c)) / 8 = i / 8 by omega, show 7 - (8 * (i / 8) + (7 - c)) % 8 = c by omega] at this
      · have q : 2 ^ 8 ≤ 2 ^ c := Nat.pow_le_pow_right (by omega) (by omega)
        have := by_lt (ds t a) (i / 8)
        have := by_lt (ds t b) (i / 8)
        rw [Nat.testBit_lt_two_pow (by omega), Nat.testBit_lt_two_pow (by omega)]
    unfold bt at x y
    rw [hn]
    simp only [hi, decide_true, Bool.true_and]
    have hne : bt a i ≠ bt b i := by simpa using h2
    have key : by_ (ds t a) (i / 8) ≠ by_ (ds t b) (i / 8) := by
      intro q
      rw [q, y] at x
      change (bt t i != bt b i) = (bt t i != bt a i) at x
      revert x hne
      cases bt t i <;> cases bt a i <;> cases bt b i <;> decide
    rw [less_at _ _ (ds_size _ _) (ds_size _ _) (i / 8) (by omega) low key]
    change (by_ (ds t a) (i / 8)).testBit (7 - i % 8) = (bt t i != bt a i) at x
    change (by_ (ds t b) (i / 8)).testBit (7 - i % 8) = (bt t i != bt b i) at y
    cases e : (bt a i == bt t i)
    · have e1 : bt a i ≠ bt t i := by simpa using e
      have lt : by_ (ds t b) (i / 8) < by_ (ds t a) (i / 8) := lt_bits (7 - i % 8)
        (by rw [y]; revert hne e1; cases bt t i <;> cases bt a i <;> cases bt b i <;> decide)
        (by rw [x]; revert hne e1; cases bt t i <;> cases bt a i <;> cases bt b i <;> decide) (fun c hc => (hi8 c hc).symm)
      exact decide_eq_false (by omega)
    · have e1 : bt a i = bt t i := by simpa using e
      have lt : by_ (ds t a) (i / 8) < by_ (ds t b) (i / 8) := lt_bits (7 - i % 8)
        (by rw [x]; revert hne e1; cases bt t i <;> cases bt a i <;> cases bt b i <;> decide)
        (by rw [y]; revert hne e1; cases bt t i <;> cases bt a i <;> cases bt b i <;> decide) (fun c hc => hi8 c hc)
      exact decide_eq_true lt
end Go.Proofs.YtpmmilnoeoapoaaGreatDoor.Na
