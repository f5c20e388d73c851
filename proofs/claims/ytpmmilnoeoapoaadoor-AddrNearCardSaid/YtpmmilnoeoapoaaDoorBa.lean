/-
  Addresses: plain words on common bits.
-/
import Derived.Test.YtpmmilnoeoapoaaDoorNa
namespace Go.Proofs.YtpmmilnoeoapoaaDoor.Ba
open Go Go.Proofs.YtpmmilnoeoapoaaDoor.Na

/-- n is the first number below m at which f holds, or m -/
def isF (f : Nat → Bool) (m n : Nat) : Prop := (∀ j, j < n → f j = false) ∧ (n = m ∨ n < m ∧ f n = true)
theorem isF.uniq {f : Nat → Bool} {m n k : Nat} (h : isF f m n) (g : isF f m k) : n = k := by
  rcases Nat.lt_trichotomy n k with l | l | l
  · rcases h.2 with e | ⟨_, e⟩
    · rcases g.2 with e' | ⟨e', _⟩ <;> omega
    · rw [g.1 n l] at e; cases e
  · exact l
  · rcases g.2 with e | ⟨_, e⟩
    · rcases h.2 with e' | ⟨e', _⟩ <;> omega
    · rw [h.1 k l] at e; cases e
theorem isF.le {f : Nat → Bool} {m n : Nat} (h : isF f m n) : n ≤ m := by rcases h.2 with e | ⟨e, _⟩ <;> omega
/-- the bits differ -/
def df (a b : ByteArray) (i : Nat) : Bool := bt a i != bt b i
theorem df_self (a : ByteArray) (i : Nat) : df a a i = false := by simp [df]
theorem isF_self (a : ByteArray) (m : Nat) : isF (df a a) m m := ⟨fun j _ => df_self a j, .inl rfl⟩
theorem tri {a b c : ByteArray} {m x p q : Nat} (h : isF (df a b) m x) (g : isF (df b c) m p) (k : isF (df a c) m q) : (x = p ∧ x ≤ q) ∨ (x = q ∧ x ≤ p) ∨ (p = q ∧ p ≤ x) := by
  have lo : ∀ j, j < x → j < p → df a c j = false := fun j h1 h2 => by
    have e1 := h.1 j h1
    have e2 := g.1 j h2
    unfold df at e1 e2 ⊢
    cases ha : bt a j <;> cases hb : bt b j <;> cases hc : bt c j <;> simp_all
  rcases Nat.lt_trichotomy x p with l | l | l
  · refine .inr (.inl ⟨?_, by omega⟩)
    refine isF.uniq (f := df a c) (m := m) ⟨fun j hj => lo j hj (by omega), ?_⟩ k
    rcases h.2 with e | ⟨e, e1⟩
    · have := g.le; omega
    · refine .inr ⟨e, ?_⟩
      have e2 := g.1 x l
      unfold df at e1 e2 ⊢
      cases ha : bt a x <;> cases hb : bt b x <;> cases hc : bt c x <;> simp_all
  · refine .inl ⟨l, ?_⟩
    rcases Nat.lt_or_ge q x with hq | hq
    · rcases k.2 with e | ⟨_, e1⟩
      · have := h.le; omega
      · rw [lo q hq (by omega)] at e1; cases e1
    · exact hq
  · refine .inr (.inr ⟨?_, by omega⟩)
    refine isF.uniq (f := df a c) (m := m) ⟨fun j hj => lo j (by omega) hj, ?_⟩ k
    rcases g.2 with e | ⟨e, e1⟩
    · have := h.le; omega
    · refine .inr ⟨e, ?_⟩
      have e2 := h.1 p l
      unfold df at e1 e2 ⊢
      cases ha : bt a p <;> cases hb : bt b p <;> cases hc : bt c p <;> simp_all

/-- the first one of a byte -/
theorem isF_byte (a b : ByteArray) (i l m : Nat) (hm : 8 * i + 8 ≤ m) (hlow : ∀ j, j < i → by_ a j = by_ b j) (hl : l < 8) (h1 : (by_ a i ^^^ by_ b i).testBit (7 - l) = true) (h0 : ∀ j, j < l → (by_ a i ^^^ by_ b i).testBit (7 - j) = false) : isF (df a b) m (8 * i + l) := by
  have bit : ∀ k j, j < 8 → df a b (8 * k + j) = (by_ a k ^^^ by_ b k).testBit (7 - j) := fun k j hj => by
    unfold df bt
    rw [show (8 * k + j) / 8 = k by omega, show (8 * k + j) % 8 = j by omega, Nat.testBit_xor]
  refine ⟨fun j hj => ?_, .inr ⟨by omega, by rw [bit i l hl]; exact h1⟩⟩
  rw [show j = 8 * (j / 8) + j % 8 by omega, bit _ _ (by omega)]
  by_cases e : j / 8 = i
  · rw [e]; exact h0 _ (by omega)
  · rw [hlow _ (by omega), Nat.xor_self]; exact Nat.zero_testBit _
theorem isF_none (a b : ByteArray) (n : Nat) (h : ∀ j, j < n → by_ a j = by_ b j) : isF (df a b) (8 * n) (8 * n) := by
  refine ⟨fun j hj => ?_, .inl rfl⟩
  unfold df bt
  rw [h _ (by omega)]
  simp
end Go.Proofs.YtpmmilnoeoapoaaDoor.Ba
