/-
  node: an identifier out of bits; the specification's Distance, Common, Nearer.
-/
import Derived.Test.YtaoanggiibgcdaaDoorNj
import Derived.Test.YtaoanggiibgcdaaDoorNi
import Derived.RegionTactic
import Derived.BigRegion
import Derived.Laws.Rows
namespace Go.Proofs.YtaoanggiibgcdaaDoor.Nj
open Go Go.RowKit Go.Proofs.YtaoanggiibgcdaaDoor.Hz Go.Proofs.YtaoanggiibgcdaaDoor.Na Go.Proofs.YtaoanggiibgcdaaDoor.Nb Go.Proofs.YtaoanggiibgcdaaDoor.Nf
open Go.Proofs.YtaoanggiibgcdaaDoor.Ng (and8)
open Go.Proofs.YtaoanggiibgcdaaDoor.Nh (two_lt)

theorem or8 (a b : Nat) (ha : a < 256) (hb : b < 256) : Go.bits .or .u8 (a : Int) (b : Int) = ((a ||| b : Nat) : Int) := by
  have h1 : (BitVec.ofInt 8 (a : Int)).toNat = a := by rw [BitVec.ofInt_natCast, BitVec.toNat_ofNat]; exact Nat.mod_eq_of_lt ha
  have h2 : (BitVec.ofInt 8 (b : Int)).toNat = b := by rw [BitVec.ofInt_natCast, BitVec.toNat_ofNat]; exact Nat.mod_eq_of_lt hb
  show IntKind.u8.wrap ((BitVec.ofInt 8 (a : Int) ||| BitVec.ofInt 8 (b : Int)).toNat : Int) = _
  rw [BitVec.toNat_or, h1, h2, IntKind.wrap_u8]
  have : a ||| b < 2 ^ 8 := Nat.or_lt_two_pow ha hb
  omega
/-- the bytes that bits are put into, so many of them put -/
def Fr (f : Nat → Bool) (k : Nat) (xs : List Int) : Prop := xs.length = 20 ∧ ∀ q, q < 20 → ∃ n : Nat, xs.getD q 0 = (n : Int) ∧ n < 256 ∧ ∀ b, b < 8 → n.testBit b = (decide (8 * q + (7 - b) < k) && f (8 * q + (7 - b)))
theorem Fr.zero (f : Nat → Bool) : Fr f 0 (List.replicate 20 0) := by
  refine ⟨by simp, fun q hq => ⟨0, ?_, by omega, fun b hb => by simp⟩⟩
  rw [List.getD, List.getElem?_replicate, if_pos hq]; rfl
theorem Fr.skip {f : Nat → Bool} {k : Nat} {xs : List Int} (h : Fr f k xs) (hf : f k = false) : Fr f (k + 1) xs := by
  refine ⟨h.1, fun q hq => ?_⟩
  obtain ⟨n, h1, h2, h3⟩ := h.2 q hq
  refine ⟨n, h1, h2, fun b hb => ?_⟩
  rw [h3 b hb]
  by_cases e : 8 * q + (7 - b) = k
  · rw [e, hf]; simp
  · congr 1
    rw [Bool.eq_iff_iff, decide_eq_true_iff, decide_eq_true_iff]
    omega
theorem Fr.set {f : Nat → Bool} {k n : Nat} {xs : List Int} (h : Fr f k xs) (hk : k < 160) (hf : f k = true) (hn : xs.getD (k / 8) 0 = (n : Int)) : Fr f (k + 1) (xs.set (k / 8) ((n ||| 2 ^ (7 - k % 8) : Nat) : Int)) := by
  refine ⟨by rw [List.length_set]; exact h.1, fun q hq => ?_⟩
  obtain ⟨m, h1, h2, h3⟩ := h.2 q hq
  by_cases e : q = k / 8
  · subst e
    obtain rfl : m = n := by rw [hn] at h1; omega
    refine ⟨m ||| 2 ^ (7 - k % 8), ?_, Nat.or_lt_two_pow (n := 8) h2 (two_lt _), fun b hb => ?_⟩
    · rw [List.getD, List.getElem?_set_self (by rw [h.1]; omega)]; rfl
    · rw [Nat.testBit_or, h3 b hb, Nat.testBit_two_pow]
      by_cases e2 : 7 - k % 8 = b
      · have e3 : 8 * (k / 8) + (7 - b) = k := by omega
        rw [e3, hf]
        simp [e2]
      · rw [decide_eq_false e2, Bool.or_false]
        congr 1
        rw [Bool.eq_iff_iff, decide_eq_true_iff, decide_eq_true_iff]
        omega
  · refine ⟨m, ?_, h2, fun b hb => ?_⟩
    · rw [List.getD, List.getElem?_set_ne (fun h => e h.symm), ← List.getD]; exact h1
    · rw [h3 b hb]
      congr 1
      rw [Bool.eq_iff_iff, decide_eq_true_iff, decide_eq_true_iff]
      omega
theorem Fr.done {f : Nat → Bool} {xs : List Int} (h : Fr f 160 xs) (D : ByteArray) (hD : D.size = 20) (hb : ∀ i, i < 160 → bt D i = f i) : strOfNums xs = D := by
  refine bt_ext _ _ (by rw [strOfNums_size, h.1]) hD fun i hi => ?_
  rw [hb i hi]
  obtain ⟨n, h1, h2, h3⟩ := h.2 (i / 8) (by omega)
  unfold bt
  rw [by_str xs (i / 8) (by rw [h.1]; omega) n h2 h1, h3 _ (by omega)]
  have e : 8 * (i / 8) + (7 - (7 - i % 8)) = i := by omega
  rw [e, decide_eq_true hi, Bool.true_and]

/-- a row's cells, where it lies -/
theorem OT.row {w : World} {base : Nat} {v : Value} {l : List Bool} (h : OT w base v l) (h0 : 0 < l.length) : ∃ g cap, v = .slice (some ⟨g, 0, none⟩) l.length cap ∧ base ≤ g ∧ (∀ i, i < l.length → w.cell? ⟨g, i, none⟩ = some (.bool (l.getD i false))) ∧ (∀ i, w.frozen? ⟨g, i, none⟩ = false) := by
  obtain ⟨h1, ⟨rfl, h2⟩ | ⟨g, cap, cur, rfl, hb, hh, hn, hc, hz, ht⟩⟩ := h
  · omega
  · refine ⟨g, cap, rfl, hb, fun i hi => ?_, fun i => by simp [World.frozen?, hh]⟩
    rw [cell_of_row _ _ _ _ _ _ hh]
    have e : cur.toList[i]? = (bC l)[i]? := by rw [← ht, List.getElem?_take_of_lt (by rw [Nat.mul_one]; exact hi)]
    rw [← Array.getElem?_toList, e]
    simp [bC, List.getD, hi]
theorem bits_at (s : ByteArray) (i : Nat) (hi : i < 160) : (bits s 160).getD i false = bt s i := by
  simp [bits, List.getD, hi]
end Go.Proofs.YtaoanggiibgcdaaDoor.Nj
