/-
  A byte of a text is changed: small lemmas.
-/
import Derived.Test.YtdkfniijoamaoacGp
import Derived.Test.YtdkfniijoamaoacHg
namespace Go.Proofs.Ytdkfniijoamaoac.Ga
open Go Go.RowKit Go.Proofs.Ytdkfniijoamaoac.Hz Go.Proofs.Ytdkfniijoamaoac.Ob

theorem xor8 (a b : Nat) (ha : a < 256) (hb : b < 256) : bits .xor .u8 (a : Int) (b : Int) = ((a ^^^ b : Nat) : Int) := by
  have h1 : (BitVec.ofInt 8 (a : Int)).toNat = a := by rw [BitVec.ofInt_natCast, BitVec.toNat_ofNat]; exact Nat.mod_eq_of_lt ha
  have h2 : (BitVec.ofInt 8 (b : Int)).toNat = b := by rw [BitVec.ofInt_natCast, BitVec.toNat_ofNat]; exact Nat.mod_eq_of_lt hb
  show IntKind.u8.wrap ((BitVec.ofInt 8 (a : Int) ^^^ BitVec.ofInt 8 (b : Int)).toNat : Int) = _
  rw [BitVec.toNat_xor, h1, h2, IntKind.wrap_u8]
  have : a ^^^ b < 2 ^ 8 := Nat.xor_lt_two_pow ha hb
  omega
theorem pow_t (t : Nat) (h : t < 8) : 2 ^ t < 256 := by
  have : 2 ^ t ≤ 2 ^ 7 := Nat.pow_le_pow_right (by omega) (by omega)
  omega
theorem xor_shl (x t : Nat) (hx : x < 256) (ht : t < 8) : ∃ y : Nat, y < 256 ∧ bits .xor .u8 (x : Int) ((2 : Int) ^ t % 256) = (y : Int) := by
  refine ⟨x ^^^ 2 ^ t, Nat.xor_lt_two_pow (n := 8) hx (pow_t t ht), ?_⟩
  have e : (2 : Int) ^ t % 256 = ((2 ^ t : Nat) : Int) := by
    rw [show ((2 : Int) ^ t) = ((2 ^ t : Nat) : Int) by rw [Int.natCast_pow]; rfl]
    exact (show ∀ p : Nat, p < 256 → (p : Int) % 256 = (p : Int) from fun p hp => by omega) _ (pow_t t ht)
  rw [e, xor8 _ _ hx (pow_t t ht)]
/-- a place out of any number, as the law reckons it -/
theorem place (a : Int) (L : Nat) (h : 0 < L) (hL : L ≤ 100000) : ∃ (u : Int) (q : Nat), a.tmod (L : Int) = u ∧ -(L : Int) < u ∧ u < (L : Int) ∧ (u + (L : Int)).tmod (L : Int) = (q : Int) ∧ q < L := by
  have h1 := Int.tmod_lt_of_pos a (show (0 : Int) < (L : Int) by omega)
  have h2 : -(L : Int) < a.tmod (L : Int) := by
    have h3 := Int.tmod_lt_of_pos (-a) (show (0 : Int) < (L : Int) by omega)
    rw [Int.neg_tmod] at h3
    omega
  refine ⟨_, ((a.tmod (L : Int) + (L : Int)) % (L : Int)).toNat, rfl, h2, h1, ?_, ?_⟩
  · rw [Int.tmod_eq_emod_of_nonneg (by omega)]
    have := Int.emod_nonneg (a.tmod (L : Int) + (L : Int)) (show (L : Int) ≠ 0 by omega)
    omega
  · have := Int.emod_lt_of_pos (a.tmod (L : Int) + (L : Int)) (show (0 : Int) < (L : Int) by omega)
    have := Int.emod_nonneg (a.tmod (L : Int) + (L : Int)) (show (L : Int) ≠ 0 by omega)
    omega
theorem by_put (d : ByteArray) (k y i : Nat) (hk : k < d.size) (hy : y < 256) (hi : i < d.size) : by_ (Hh.put d k (y : Int)) i = if i = k then y else by_ d i := by
  have hl : (d.data.toList.map fun x => (x.toNat : Int)).length = d.size := by rw [List.length_map, len_data']
  have key : ((d.data.toList.map fun x => (x.toNat : Int)).set k (y : Int)).getD i 0 = ((if i = k then y else by_ d i : Nat) : Int) := by
    by_cases e : i = k
    · rw [if_pos e, e, List.getD, List.getElem?_set_self (by rw [hl]; exact hk)]; rfl
    · rw [if_neg e, List.getD, List.getElem?_set_ne (fun h => e h.symm), List.getElem?_map, List.getElem?_eq_getElem (by rw [len_data']; exact hi)]
      unfold by_
      rw [List.getD, List.getElem?_eq_getElem (by rw [len_data']; exact hi)]
      rfl
  have hlt : (if i = k then y else by_ d i) < 256 := by split; exact hy; exact by_lt _ _
  have := by_nums ((d.data.toList.map fun x => (x.toNat : Int)).set k (y : Int)) i (by rw [key]; omega) (by rw [key]; omega)
  rw [key] at this
  unfold Hh.put
  omega
/-- the cells of a block that reads as a text -/
def Tx (w : World) (g : Nat) (d : ByteArray) : Prop := ∀ i, i < d.size → w.cell? ⟨g, i, none⟩ = some (.int .u8 (by_ d i : Int))
theorem Tx.put {w : World} {g : Nat} {d : ByteArray} (h : Tx w g d) (k y : Nat) (hk : k < d.size) (hy : y < 256) : Tx (w.setCell ⟨g, k, none⟩ (.int .u8 (y : Int))) g (Hh.put d k (y : Int)) := by
  intro i hi
  rw [Hh.put_size] at hi
  rw [by_put d k y i hk hy hi]
  by_cases e : i = k
  · subst e
    rw [World.cell?_setCell_same _ _ _ (h i hi), if_pos rfl]
  · have hne : (⟨g, k, none⟩ : Addr) ≠ ⟨g, i, none⟩ := fun q => e (by injection q with _ q2; exact q2.symm)
    rw [World.cell?_setCell_other (w := w) (v := .int .u8 (y : Int)) (h := hne), h i hi, if_neg e]
theorem Tx.drewN {w : World} {g : Nat} {d : ByteArray} (h : Tx w g d) (n : Nat) : Tx (w.drewN n) g d := h
theorem Tx.below {w w' : World} {g : Nat} {d : ByteArray} (h : Tx w g d) (h0 : 0 < d.size) (hb : Below w.heap.size w w') : Tx w' g d := fun i hi =>
  (hb.cell (p := ⟨g, i, none⟩) (show g < w.heap.size from World.block_lt_of_cell? w _ (h 0 h0))).trans (h i hi)
theorem Tx.conv {w : World} {g : Nat} {d : ByteArray} (h : Tx w g d) (off len cap : Nat) (hl : off + len ≤ d.size) :
    (convert 33 9 (.slice (some ⟨g, off, none⟩) len cap)).run Try.prog w = .ok (.string (d.extract off (off + len))) w := by
  rw [← nums_take d off len hl]
  refine run_convert_bytes_arg (P := Try.prog) _ 33 5 Try.underlying33 Try.underlying5 g off len cap _ (by simp) (fun i hi => ?_) 9 Try.underlying9
  rw [h (off + i) (by omega)]
  simp [List.getD, hi]
theorem whole (d : ByteArray) : d.extract 0 (0 + d.size) = d := by
  apply ByteArray.ext
  rw [ByteArray.data_extract, Nat.zero_add]
  exact Array.extract_size
end Go.Proofs.Ytdkfniijoamaoac.Ga
