/-
  Streams: plain words on their bytes.
-/
import Derived.Test.YtojgigoknjenoaaDoorDi
import Derived.Test.YtojgigoknjenoaaDoorHr
namespace Go.Proofs.YtojgigoknjenoaaDoor.Hi
open Go Go.RowKit Go.Proofs.YtojgigoknjenoaaDoor.Hh

/-- '/' -/
def slash : ByteArray := ⟨#[47]⟩
/-- a part's text -/
def ptT (s : ByteArray) (k : Nat) : List UInt8 := s.data.toList ++ (slash.data.toList ++ (dec k).data.toList)
/-- part number k of a key's stream -/
def pt (s : ByteArray) (k : Nat) : ByteArray := Dg.sum (ptT s k)
theorem pt_size (s : ByteArray) (k : Nat) : (pt s k).size = 32 := Dg.sum_size _
theorem pt_len (s : ByteArray) (k : Nat) : (pt s k).data.toList.length = 32 := by rw [len_data, pt_size]
/-- byte j of the stream -/
def sby (s : ByteArray) (j : Nat) : UInt8 := (pt s (j / 32)).data.toList.getD (j % 32) 0
/-- the bytes from a on -/
def seg (s : ByteArray) (a c : Nat) : List UInt8 := (List.range c).map fun i => sby s (a + i)
theorem seg_len (s : ByteArray) (a c : Nat) : (seg s a c).length = c := by simp [seg]
theorem seg_at (s : ByteArray) (a c i : Nat) (h : i < c) : (seg s a c)[i]? = some (sby s (a + i)) := by simp [seg, h]
theorem seg_add (s : ByteArray) (a c d : Nat) : seg s a (c + d) = seg s a c ++ seg s (a + c) d := by
  apply List.ext_getElem?
  intro i
  by_cases h : i < c
  · rw [seg_at _ _ _ _ (by omega), List.getElem?_append_left (by rw [seg_len]; exact h), seg_at _ _ _ _ h]
  · rw [List.getElem?_append_right (by rw [seg_len]; omega), seg_len]
    by_cases h2 : i < c + d
    · rw [seg_at _ _ _ _ h2, seg_at _ _ _ _ (by omega), show a + c + (i - c) = a + i by omega]
    · rw [List.getElem?_eq_none (by rw [seg_len]; omega), List.getElem?_eq_none (by rw [seg_len]; omega)]
theorem seg_part (s : ByteArray) (k : Nat) : seg s (32 * k) 32 = (pt s k).data.toList := by
  apply List.ext_getElem?
  intro i
  by_cases h : i < 32
  · rw [seg_at _ _ _ _ h]
    unfold sby
    rw [show (32 * k + i) / 32 = k by omega, show (32 * k + i) % 32 = i by omega, List.getD, List.getElem?_eq_getElem (by rw [pt_len]; exact h)]
    rfl
  · rw [List.getElem?_eq_none (by rw [seg_len]; omega), List.getElem?_eq_none (by rw [pt_len]; omega)]
theorem seg_take (s : ByteArray) (a c d : Nat) (h : d ≤ c) : (seg s a c).take d = seg s a d := by
  rw [show c = d + (c - d) by omega, seg_add, List.take_append_of_le_length (by rw [seg_len]; exact Nat.le_refl _), List.take_of_length_le (by rw [seg_len]; exact Nat.le_refl _)]
theorem seg_drop (s : ByteArray) (a c d : Nat) (h : d ≤ c) : (seg s a c).drop d = seg s (a + d) (c - d) := by
  have e : seg s a c = seg s a d ++ seg s (a + d) (c - d) := by rw [← seg_add, show d + (c - d) = c by omega]
  rw [e, List.drop_append_of_le_length (by rw [seg_len]; exact Nat.le_refl _), List.drop_of_length_le (by rw [seg_len]; exact Nat.le_refl _), List.nil_append]
def sgB (s : ByteArray) (a c : Nat) : ByteArray := ⟨(seg s a c).toArray⟩
theorem sgB_data (s : ByteArray) (a c : Nat) : (sgB s a c).data.toList = seg s a c := rfl
theorem sgB_size (s : ByteArray) (a c : Nat) : (sgB s a c).size = c := by rw [← len_data, sgB_data, seg_len]
theorem ba_ext {a b : ByteArray} (h : a.data.toList = b.data.toList) : a = b := ByteArray.ext (Array.toList_inj.1 h)
theorem sgB_add (s : ByteArray) (a c d : Nat) : sgB s a c ++ sgB s (a + c) d = sgB s a (c + d) := by
  apply ba_ext
  rw [ByteArray.data_append, Array.toList_append, sgB_data, sgB_data, sgB_data, seg_add]
theorem sgB_part (s : ByteArray) (k : Nat) : pt s k = sgB s (32 * k) 32 := by
  apply ba_ext
  rw [sgB_data, seg_part]
theorem sgB_ext (s : ByteArray) (a c i j : Nat) (h1 : i ≤ j) (h2 : j ≤ c) : (sgB s a c).extract i j = sgB s (a + i) (j - i) := by
  apply ba_ext
  rw [ByteArray.data_extract, Array.toList_extract, sgB_data, sgB_data]
  rw [List.extract_eq_take_drop]
  rw [seg_drop _ _ _ _ (by omega), seg_take _ _ _ _ (by omega)]
end Go.Proofs.YtojgigoknjenoaaDoor.Hi
