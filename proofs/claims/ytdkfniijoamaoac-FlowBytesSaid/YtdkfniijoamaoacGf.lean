/-
  What is read and written again are the same bytes.
-/
import Derived.Test.YtdkfniijoamaoacGd
namespace Go.Proofs.Ytdkfniijoamaoac.Ga
open Go Go.RowKit Go.Proofs.Ytdkfniijoamaoac.Hz Go.Proofs.Ytdkfniijoamaoac.Ob

theorem pb2 (x : Int) : pb x 2 2 = [x / 256 % 256, x / 1 % 256] := rfl
theorem pb4 (x : Int) : pb x 4 4 = [x / 16777216 % 256, x / 65536 % 256, x / 256 % 256, x / 1 % 256] := rfl
theorem pb_rd2 (s : ByteArray) (p : Nat) : pb (rd s p 2 : Int) 2 2 = [(by_ s p : Int), (by_ s (p + 1) : Int)] := by
  have h0 := by_lt s p
  have h1 := by_lt s (p + 1)
  have e : (rd s p 2 : Int) = (by_ s p : Int) * 256 + by_ s (p + 1) := by simp [rd]
  rw [pb2, e]
  generalize by_ s p = a at *
  generalize by_ s (p + 1) = b at *
  rw [show ((a : Int) * 256 + b) / 256 % 256 = a by omega, show ((a : Int) * 256 + b) / 1 % 256 = b by omega]
theorem pb_rd4 (s : ByteArray) (p : Nat) : pb (rd s p 4 : Int) 4 4 = [(by_ s p : Int), (by_ s (p + 1) : Int), (by_ s (p + 2) : Int), (by_ s (p + 3) : Int)] := by
  have h0 := by_lt s p
  have h1 := by_lt s (p + 1)
  have h2 := by_lt s (p + 2)
  have h3 := by_lt s (p + 3)
  have e : (rd s p 4 : Int) = (((by_ s p : Int) * 256 + by_ s (p + 1)) * 256 + by_ s (p + 2)) * 256 + by_ s (p + 3) := by simp [rd]
  rw [pb4, e]
  generalize by_ s p = a at *
  generalize by_ s (p + 1) = b at *
  generalize by_ s (p + 2) = c at *
  generalize by_ s (p + 3) = d at *
  rw [show ((((a : Int) * 256 + b) * 256 + c) * 256 + d) / 16777216 % 256 = a by omega, show ((((a : Int) * 256 + b) * 256 + c) * 256 + d) / 65536 % 256 = b by omega, show ((((a : Int) * 256 + b) * 256 + c) * 256 + d) / 256 % 256 = c by omega, show ((((a : Int) * 256 + b) * 256 + c) * 256 + d) / 1 % 256 = d by omega]

/-- the packet that bytes are read as -/
def pk (s : ByteArray) (m : Nat) : Seg := ⟨by_ s 4, rd s 6 2, rd s 8 2, rd s 10 2, rd s 20 4, s.extract 24 (24 + m), s.extract (24 + m) s.size, rd s 12 4, rd s 16 4⟩
theorem nums_take (s : ByteArray) (p n : Nat) (h : p + n ≤ s.size) : strOfNums ((List.range n).map fun q => (by_ s (p + q) : Int)) = s.extract p (p + n) := by
  have hl : (s.data.toList).length = s.size := len_data s
  have e : (strOfNums ((List.range n).map fun q => (by_ s (p + q) : Int))).data.toList = (s.extract p (p + n)).data.toList := by
    rw [strOfNums_data, ByteArray.data_extract, Array.toList_extract, List.extract_eq_take_drop]
    apply List.ext_getElem
    · simp; omega
    · intro i h1 h2
      simp only [List.length_map, List.length_range] at h1
      have hpi : p + i < s.size := by omega
      simp [by_, List.getD]
      rw [Array.getElem?_eq_getElem hpi]
      rfl
  exact ByteArray.ext (Array.ext' e)
theorem head_pk (s : ByteArray) (m : Nat) (hs : 24 + m ≤ s.size) (hm : by_ s 5 = m) : strOfNums (pk s m).head = s.extract 4 24 := by
  have hz : (s.extract 24 (24 + m)).size = m := by rw [ByteArray.size_extract]; omega
  have hk := by_lt s 4
  have := nums_take s 4 20 (by omega)
  rw [show (4 + 20 : Nat) = 24 from rfl] at this
  rw [← this]
  refine congrArg strOfNums ?_
  unfold Seg.head pk
  simp only [pb_rd2, pb_rd4]
  rw [hz, show ((by_ s 4 : Int) % 256) = by_ s 4 by omega, ← hm]
  rfl
theorem rest_pk (s : ByteArray) (m : Nat) (hs : 24 + m ≤ s.size) (hm : by_ s 5 = m) : (pk s m).rest = s.extract 4 s.size := by
  unfold Seg.rest
  rw [head_pk s m hs hm]
  show s.extract 4 24 ++ s.extract 24 (24 + m) ++ s.extract (24 + m) s.size = _
  apply ByteArray.ext
  simp only [ByteArray.data_append, ByteArray.data_extract]
  rw [Array.extract_append_extract, Nat.min_eq_left (by omega), Nat.max_eq_right (by omega), Array.extract_append_extract, Nat.min_eq_left (by omega), Nat.max_eq_right (by omega)]
theorem enc_pk (s : ByteArray) (m : Nat) (hs : 24 + m ≤ s.size) (hm : by_ s 5 = m) (hd : (Dg.sum (s.extract 4 s.size).data.toList).extract 0 4 = s.extract 0 4) : (pk s m).enc = s := by
  unfold Seg.enc
  rw [rest_pk s m hs hm, hd]
  apply ByteArray.ext
  simp only [ByteArray.data_append, ByteArray.data_extract]
  rw [Array.extract_append_extract, Nat.min_eq_left (by omega), Nat.max_eq_right (by omega)]
  exact Array.extract_size
end Go.Proofs.Ytdkfniijoamaoac.Ga
