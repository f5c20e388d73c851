/-
  What is written is read back.
-/
import Derived.Test.YtdkfniijoamaoacGk
import Derived.Test.YtdkfniijoamaoacGe
namespace Go.Proofs.Ytdkfniijoamaoac.Ga
open Go Go.RowKit Go.Proofs.Ytdkfniijoamaoac.Hz Go.Proofs.Ytdkfniijoamaoac.Ob

theorem len_data' (d : ByteArray) : d.data.toList.length = d.size := by simp
theorem by_app (A B : ByteArray) (k : Nat) : by_ (A ++ B) k = if k < A.size then by_ A k else by_ B (k - A.size) := by
  unfold by_
  rw [ByteArray.data_append, Array.toList_append, List.getD, List.getD, List.getD]
  by_cases h : k < A.size
  · rw [if_pos h, List.getElem?_append_left (by rw [len_data']; exact h)]
  · rw [if_neg h, List.getElem?_append_right (by rw [len_data']; omega), len_data']
theorem by_nums (l : List Int) (k : Nat) (h0 : 0 ≤ l.getD k 0) (h1 : l.getD k 0 < 256) : (by_ (strOfNums l) k : Int) = l.getD k 0 := by
  unfold by_
  rw [strOfNums_data, List.getD, List.getElem?_map]
  rw [List.getD] at h0 h1 ⊢
  cases e : l[k]? with
  | none => simp
  | some x =>
    rw [e] at h0 h1
    simp only [Option.getD_some] at h0 h1
    simp
    omega

theorem Seg.head_len (p : Seg) : p.head.length = 20 := by unfold Seg.head; simp [pb_len]
theorem Seg.rest_size (p : Seg) : p.rest.size = 20 + p.marks.size + p.body.size := by
  unfold Seg.rest
  rw [ByteArray.size_append, ByteArray.size_append, strOfNums_size, Seg.head_len]
theorem Seg.sum4 (p : Seg) : ((Dg.sum p.rest.data.toList).extract 0 4).size = 4 := by
  rw [ByteArray.size_extract, Dg.sum_size]; rfl
theorem Seg.enc_size (p : Seg) : p.enc.size = 24 + p.marks.size + p.body.size := by
  unfold Seg.enc
  rw [ByteArray.size_append, Seg.sum4, Seg.rest_size]; omega
theorem Seg.by_enc (p : Seg) (k : Nat) (h1 : 4 ≤ k) (h2 : k < 24) : by_ p.enc k = by_ (strOfNums p.head) (k - 4) := by
  unfold Seg.enc
  rw [by_app, if_neg (by rw [Seg.sum4]; omega), Seg.sum4]
  unfold Seg.rest
  rw [by_app, if_pos (by rw [ByteArray.size_append, strOfNums_size, Seg.head_len]; omega), by_app, if_pos (by rw [strOfNums_size, Seg.head_len]; omega)]
theorem Seg.head_eq (p : Seg) : p.head = [p.kind % 256, (p.marks.size : Int), p.conn / 256 % 256, p.conn / 1 % 256, p.seq / 256 % 256, p.seq / 1 % 256, p.ack / 256 % 256, p.ack / 1 % 256,
    p.time / 16777216 % 256, p.time / 65536 % 256, p.time / 256 % 256, p.time / 1 % 256, p.late / 16777216 % 256, p.late / 65536 % 256, p.late / 256 % 256, p.late / 1 % 256, p.win / 16777216 % 256, p.win / 65536 % 256, p.win / 256 % 256, p.win / 1 % 256] := by
  unfold Seg.head
  simp only [pb2, pb4]
  rfl
theorem Seg.by_at (p : Seg) (h : p.ok) (k : Nat) (h1 : 4 ≤ k) (h2 : k < 24) : (by_ p.enc k : Int) = p.head.getD (k - 4) 0 := by
  rw [Seg.by_enc p k h1 h2]
  have hm := h.m
  obtain ⟨i, rfl⟩ : ∃ i, k = i + 4 := ⟨k - 4, by omega⟩
  rw [Nat.add_sub_cancel]
  have key : 0 ≤ p.head.getD i 0 ∧ p.head.getD i 0 < 256 := by
    rw [Seg.head_eq]
    obtain rfl | rfl | rfl | rfl | rfl | rfl | rfl | rfl | rfl | rfl | rfl | rfl | rfl | rfl | rfl | rfl | rfl | rfl | rfl | rfl : i = 0 ∨ i = 1 ∨ i = 2 ∨ i = 3 ∨ i = 4 ∨ i = 5 ∨ i = 6 ∨ i = 7 ∨ i = 8 ∨ i = 9 ∨ i = 10 ∨ i = 11 ∨ i = 12 ∨ i = 13 ∨ i = 14 ∨ i = 15 ∨ i = 16 ∨ i = 17 ∨ i = 18 ∨ i = 19 := by omega
    all_goals simp only [List.getD_cons_zero, List.getD_cons_succ]
    all_goals omega
  exact by_nums _ _ key.1 key.2

theorem Seg.enc_parts (p : Seg) : p.enc = ((Dg.sum p.rest.data.toList).extract 0 4 ++ strOfNums p.head) ++ p.marks ++ p.body := by
  unfold Seg.enc
  conv => lhs; arg 2; unfold Seg.rest
  apply ByteArray.ext
  simp only [ByteArray.data_append, Array.append_assoc]
theorem mid_of (P M B : ByteArray) (n m : Nat) (hP : P.size = n) (hM : M.size = m) : (P ++ M ++ B).extract n (n + m) = M := by
  subst hP hM
  apply ByteArray.ext
  apply Array.ext'
  rw [ByteArray.data_extract, Array.toList_extract, List.extract_eq_take_drop, ByteArray.data_append, ByteArray.data_append, Array.toList_append, Array.toList_append, List.append_assoc]
  have hl : P.data.toList.length = P.size := len_data' P
  have hl2 : M.data.toList.length = M.size := len_data' M
  rw [← hl, List.drop_left, show P.data.toList.length + M.size - P.data.toList.length = M.data.toList.length by omega, List.take_left]
theorem end_of (P M B : ByteArray) (n m : Nat) (hP : P.size = n) (hM : M.size = m) : (P ++ M ++ B).extract (n + m) (P ++ M ++ B).size = B := by
  subst hP hM
  apply ByteArray.ext
  apply Array.ext'
  have hl : P.data.toList.length = P.size := len_data' P
  have hl2 : M.data.toList.length = M.size := len_data' M
  have hl3 : B.data.toList.length = B.size := len_data' B
  rw [ByteArray.data_extract, Array.toList_extract, List.extract_eq_take_drop, ByteArray.size_append, ByteArray.size_append, ByteArray.data_append, ByteArray.data_append, Array.toList_append, Array.toList_append]
  rw [List.drop_append_of_le_length (by rw [List.length_append]; omega), List.drop_of_length_le (by rw [List.length_append]; omega), List.nil_append, show P.size + M.size + B.size - (P.size + M.size) = B.data.toList.length by omega, List.take_length]

theorem enc_read (p : Seg) (h : p.ok) : pk p.enc p.marks.size = p ∧ Good p.enc := by
  have hb := fun k h1 h2 => Seg.by_at p h k h1 h2
  have b4 := hb 4 (by omega) (by omega)
  have b5 := hb 5 (by omega) (by omega)
  have b6 := hb 6 (by omega) (by omega)
  have b7 := hb 7 (by omega) (by omega)
  have b8 := hb 8 (by omega) (by omega)
  have b9 := hb 9 (by omega) (by omega)
  have b10 := hb 10 (by omega) (by omega)
  have b11 := hb 11 (by omega) (by omega)
  have b12 := hb 12 (by omega) (by omega)
  have b13 := hb 13 (by omega) (by omega)
  have b14 := hb 14 (by omega) (by omega)
  have b15 := hb 15 (by omega) (by omega)
  have b16 := hb 16 (by omega) (by omega)
  have b17 := hb 17 (by omega) (by omega)
  have b18 := hb 18 (by omega) (by omega)
  have b19 := hb 19 (by omega) (by omega)
  have b20 := hb 20 (by omega) (by omega)
  have b21 := hb 21 (by omega) (by omega)
  have b22 := hb 22 (by omega) (by omega)
  have b23 := hb 23 (by omega) (by omega)
  rw [Seg.head_eq] at b4 b5 b6 b7 b8 b9 b10 b11 b12 b13 b14 b15 b16 b17 b18 b19 b20 b21 b22 b23
  simp only [Nat.reduceSub, List.getD_cons_zero, List.getD_cons_succ] at b4 b5 b6 b7 b8 b9 b10 b11 b12 b13 b14 b15 b16 b17 b18 b19 b20 b21 b22 b23
  have hz := Seg.enc_size p
  have hP : ((Dg.sum p.rest.data.toList).extract 0 4 ++ strOfNums p.head).size = 24 := by rw [ByteArray.size_append, Seg.sum4, strOfNums_size, Seg.head_len]
  have e1 : p.enc.extract 24 (24 + p.marks.size) = p.marks := by rw [Seg.enc_parts]; exact mid_of _ _ _ 24 _ hP rfl
  have e2 : p.enc.extract (24 + p.marks.size) p.enc.size = p.body := by rw [Seg.enc_parts]; exact end_of _ _ _ 24 _ hP rfl
  have hok := h
  obtain ⟨k1, k2, c1, c2, s1, s2, a1, a2, w1, w2, t1, t2, l1, l2, m, b, bk⟩ := h
  have r6 : (rd p.enc 6 2 : Int) = p.conn := by simp only [rd, Nat.reduceAdd, Nat.add_zero]; omega
  have r8 : (rd p.enc 8 2 : Int) = p.seq := by simp only [rd, Nat.reduceAdd, Nat.add_zero]; omega
  have r10 : (rd p.enc 10 2 : Int) = p.ack := by simp only [rd, Nat.reduceAdd, Nat.add_zero]; omega
  have r12 : (rd p.enc 12 4 : Int) = p.time := by simp only [rd, Nat.reduceAdd, Nat.add_zero]; omega
  have r16 : (rd p.enc 16 4 : Int) = p.late := by simp only [rd, Nat.reduceAdd, Nat.add_zero]; omega
  have r20 : (rd p.enc 20 4 : Int) = p.win := by simp only [rd, Nat.reduceAdd, Nat.add_zero]; omega
  have r4 : (by_ p.enc 4 : Int) = p.kind := by omega
  constructor
  · unfold pk
    rw [r4, r6, r8, r10, r12, r16, r20, e1, e2]
  · have hbe : p.body.toList.isEmpty = true ↔ p.body.size = 0 := by
      rw [List.isEmpty_iff, ByteArray.toList_eq]
      constructor
      · intro q
        have := len_data' p.body
        rw [q] at this
        simpa using this.symm
      · intro q
        apply List.eq_nil_of_length_eq_zero
        rw [len_data', q]
    have hk2 : p.kind = 2 ↔ p.body.size ≠ 0 := by
      rw [Ne, ← hbe]
      cases e : p.body.toList.isEmpty <;> rw [e] at bk <;> simp at bk <;> simp [bk]
    have hs5 : by_ p.enc 5 = p.marks.size := by omega
    refine ⟨by omega, by omega, by omega, by omega, by omega, by omega, fun q => ?_, fun q => ?_, ?_⟩
    · have := hk2.2 (by omega); omega
    · have := hk2.1 (by omega); omega
    · unfold dgOk
      have e3 : p.enc.extract 4 p.enc.size = p.rest := by
        have := end_of ((Dg.sum p.rest.data.toList).extract 0 4) ⟨#[]⟩ p.rest 4 0 (Seg.sum4 p) rfl
        have q : (Dg.sum p.rest.data.toList).extract 0 4 ++ ⟨#[]⟩ ++ p.rest = p.enc := by
          unfold Seg.enc
          apply ByteArray.ext
          simp
        rw [q] at this
        exact this
      have e4 : p.enc.extract 0 4 = (Dg.sum p.rest.data.toList).extract 0 4 := by
        have := mid_of ⟨#[]⟩ ((Dg.sum p.rest.data.toList).extract 0 4) p.rest 0 4 rfl (Seg.sum4 p)
        have q : ⟨#[]⟩ ++ (Dg.sum p.rest.data.toList).extract 0 4 ++ p.rest = p.enc := by
          unfold Seg.enc
          apply ByteArray.ext
          simp
        rw [q] at this
        exact this
      rw [e3, e4]

theorem Decode_enc (p : Seg) (h : p.ok) (w : World) : Calls Try.prog 12 #[.string p.enc] w fun e w' => e = .returned (.tuple #[.agg p.cells, .int .i64 0, .int .i64 0]) ∧ Below w.heap.size w w' := by
  obtain ⟨h1, h2⟩ := enc_read p h
  have hm := h.m
  have hb := h.b
  have hz := Seg.enc_size p
  refine (Decode_any p.enc w (by omega)).mono ?_
  rintro e w' ⟨⟨a, _, _, _, _, hG⟩ | ⟨m, rfl, _, _, hm5, _⟩, hbl⟩
  · exact absurd h2 hG
  · have : m = p.marks.size := by
      have b5 := Seg.by_at p h 5 (by omega) (by omega)
      rw [Seg.head_eq] at b5
      simp only [Nat.reduceSub, List.getD_cons_zero, List.getD_cons_succ] at b5
      omega
    rw [this, h1]
    exact ⟨rfl, hbl⟩
/-- bytes with a wrong digest are not read -/
theorem Decode_bad (s : ByteArray) (w : World) (hz : s.size ≤ 50000) (hd : ¬ dgOk s) : Calls Try.prog 12 #[.string s] w fun e w' => ∃ a : Int, e = .returned (.tuple #[.agg zseg, .int .i64 a, .int .i64 12]) ∧ Below w.heap.size w w' := by
  refine (Decode_any s w hz).mono ?_
  rintro e w' ⟨⟨a, rfl, _⟩ | ⟨m, _, _, _, _, hd2⟩, hbl⟩
  · exact ⟨a, rfl, hbl⟩
  · exact absurd hd2 hd
end Go.Proofs.Ytdkfniijoamaoac.Ga
