/-
  Texts of bits: what a text's pieces are.
-/
import Derived.Test.YtbeaohnjifcgaaaDoorDd
namespace Go.Proofs.YtbeaohnjifcgaaaDoor.Db
open Go Go.RowKit Go.Shelf Go.Proofs.YtbeaohnjifcgaaaDoor.Sx Go.Proofs.YtbeaohnjifcgaaaDoor.Na Go.Proofs.YtbeaohnjifcgaaaDoor.Ba Go.Proofs.YtbeaohnjifcgaaaDoor.Bh Go.Proofs.YtbeaohnjifcgaaaDoor.Da

theorem by_app (A B : ByteArray) (k : Nat) : by_ (A ++ B) k = if k < A.size then by_ A k else by_ B (k - A.size) := by
  unfold by_
  rw [ByteArray.data_append, Array.toList_append, List.getD, List.getD, List.getD]
  by_cases h : k < A.size
  · rw [if_pos h, List.getElem?_append_left (by rw [len_data]; exact h)]
  · rw [if_neg h, List.getElem?_append_right (by rw [len_data]; omega), len_data]
theorem nv_congr (s t : ByteArray) (k : Nat) (h : ∀ j, j < k → by_ s j = by_ t j) : nv s k = nv t k := by
  induction k with
  | zero => rfl
  | succ k ih => rw [nv, nv, h k (by omega), ih (fun j hj => h j (by omega))]
theorem one_size (v : Int) : (strOfNums [v]).size = 1 := by rw [strOfNums_size]; rfl
theorem one_by (v : Nat) (h : v < 256) : by_ (strOfNums [(v : Int)]) 0 = v := by
  unfold by_
  rw [strOfNums_data]
  simp [List.getD]
  omega
/-- what holds of a written number -/
theorem dec_all : ∀ k : Nat, 0 < (Hh.dec k).size ∧ dgs (Hh.dec k) (Hh.dec k).size ∧ nv (Hh.dec k) (Hh.dec k).size = k ∧ ((Hh.dec k).size = 1 ∨ by_ (Hh.dec k) 0 ≠ 48) ∧ (0 < k → by_ (Hh.dec k) 0 ≠ 48) := by
  intro k
  induction k using Nat.strongRecOn with
  | ind k ih =>
    by_cases h : k < 10
    · have hb : by_ (strOfNums [48 + (k : Int)]) 0 = 48 + k := by
        have := one_by (48 + k) (by omega)
        rwa [show ((48 + k : Nat) : Int) = 48 + (k : Int) by omega] at this
      rw [Hh.dec_small k h, one_size]
      refine ⟨by omega, fun j hj => ?_, ?_, .inl rfl, fun h0 => by rw [hb]; omega⟩
      · obtain rfl : j = 0 := by omega
        rw [hb]; omega
      · rw [nv, nv, hb]; omega
    · obtain ⟨i1, i2, i3, i4, i5⟩ := ih (k / 10) (by omega)
      have hb : by_ (strOfNums [48 + ((k % 10 : Nat) : Int)]) 0 = 48 + k % 10 := by
        have := one_by (48 + k % 10) (by omega)
        rwa [show ((48 + k % 10 : Nat) : Int) = 48 + ((k % 10 : Nat) : Int) by omega] at this
      rw [Hh.dec_big k h, ByteArray.size_append, one_size]
      generalize Hh.dec (k / 10) = A at *
      generalize strOfNums [48 + ((k % 10 : Nat) : Int)] = B at *
      have h0 : by_ (A ++ B) 0 ≠ 48 := by rw [by_app, if_pos i1]; exact i5 (by omega)
      refine ⟨by omega, fun j hj => ?_, ?_, .inr h0, fun _ => h0⟩
      · rw [by_app]
        split
        · exact i2 j (by assumption)
        · obtain rfl : j = A.size := by omega
          rw [Nat.sub_self, hb]; omega
      · rw [nv, nv_congr (A ++ B) A A.size (fun j hj => by rw [by_app, if_pos hj]), i3, by_app, if_neg (by omega), Nat.sub_self, hb]
        omega
theorem dec_canon (k : Nat) (h : k ≤ 4096) : canon (Hh.dec k) ∧ nv (Hh.dec k) (Hh.dec k).size = k := by
  obtain ⟨h1, h2, h3, h4, _⟩ := dec_all k
  exact ⟨⟨h1, h2, h4, by rw [h3]; exact h⟩, h3⟩
theorem dec_okN (k : Nat) (h : k < 10000) : okN (Hh.dec k) := by
  obtain ⟨h1, h2, h3, h4, _⟩ := dec_all k
  refine ⟨h1, ?_, h2⟩
  rcases h4 with h4 | h4
  · omega
  · rcases Nat.lt_or_ge 4 (Hh.dec k).size with h5 | h5
    · exfalso
      have hm : ∀ j, 1 ≤ j → j ≤ (Hh.dec k).size → 10 ^ (j - 1) ≤ nv (Hh.dec k) j := by
        intro j
        induction j with
        | zero => intro h; omega
        | succ j ih =>
          intro _ hj
          rcases Nat.eq_zero_or_pos j with h0 | h0
          · subst h0
            rw [nv, nv]
            have := h2 0 h1
            simp; omega
          · have := ih h0 (by omega)
            rw [nv, show j + 1 - 1 = (j - 1) + 1 by omega, Nat.pow_succ]
            omega
      have := hm _ (by omega) (Nat.le_refl _)
      rw [h3] at this
      have h6 : 10 ^ 4 ≤ 10 ^ ((Hh.dec k).size - 1) := Nat.pow_le_pow_right (by omega) (by omega)
      omega
    · exact h5
theorem dec_not (k : Nat) (c : UInt8) (hc : c.toNat < 48) : c ∉ (Hh.dec k).data.toList := by
  intro hm
  obtain ⟨j, hj, e⟩ := List.getElem_of_mem hm
  have h2 := (dec_all k).2.1 j (by rwa [len_data] at hj)
  unfold by_ at h2
  rw [List.getD, List.getElem?_eq_getElem hj, e] at h2
  simp at h2
  omega
/-- a run as the text has it -/
def itm (p : Nat × Nat) : List UInt8 := (Hh.dec p.1).data.toList ++ (if 1 < p.2 then 45 :: (Hh.dec (p.1 + p.2 - 1)).data.toList else [])
theorem itm_not (p : Nat × Nat) : (44 : UInt8) ∉ itm p := by
  unfold itm
  intro h
  rcases List.mem_append.1 h with h | h
  · exact dec_not _ 44 (by decide) h
  · split at h
    · rcases List.mem_cons.1 h with h | h
      · exact absurd h (by decide)
      · exact dec_not _ 44 (by decide) h
    · cases h
theorem itm_cut (p : Nat × Nat) : cutL 45 (itm p) = if 1 < p.2 then [(Hh.dec p.1).data.toList, (Hh.dec (p.1 + p.2 - 1)).data.toList] else [(Hh.dec p.1).data.toList] := by
  unfold itm
  split
  · rw [cutL_hit 45 _ _ (dec_not _ 45 (by decide)), cutL_none 45 _ (dec_not _ 45 (by decide))]
  · rw [List.append_nil, cutL_none 45 _ (dec_not _ 45 (by decide))]
theorem joinL_snoc (c : UInt8) (l : List (List UInt8)) (p : List UInt8) : joinL c (l ++ [p]) = if l = [] then p else joinL c l ++ c :: p := by
  induction l with
  | nil => rfl
  | cons q r ih =>
    rw [if_neg (by simp)]
    cases r with
    | nil => rfl
    | cons q' r =>
      rw [List.cons_append, List.cons_append, joinL, ← List.cons_append, ih, if_neg (by simp), joinL, List.append_assoc]
      rfl
theorem txk_join (l : List (Nat × Nat)) (k : Nat) (hk : k ≤ l.length) : txk l k = joinL 44 ((l.take k).map itm) := by
  induction k with
  | zero => rfl
  | succ k ih =>
    rw [txk, ih (by omega), List.take_add_one, List.getElem?_eq_getElem (by omega), List.map_append]
    show _ = joinL 44 ((l.take k).map itm ++ [itm l[k]])
    rw [joinL_snoc, show l.getD k (0, 0) = l[k] by simp [List.getD, show k < l.length by omega]]
    by_cases h : k = 0
    · subst h
      simp [joinL, item, itm]
    · rw [if_neg (by
        intro e
        have hl : ((l.take k).map itm).length = k := by rw [List.length_map, List.length_take]; omega
        rw [e, List.length_nil] at hl
        omega)]
      unfold item itm
      rw [if_neg h]
      simp
theorem txk_cut (l : List (Nat × Nat)) (h : l ≠ []) : cutL 44 (txk l l.length) = l.map itm := by
  rw [txk_join l l.length (Nat.le_refl _), List.take_length]
  exact cutL_join 44 _ (by simpa using h) (fun p hp => by
    obtain ⟨q, _, rfl⟩ := List.mem_map.1 hp
    exact itm_not q)
end Go.Proofs.YtbeaohnjifcgaaaDoor.Db
