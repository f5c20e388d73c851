/-
  Fields of bits: plain words on the numbers that are set; what Rank and Select answer.
-/
import Derived.Test.YtbeaohnjifcgaaaDoorCd
namespace Go.Proofs.YtbeaohnjifcgaaaDoor.Bh
open Go Go.RowKit Go.Shelf Go.Proofs.YtbeaohnjifcgaaaDoor.Sx Go.Proofs.YtbeaohnjifcgaaaDoor.Na Go.Proofs.YtbeaohnjifcgaaaDoor.Ba

theorem nbl_t {β : Nat → Bool} {k : Nat} (h : β k = true) : nbl β (k + 1) = nbl β k ++ [(k : Int)] := by rw [nbl, if_pos h]
theorem nbl_f {β : Nat → Bool} {k : Nat} (h : β k = false) : nbl β (k + 1) = nbl β k := by rw [nbl, if_neg (by rw [h]; decide)]
theorem nbl_mono (β : Nat → Bool) : ∀ {N j : Nat}, j ≤ N → ∃ r, nbl β N = nbl β j ++ r := by
  intro N
  induction N with
  | zero => intro j h; obtain rfl : j = 0 := by omega
            exact ⟨[], by simp⟩
  | succ N ih =>
    intro j h
    by_cases e : j = N + 1
    · subst e; exact ⟨[], by simp⟩
    · obtain ⟨r, hr⟩ := ih (show j ≤ N by omega)
      cases hb : β N
      · exact ⟨r, by rw [nbl_f hb, hr]⟩
      · exact ⟨r ++ [(N : Int)], by rw [nbl_t hb, hr, List.append_assoc]⟩
theorem nbl_cons {β : Nat → Bool} {N j : Nat} (h : j < N) (hb : β j = true) : ∃ r, nbl β N = nbl β j ++ (j : Int) :: r := by
  obtain ⟨r, hr⟩ := nbl_mono β (show j + 1 ≤ N from h)
  exact ⟨r, by rw [hr, nbl_t hb]; simp⟩
theorem nbl_lt (β : Nat → Bool) : ∀ N, ∀ x ∈ nbl β N, 0 ≤ x ∧ x < N := by
  intro N
  induction N with
  | zero => intro x h; simp [nbl] at h
  | succ N ih =>
    intro x h
    cases hb : β N
    · rw [nbl_f hb] at h; have := ih x h; omega
    · rw [nbl_t hb] at h
      rcases List.mem_append.1 h with h | h
      · have := ih x h; omega
      · obtain rfl : x = (N : Int) := by simpa using h
        omega
theorem fst_app (f : Int) : ∀ (l r : List Int), fstL f l = none → fstL f (l ++ r) = fstL f r := by
  intro l
  induction l with
  | nil => intro r _; rfl
  | cons z l ih =>
    intro r h
    rw [fstL] at h
    split at h
    · cases h
    · rename_i hz
      rw [List.cons_append, fstL, if_neg hz, ih r h]
theorem fst_step {β : Nat → Bool} {f : Int} {j : Nat} (h : fstL f (nbl β j) = none) (hf : β j = true → (j : Int) < f) : fstL f (nbl β (j + 1)) = none := by
  cases hb : β j
  · rw [nbl_f hb, h]
  · rw [nbl_t hb, fst_app _ _ _ h, fstL, if_neg (by have := hf hb; omega), fstL]
theorem fst_hit {β : Nat → Bool} {f : Int} {j N : Nat} (h : fstL f (nbl β j) = none) (hb : β j = true) (hf : f ≤ j) (hj : j < N) : fstL f (nbl β N) = some (j : Int) := by
  obtain ⟨r, hr⟩ := nbl_cons hj hb
  rw [hr, fst_app _ _ _ h, fstL, if_pos hf]
/-- how many bits are set below k -/
def cnt (β : Nat → Bool) (k : Nat) : Nat := (nbl β k).length
theorem cnt_zero (β : Nat → Bool) : cnt β 0 = 0 := rfl
theorem cnt_t {β : Nat → Bool} {k : Nat} (h : β k = true) : cnt β (k + 1) = cnt β k + 1 := by unfold cnt; rw [nbl_t h]; simp
theorem cnt_f {β : Nat → Bool} {k : Nat} (h : β k = false) : cnt β (k + 1) = cnt β k := by unfold cnt; rw [nbl_f h]
theorem cnt_le (β : Nat → Bool) (k : Nat) : cnt β k ≤ k := nbl_len β k
theorem cnt_mono (β : Nat → Bool) {j N : Nat} (h : j ≤ N) : cnt β j ≤ cnt β N := by
  obtain ⟨r, hr⟩ := nbl_mono β h
  unfold cnt; rw [hr]; simp
/-- how many numbers of a list are below one -/
def rkL (i : Int) (l : List Int) : Nat := (l.filter fun x => decide (x < i)).length
theorem rkL_snoc (i : Int) (l : List Int) (z : Int) : rkL i (l ++ [z]) = rkL i l + if z < i then 1 else 0 := by
  unfold rkL
  rw [List.filter_append]
  by_cases h : z < i
  · simp [h]
  · simp [h]
theorem rkL_le (i : Int) (l : List Int) : rkL i l ≤ l.length := List.length_filter_le _ _
theorem rkL_nbl (β : Nat → Bool) (I : Nat) : ∀ N, I ≤ N → rkL I (nbl β N) = cnt β I := by
  intro N
  induction N with
  | zero => intro h; obtain rfl : I = 0 := by omega
            rfl
  | succ N ih =>
    intro h
    by_cases e : I = N + 1
    · subst e
      unfold rkL cnt
      rw [List.filter_eq_self.2 (fun x hx => by have := nbl_lt β (N + 1) x hx; simp; omega)]
    · have := ih (by omega)
      cases hb : β N
      · rw [nbl_f hb, this]
      · rw [nbl_t hb, rkL_snoc, if_neg (by omega), this, Nat.add_zero]
theorem rkL_take (i : Int) (l : List Int) (k : Nat) (h : k < l.length) : rkL i (l.take (k + 1)) = rkL i (l.take k) + if l.getD k 0 < i then 1 else 0 := by
  rw [List.take_succ_eq_append_getElem h, rkL_snoc]
  simp [List.getD, h]
theorem sel_hit {β : Nat → Bool} {j N : Nat} (hb : β j = true) (hj : j < N) : (nbl β N).getD (cnt β j) 0 = (j : Int) ∧ cnt β j < cnt β N := by
  obtain ⟨r, hr⟩ := nbl_cons hj hb
  unfold cnt
  rw [hr]
  refine ⟨?_, by simp⟩
  simp [List.getD]

/-- what Rank and Select return -/
def rkE (n : Int) (s : ByteArray) (i : Int) : Int := if chk n s = 0 then (if i < 0 ∨ n < i then 7 else 0) else chk n s
def rkV (n : Int) (s : ByteArray) (i : Int) : Int := if rkE n s i = 0 then (cnt (bt s) i.toNat : Int) else 0
def slE (n : Int) (s : ByteArray) (k : Int) : Int := if chk n s = 0 then (if k < 0 then 7 else if (cnt (bt s) n.toNat : Int) ≤ k then 8 else 0) else chk n s
def slV (n : Int) (s : ByteArray) (k : Int) : Int := if slE n s k = 0 then (nbl (bt s) n.toNat).getD k.toNat 0 else 0
end Go.Proofs.YtbeaohnjifcgaaaDoor.Bh
