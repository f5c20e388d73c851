/-
  Fields of bits: plain words on runs: what FromRuns makes of them, and of a field's own runs.
-/
import Derived.Test.YtbeaohnjifcgaaaDoorCd
namespace Go.Proofs.YtbeaohnjifcgaaaDoor.Bh
open Go Go.RowKit Go.Shelf Go.Proofs.YtbeaohnjifcgaaaDoor.Sx Go.Proofs.YtbeaohnjifcgaaaDoor.Na Go.Proofs.YtbeaohnjifcgaaaDoor.Ba

/-- a row of runs that lies somewhere -/
def RL (w : World) (a : Option Addr) (l : List (Int × Int)) : Prop := 0 < l.length → ∃ b off, a = some ⟨b, off, none⟩ ∧ ∀ i, i < l.length → w.cell? ⟨b, off + i * 2, none⟩ = some (.int .i64 (l.getD i (0, 0)).1) ∧ w.cell? ⟨b, off + i * 2 + 1, none⟩ = some (.int .i64 (l.getD i (0, 0)).2)
theorem RL.kept {w w' : World} {a : Option Addr} {l : List (Int × Int)} (h : RL w a l) (hg : w.grownBy w' none) : RL w' a l := fun h0 => by
  obtain ⟨b, off, e, hc⟩ := h h0
  exact ⟨b, off, e, fun i hi => ⟨gb_cell hg (hc i hi).1 (by simp), gb_cell hg (hc i hi).2 (by simp)⟩⟩
theorem dropR (l : List (Int × Int)) (k : Nat) (h : k < l.length) : l.drop k = l.getD k (0, 0) :: l.drop (k + 1) := by
  rw [List.drop_eq_getElem_cons h]
  simp [List.getD, h]
/-- the bits of a run are set -/
def setR (β : Nat → Bool) (f c : Nat) : Nat → Bool := fun j => β j || (decide (f ≤ j) && decide (j < f + c))
theorem setR_zero (β : Nat → Bool) (f : Nat) : setR β f 0 = β := by
  funext j
  unfold setR
  by_cases h : f ≤ j
  · rw [decide_eq_false (show ¬ j < f + 0 by omega)]; simp
  · simp [h]
theorem setR_succ (β : Nat → Bool) (f c : Nat) : upd (setR β f c) (f + c) true = setR β f (c + 1) := by
  funext j
  unfold upd setR
  by_cases e : j = f + c
  · rw [if_pos e]; subst e; simp
  · rw [if_neg e]
    by_cases h : j < f + c
    · rw [decide_eq_true h, decide_eq_true (show j < f + (c + 1) by omega)]
    · rw [decide_eq_false h, decide_eq_false (show ¬ j < f + (c + 1) by omega)]
def badR (N f c : Int) : Prop := c < 1 ∨ f < 0 ∨ N < f ∨ N - f < c
instance (N f c : Int) : Decidable (badR N f c) := inferInstanceAs (Decidable (_ ∨ _))
/-- what FromRuns makes of runs: the error, the bits -/
def frL (N : Int) : List (Int × Int) → Int → (Nat → Bool) → Int × (Nat → Bool)
  | [], _, β => (0, β)
  | p :: l, e, β => if badR N p.1 p.2 then (7, β) else if p.1 < e then (6, β) else frL N l (p.1 + p.2) (setR β p.1.toNat p.2.toNat)
theorem frL_cons (N : Int) (p : Int × Int) (l : List (Int × Int)) (e : Int) (β : Nat → Bool) : frL N (p :: l) e β = if badR N p.1 p.2 then (7, β) else if p.1 < e then (6, β) else frL N l (p.1 + p.2) (setR β p.1.toNat p.2.toNat) := rfl
def frE (n : Int) (l : List (Int × Int)) : Int := if rgt n = true then (frL n l 0 fun _ => false).1 else 7
def frS (n : Int) (l : List (Int × Int)) : ByteArray := if frE n l = 0 then tf n.toNat (frL n l 0 fun _ => false).2 else ⟨#[]⟩
theorem frL_out (N : Nat) : ∀ (l : List (Int × Int)) (e : Int) (β : Nat → Bool), (∀ i, N ≤ i → β i = false) → ∀ i, N ≤ i → (frL N l e β).2 i = false := by
  intro l
  induction l with
  | nil => intro e β h; exact h
  | cons p l ih =>
    intro e β h i hi
    rw [frL_cons]
    by_cases hb : badR N p.1 p.2
    · rw [if_pos hb]; exact h i hi
    · rw [if_neg hb]
      by_cases h2 : p.1 < e
      · rw [if_pos h2]; exact h i hi
      · rw [if_neg h2]
        refine ih _ _ (fun j hj => ?_) i hi
        unfold badR at hb
        unfold setR
        rw [h j hj, decide_eq_false (show ¬ j < p.1.toNat + p.2.toNat by omega)]
        simp

/-- runs in order, apart from each other, from e up to k -/
def okR : List (Nat × Nat) → Nat → Nat → Prop
  | [], e, k => e ≤ k
  | p :: l, e, k => e ≤ p.1 ∧ 1 ≤ p.2 ∧ okR l (p.1 + p.2) k
theorem okR_snoc (p : Nat × Nat) (k : Nat) : ∀ (l : List (Nat × Nat)) (e : Nat), okR (l ++ [p]) e k ↔ okR l e p.1 ∧ 1 ≤ p.2 ∧ p.1 + p.2 ≤ k := by
  intro l
  induction l with
  | nil => intro e; simp [okR]
  | cons q l ih => intro e; rw [List.cons_append, okR, okR, ih]; constructor <;> (intro h; obtain ⟨a, b⟩ := h) <;> simp_all
theorem okR_le : ∀ (l : List (Nat × Nat)) (e k : Nat), okR l e k → e ≤ k := by
  intro l
  induction l with
  | nil => intro e k h; exact h
  | cons p l ih => intro e k h; obtain ⟨h1, h2, h3⟩ := h; have := ih _ _ h3; omega
theorem okR_mono : ∀ (l : List (Nat × Nat)) (e k k' : Nat), okR l e k → k ≤ k' → okR l e k' := by
  intro l
  induction l with
  | nil => intro e k k' h hk; exact Nat.le_trans h hk
  | cons p l ih => intro e k k' h hk; obtain ⟨h1, h2, h3⟩ := h; exact ⟨h1, h2, ih _ _ _ h3 hk⟩
/-- is a bit within the runs? -/
def cov (l : List (Nat × Nat)) (j : Nat) : Bool := l.any fun p => decide (p.1 ≤ j) && decide (j < p.1 + p.2)
theorem cov_snoc (l : List (Nat × Nat)) (p : Nat × Nat) (j : Nat) : cov (l ++ [p]) j = (cov l j || (decide (p.1 ≤ j) && decide (j < p.1 + p.2))) := by simp [cov]
theorem cov_cons (l : List (Nat × Nat)) (p : Nat × Nat) (j : Nat) : cov (p :: l) j = ((decide (p.1 ≤ j) && decide (j < p.1 + p.2)) || cov l j) := by simp [cov]
def RI (l : List (Nat × Nat)) : List (Int × Int) := l.map fun p => ((p.1 : Int), (p.2 : Int))
theorem RI_len (l : List (Nat × Nat)) : (RI l).length = l.length := by simp [RI]
theorem RI_at (l : List (Nat × Nat)) (k : Nat) : (RI l).getD k (0, 0) = (((l.getD k (0, 0)).1 : Int), ((l.getD k (0, 0)).2 : Int)) := by
  unfold RI
  by_cases h : k < l.length
  · simp [List.getD, h]
  · simp [List.getD, List.getElem?_eq_none (show l.length ≤ k by omega)]
theorem frL_ok (N : Nat) : ∀ (l : List (Nat × Nat)) (e : Nat) (β : Nat → Bool), okR l e N → frL N (RI l) e β = (0, fun j => β j || cov l j) := by
  intro l
  induction l with
  | nil => intro e β _; simp [RI, frL, cov]
  | cons p l ih =>
    intro e β h
    obtain ⟨h1, h2, h3⟩ := h
    have h4 := okR_le _ _ _ h3
    have e1 : RI (p :: l) = ((p.1 : Int), (p.2 : Int)) :: RI l := rfl
    rw [e1, frL_cons, if_neg (by unfold badR; simp only []; omega), if_neg (by simp only []; omega)]
    have e2 : ((p.1 : Int) + (p.2 : Int)) = ((p.1 + p.2 : Nat) : Int) := by omega
    simp only [e2, Int.toNat_natCast]
    rw [ih _ _ h3]
    congr 1
    funext j
    rw [cov_cons, setR, Bool.or_assoc]
theorem rnl_ok (β : Nat → Bool) : ∀ k, okR (rnl β k) 0 k ∧ ∀ j, cov (rnl β k) j = (decide (j < k) && β j) := by
  intro k
  induction k with
  | zero => exact ⟨Nat.le_refl _, fun j => by simp [rnl, cov]⟩
  | succ k ih =>
    obtain ⟨h1, h2⟩ := ih
    cases hb : β k
    · have e : rnl β (k + 1) = rnl β k := by rw [rnl, if_neg (by rw [hb]; decide)]
      rw [e]
      refine ⟨okR_mono _ _ _ _ h1 (by omega), fun j => ?_⟩
      rw [h2 j]
      by_cases ej : j = k
      · subst ej; simp [hb]
      · rw [show decide (j < k + 1) = decide (j < k) by simp; omega]
    · have e : rnl β (k + 1) = rstep (rnl β k) k := by rw [rnl, if_pos hb]
      rw [e]
      have goal2 : ∀ j, (decide (j < k + 1) && β j) = ((decide (j < k) && β j) || decide (j = k)) := by
        intro j
        by_cases ej : j = k
        · subst ej; simp [hb]
        · rw [show decide (j < k + 1) = decide (j < k) by simp; omega]; simp [ej]
      rcases List.eq_nil_or_concat (rnl β k) with hnil | ⟨l', p, hcat⟩
      · rw [hnil] at h2 ⊢
        rw [rstep_nil]
        refine ⟨by rw [okR_snoc]; exact ⟨Nat.zero_le _, Nat.le_refl _, Nat.le_refl _⟩, fun j => ?_⟩
        rw [cov_snoc, h2 j, goal2 j]
        congr 1
        by_cases ej : j = k
        · subst ej; simp
        · simp [ej]; omega
      · rw [List.concat_eq_append] at hcat
        rw [hcat] at h1 h2 ⊢
        rw [rstep_snoc]
        rw [okR_snoc] at h1
        obtain ⟨a1, a2, a3⟩ := h1
        by_cases hk : p.1 + p.2 = k
        · rw [if_pos hk]
          refine ⟨by rw [okR_snoc]; exact ⟨a1, by simp, by simp; omega⟩, fun j => ?_⟩
          have := h2 j
          rw [cov_snoc] at this ⊢
          rw [goal2 j, ← this, Bool.or_assoc]
          congr 1
          by_cases ej : j = k
          · subst ej; simp; omega
          · simp only [ej, decide_false, Bool.or_false]
            congr 1
            simp; omega
        · rw [if_neg hk]
          refine ⟨by rw [okR_snoc]; exact ⟨by rw [okR_snoc]; exact ⟨a1, a2, a3⟩, Nat.le_refl _, Nat.le_refl _⟩, fun j => ?_⟩
          rw [cov_snoc, h2 j, goal2 j]
          congr 1
          by_cases ej : j = k
          · subst ej; simp
          · simp [ej]; omega
/-- the runs of a field, as Runs returns them -/
def ruL (n : Int) (s : ByteArray) : List (Nat × Nat) := if chk n s = 0 then rnl (bt s) n.toNat else []
/-- what a field's own runs make is the field -/
theorem fr_runs {n : Int} {s : ByteArray} (hc : chk n s = 0) : frE n (RI (ruL n s)) = 0 ∧ frS n (RI (ruL n s)) = s := by
  have hv := chk_t hc
  obtain ⟨N, rfl, h1, _⟩ := vd_t hv
  have eL : ruL N s = rnl (bt s) N := by rw [ruL, if_pos hc, Int.toNat_natCast]
  obtain ⟨k1, k2⟩ := rnl_ok (bt s) N
  have e1 : frL N (RI (rnl (bt s) N)) 0 (fun _ => false) = (0, fun j => decide (j < N) && bt s j) := by
    rw [show (0 : Int) = ((0 : Nat) : Int) from rfl, frL_ok N _ 0 _ k1]
    congr 1
    funext j
    rw [k2 j]; simp
  have e0 : frE N (RI (ruL N s)) = 0 := by unfold frE; rw [if_pos (rgt_of h1), eL, e1]
  refine ⟨e0, ?_⟩
  unfold frS
  rw [if_pos e0, Int.toNat_natCast, eL, e1]
  rw [← tf_self hv]
  refine tf_congr fun i hi => ?_
  simp only [decide_eq_true hi, Bool.true_and]
  rw [tf_self hv]
theorem ruL_len (n : Int) (s : ByteArray) : (ruL n s).length ≤ 4096 := by
  by_cases hc : chk n s = 0
  · rw [ruL, if_pos hc]
    obtain ⟨N, rfl, h1, _⟩ := vd_t (chk_t hc)
    have := rnl_len (bt s) N
    rw [Int.toNat_natCast]; omega
  · rw [ruL, if_neg hc]; simp
/-- the runs of a list of numbers -/
def rnL (l : List Int) : List (Nat × Nat) := l.foldl (fun acc z => rstep acc z.toNat) []
theorem rnL_snoc (l : List Int) (z : Int) : rnL (l ++ [z]) = rstep (rnL l) z.toNat := by simp [rnL]
theorem rnL_nbl (β : Nat → Bool) (k : Nat) : rnL (nbl β k) = rnl β k := by
  induction k with
  | zero => rfl
  | succ k ih =>
    rw [nbl, rnl]
    by_cases h : β k = true
    · rw [if_pos h, if_pos h, rnL_snoc, ih, Int.toNat_natCast]
    · rw [if_neg h, if_neg h, ih]
end Go.Proofs.YtbeaohnjifcgaaaDoor.Bh
