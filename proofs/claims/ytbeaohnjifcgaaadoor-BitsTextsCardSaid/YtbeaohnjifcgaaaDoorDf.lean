/-
  Texts of bits: what Parse must answer.
-/
import Derived.Test.YtbeaohnjifcgaaaDoorDe
namespace Go.Proofs.YtbeaohnjifcgaaaDoor.Db
open Go Go.RowKit Go.Shelf Go.Proofs.YtbeaohnjifcgaaaDoor.Sx Go.Proofs.YtbeaohnjifcgaaaDoor.Na Go.Proofs.YtbeaohnjifcgaaaDoor.Ba Go.Proofs.YtbeaohnjifcgaaaDoor.Bh Go.Proofs.YtbeaohnjifcgaaaDoor.Da

/-- f is the field whose text is t -/
def good (n : Int) (t f : ByteArray) : Prop := chk n f = 0 ∧ teS n f = t
/-- what Parse answers at a right number and a text that is not too long -/
def PR (n : Int) (t s : ByteArray) (e : Int) : Prop := (e = 0 ∧ good n t s ∧ ∀ f, good n t f → f = s) ∨ (e = 2 ∧ s = ⟨#[]⟩ ∧ ∀ f, ¬ good n t f)
theorem PR.one {n : Int} {t s s' : ByteArray} {e e' : Int} (h : PR n t s e) (h' : PR n t s' e') : s = s' ∧ e = e' := by
  rcases h with ⟨rfl, g, u⟩ | ⟨rfl, rfl, u⟩ <;> rcases h' with ⟨rfl, g', u'⟩ | ⟨rfl, rfl, u'⟩
  · exact ⟨u' s g, rfl⟩
  · exact absurd g (u' s)
  · exact absurd g' (u s')
  · exact ⟨rfl, rfl⟩
theorem PR.no {n : Int} {t : ByteArray} (h : ∀ f, ¬ good n t f) : PR n t ⟨#[]⟩ 2 := .inr ⟨rfl, rfl, h⟩
theorem good_cut {n : Int} {t f : ByteArray} (h : good n t f) (h0 : t.data.toList ≠ []) : cutL 44 t.data.toList = (ruL n f).map itm := by
  have e : t.data.toList = txk (ruL n f) (ruL n f).length := by rw [← h.2, teS_ruL]; rfl
  rw [e]
  refine txk_cut _ fun hn => h0 ?_
  rw [e, hn]
  rfl
theorem ruL_pos (n : Int) (s : ByteArray) : ∀ p ∈ ruL n s, 1 ≤ p.2 := by
  intro p hp
  unfold ruL at hp
  split at hp
  · have hall : ∀ (l : List (Nat × Nat)) (a b : Nat), okR l a b → ∀ p ∈ l, 1 ≤ p.2 := by
      intro l
      induction l with
      | nil => intro a b _ p hp; cases hp
      | cons q r ih =>
        intro a b h p hp
        rcases List.mem_cons.1 hp with rfl | hp
        · exact h.2.1
        · exact ih _ _ h.2.2 p hp
    exact hall _ _ _ (rnl_ok _ _).1 p hp
  · cases hp
/-- a piece of a good text -/
theorem good_piece {n : Int} {t f : ByteArray} (h : good n t f) (h0 : t.data.toList ≠ []) (k : Nat) (hk : k < (cutL 44 t.data.toList).length) : ∃ p, (ruL n f).take (k + 1) = (ruL n f).take k ++ [p] ∧ (cutL 44 t.data.toList).getD k [] = itm p ∧ 1 ≤ p.2 ∧ p.1 + p.2 ≤ 4096 := by
  have e := good_cut h h0
  rw [e, List.length_map] at hk
  refine ⟨(ruL n f)[k], by rw [List.take_add_one, List.getElem?_eq_getElem hk]; rfl, ?_, ruL_pos _ _ _ (List.getElem_mem hk), ruL_le _ _ _ (List.getElem_mem hk)⟩
  rw [e]
  simp [List.getD, hk]
theorem good_len {n : Int} {t f : ByteArray} (h : good n t f) (h0 : t.data.toList ≠ []) : (ruL n f).length = (cutL 44 t.data.toList).length := by rw [good_cut h h0, List.length_map]
/-- the end: the runs are those of every good field -/
theorem PR.fin {n : Int} {t : ByteArray} {ls : List (Nat × Nat)} (hl : ∀ f, good n t f → ls = ruL n f) :
    (frE n (RI ls) ≠ 0 → ∀ f, ¬ good n t f) ∧ (frE n (RI ls) = 0 → chk n (frS n (RI ls)) = 0) ∧ (frE n (RI ls) = 0 → ∀ f, good n t f → f = frS n (RI ls)) := by
  refine ⟨fun h f g => h ?_, fun h => ?_, fun h f g => ?_⟩
  · rw [hl f g]; exact (fr_runs g.1).1
  · have hr : rgt n = true := by
      cases e : rgt n
      · unfold frE at h; rw [if_neg (by rw [e]; decide)] at h; exact absurd h (by decide)
      · rfl
    obtain ⟨n0, n1⟩ := rgt_t hr
    unfold frS
    rw [if_pos h]
    have hN : (n.toNat : Int) = n := by omega
    have := chk_of (vd_tf (N := n.toNat) (frL n (RI ls) 0 fun _ => false).2 (by omega))
    rwa [hN] at this
  · rw [hl f g]; exact (fr_runs g.1).2.symm
theorem cutL_len (c : UInt8) (l : List UInt8) : (∀ p ∈ cutL c l, p.length ≤ l.length) ∧ (cutL c l).length ≤ l.length + 1 := by
  induction l with
  | nil => simp [cutL]
  | cons b t ih =>
    rw [cutL]
    split
    · refine ⟨fun p hp => ?_, by simp; omega⟩
      rcases List.mem_cons.1 hp with rfl | hp
      · simp
      · have := ih.1 p hp; simp; omega
    · cases e : cutL c t with
      | nil => exact absurd e (cutL_ne c t)
      | cons q r =>
        rw [e] at ih
        refine ⟨fun p hp => ?_, by have := ih.2; simp at this ⊢; omega⟩
        rcases List.mem_cons.1 hp with rfl | hp
        · have := ih.1 q (List.mem_cons_self ..); simp; omega
        · have := ih.1 p (List.mem_cons_of_mem _ hp); simp; omega
/-- a row of texts as it lies -/
theorem OS.at_ {w : World} {base : Nat} {v : Value} {l : List (List UInt8)} (h : OS w base v l) (h0 : 0 < l.length) : ∃ g cap, v = .slice (some ⟨g, 0, none⟩) l.length cap ∧ base ≤ g ∧ g < w.heap.size ∧ ∀ i, i < l.length → w.cell? ⟨g, i, none⟩ = some (.string (tx (l.getD i []))) := by
  obtain ⟨h1, ⟨rfl, h2⟩ | ⟨g, cap, cur, rfl, hb, hh, hn, hc, hz, ht⟩⟩ := h
  · omega
  · refine ⟨g, cap, rfl, hb, (Array.getElem?_eq_some_iff.1 hh).1, fun i hi => ?_⟩
    rw [cell_of_row _ _ _ _ _ _ hh]
    have e : cur.toList[i]? = (l.map fun p => Value.string (tx p))[i]? := by rw [← ht, List.getElem?_take_of_lt (by omega)]
    rw [← Array.getElem?_toList, e]
    simp [List.getD, hi]
end Go.Proofs.YtbeaohnjifcgaaaDoor.Db
