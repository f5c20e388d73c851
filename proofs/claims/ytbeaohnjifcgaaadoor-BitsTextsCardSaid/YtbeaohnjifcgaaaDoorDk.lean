/-
  Texts of bits: what the program reads out of the pieces.
-/
import Derived.Test.YtbeaohnjifcgaaaDoorDj
namespace Go.Proofs.YtbeaohnjifcgaaaDoor.Db
open Go Go.RowKit Go.Shelf Go.Proofs.YtbeaohnjifcgaaaDoor.Sx Go.Proofs.YtbeaohnjifcgaaaDoor.Na Go.Proofs.YtbeaohnjifcgaaaDoor.Ba Go.Proofs.YtbeaohnjifcgaaaDoor.Bh Go.Proofs.YtbeaohnjifcgaaaDoor.Da

/-- a number below N, as the program reads it -/
def numO (N : Nat) (x : List UInt8) : Prop := okN (tx x) ∧ nv (tx x) (tx x).size < N
def numV (x : List UInt8) : Nat := nv (tx x) (tx x).size
open Classical in
/-- a piece: the first bit and how many -/
noncomputable def pp (N : Nat) (p : List UInt8) : Option (Nat × Nat) :=
  if numO N (Lib.cut p [45]).1 then
    if (Lib.cut p [45]).1.length < p.length then
      if numO N (Lib.cut p [45]).2.1 then some (numV (Lib.cut p [45]).1, numV (Lib.cut p [45]).2.1 + 1 - numV (Lib.cut p [45]).1) else none
    else some (numV (Lib.cut p [45]).1, 1)
  else none
/-- all pieces -/
noncomputable def parL (N : Nat) : List (List UInt8) → (Nat → Bool) → Option (Nat → Bool)
  | [], β => some β
  | p :: r, β => match pp N p with
    | none => none
    | some (a, c) => parL N r (setR β a c)
theorem parL_none {N : Nat} {p : List UInt8} {r : List (List UInt8)} {β : Nat → Bool} (h : pp N p = none) : parL N (p :: r) β = none := by rw [parL, h]
theorem parL_some {N : Nat} {p : List UInt8} {r : List (List UInt8)} {β : Nat → Bool} {a c : Nat} (h : pp N p = some (a, c)) : parL N (p :: r) β = parL N r (setR β a c) := by rw [parL, h]
theorem pp_no1 {N : Nat} {p : List UInt8} (h : ¬ numO N (Lib.cut p [45]).1) : pp N p = none := if_neg h
theorem pp_one {N : Nat} {p : List UInt8} (h : numO N (Lib.cut p [45]).1) (hl : ¬ (Lib.cut p [45]).1.length < p.length) : pp N p = some (numV (Lib.cut p [45]).1, 1) := by unfold pp; rw [if_pos h, if_neg hl]
theorem pp_no2 {N : Nat} {p : List UInt8} (h : numO N (Lib.cut p [45]).1) (hl : (Lib.cut p [45]).1.length < p.length) (h2 : ¬ numO N (Lib.cut p [45]).2.1) : pp N p = none := by unfold pp; rw [if_pos h, if_pos hl, if_neg h2]
theorem pp_two {N : Nat} {p : List UInt8} (h : numO N (Lib.cut p [45]).1) (hl : (Lib.cut p [45]).1.length < p.length) (h2 : numO N (Lib.cut p [45]).2.1) : pp N p = some (numV (Lib.cut p [45]).1, numV (Lib.cut p [45]).2.1 + 1 - numV (Lib.cut p [45]).1) := by unfold pp; rw [if_pos h, if_pos hl, if_pos h2]
theorem tx_dec (k : Nat) : tx (Hh.dec k).data.toList = Hh.dec k := bx rfl
theorem numO_dec {N k : Nat} (h : k < N) (hN : N ≤ 4096) : numO N (Hh.dec k).data.toList ∧ numV (Hh.dec k).data.toList = k := by
  unfold numO numV
  rw [tx_dec]
  have := (dec_all k).2.2.1
  exact ⟨⟨dec_okN k (by omega), by rw [this]; exact h⟩, this⟩
/-- a run's own piece -/
theorem pp_itm {N : Nat} {p : Nat × Nat} (h1 : 1 ≤ p.2) (h2 : p.1 + p.2 ≤ N) (hN : N ≤ 4096) : pp N (itm p) = some p := by
  obtain ⟨a1, a2⟩ := numO_dec (N := N) (k := p.1) (by omega) hN
  obtain ⟨b1, b2⟩ := numO_dec (N := N) (k := p.1 + p.2 - 1) (by omega) hN
  by_cases h : 1 < p.2
  · have e : itm p = (Hh.dec p.1).data.toList ++ 45 :: (Hh.dec (p.1 + p.2 - 1)).data.toList := by unfold itm; rw [if_pos h]
    have hc := cut_hit1 45 (Hh.dec p.1).data.toList (Hh.dec (p.1 + p.2 - 1)).data.toList (dec_not _ 45 (by decide))
    rw [e]
    rw [pp_two (by rw [hc]; exact a1) (by rw [hc]; simp) (by rw [hc]; exact b1), hc]
    show some (numV _, numV _ + 1 - numV _) = some p
    rw [a2, b2]
    exact congrArg some (Prod.ext rfl (by simp; omega))
  · have e : itm p = (Hh.dec p.1).data.toList := by unfold itm; rw [if_neg h, List.append_nil]
    have hc := cut_none1 45 (Hh.dec p.1).data.toList (dec_not _ 45 (by decide))
    rw [e, pp_one (by rw [hc]; exact a1) (by rw [hc]; simp), hc, a2]
    exact congrArg some (Prod.ext rfl (by simp; omega))
theorem parL_runs {N : Nat} (hN : N ≤ 4096) : ∀ (l : List (Nat × Nat)) (E : Nat) (β : Nat → Bool), okR l E N → parL N (l.map itm) β = some (frL N (RI l) E β).2 := by
  intro l
  induction l with
  | nil => intro E β _; rfl
  | cons p r ih =>
    intro E β h
    have hle : ∀ (r : List (Nat × Nat)) (e : Nat), okR r e N → e ≤ N := by
      intro r
      induction r with
      | nil => intro e h; exact h
      | cons q r ih => intro e h; have h1 := h.1; have h2 := h.2.1; have h3 := ih _ h.2.2; omega
    have h1 := h.1
    have h2 := h.2.1
    have h3 := hle _ _ h.2.2
    rw [List.map_cons, parL_some (pp_itm h2 h3 hN), ih _ _ h.2.2]
    show _ = some (frL N (((p.1 : Int), (p.2 : Int)) :: RI r) E β).2
    rw [frL_cons, if_neg (by unfold badR; simp only []; omega), if_neg (by simp only []; omega)]
    have e2 : ((p.1 : Int) + (p.2 : Int)) = ((p.1 + p.2 : Nat) : Int) := by omega
    simp only [e2, Int.toNat_natCast]
/-- a good text's pieces give the field -/
theorem good_par {N : Nat} {t f : ByteArray} (hN : N ≤ 4096) (h : good N t f) (h0 : t.data.toList ≠ []) : ∃ γ, parL N (cutL 44 t.data.toList) (fun _ => false) = some γ ∧ tf N γ = f := by
  rw [good_cut h h0]
  have hl : ruL N f = rnl (bt f) N := by unfold ruL; rw [if_pos h.1, Int.toNat_natCast]
  refine ⟨_, parL_runs hN _ 0 _ (by rw [hl]; exact (rnl_ok (bt f) N).1), ?_⟩
  have h1 := fr_runs h.1
  have h2 := h1.2
  unfold frS at h2
  rw [if_pos h1.1, Int.toNat_natCast] at h2
  exact h2
end Go.Proofs.YtbeaohnjifcgaaaDoor.Db
