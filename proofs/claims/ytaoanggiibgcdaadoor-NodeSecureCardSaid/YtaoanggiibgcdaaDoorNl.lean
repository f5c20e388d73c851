/-
  node: the specification's Distance, Common, Nearer.
-/
import Derived.Test.YtaoanggiibgcdaaDoorNk
namespace Go.Proofs.YtaoanggiibgcdaaDoor.Nj
open Go Go.RowKit Go.Proofs.YtaoanggiibgcdaaDoor.Hz Go.Proofs.YtaoanggiibgcdaaDoor.Na Go.Proofs.YtaoanggiibgcdaaDoor.Nb Go.Proofs.YtaoanggiibgcdaaDoor.Nf

/-- a block of truths -/
def Xs (w : World) (g : Nat) (f : Nat → Bool) : Prop := (∀ i, i < 160 → w.cell? ⟨g, i, none⟩ = some (.bool (f i))) ∧ ∀ i, w.frozen? ⟨g, i, none⟩ = false
theorem Xs.set {w : World} {g : Nat} {f : Nat → Bool} (h : Xs w g f) (k : Nat) (hk : k < 160) (c : Bool) : Xs (w.setCell ⟨g, k, none⟩ (.bool c)) g (fun i => if i = k then c else f i) := by
  refine ⟨fun i hi => ?_, fun i => (World.frozen?_setCell _ _ _ _).trans (h.2 i)⟩
  by_cases e : i = k
  · subst e
    rw [World.cell?_setCell_same _ _ _ (h.1 i hi)]
    simp
  · have hne : (⟨g, k, none⟩ : Addr) ≠ ⟨g, i, none⟩ := fun q => e (by injection q with _ q2; exact q2.symm)
    rw [World.cell?_setCell_other (w := w) (v := .bool c) (h := hne), h.1 i hi]
    simp [e]
theorem Xs.far {w : World} {g g' k : Nat} {v : Value} {f : Nat → Bool} (h : Xs w g f) (hne : g' ≠ g) : Xs (w.setCell ⟨g', k, none⟩ v) g f :=
  ⟨fun i hi => by rw [World.cell?_setCell_other (w := w) (v := v) (h := fun q => hne (by injection q))]; exact h.1 i hi, fun i => (World.frozen?_setCell _ _ _ _).trans (h.2 i)⟩
theorem Xs.drew {w : World} {g : Nat} {f : Nat → Bool} (h : Xs w g f) : Xs w.drew g f := h
theorem Xs.below {w w' : World} {g : Nat} {f : Nat → Bool} (h : Xs w g f) (hb : Below w.heap.size w w') : Xs w' g f := by
  have hlt : g < w.heap.size := World.block_lt_of_cell? w _ (h.1 0 (by omega))
  exact ⟨fun i hi => (hb.cell (p := ⟨g, i, none⟩) hlt).trans (h.1 i hi), fun i => (hb.frozen (p := ⟨g, i, none⟩) hlt).trans (h.2 i)⟩
theorem Xs.congr {w : World} {g : Nat} {f f' : Nat → Bool} (h : Xs w g f) (he : ∀ i, i < 160 → f i = f' i) : Xs w g f' := ⟨fun i hi => by rw [← he i hi]; exact h.1 i hi, h.2⟩
end Go.Proofs.YtaoanggiibgcdaaDoor.Nj
