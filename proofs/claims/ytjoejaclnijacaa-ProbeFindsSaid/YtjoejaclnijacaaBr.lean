/-
  What a slice of bools that came in is.
-/
import Derived.Test.YtjoejaclnijacaaRows
import Derived.WalkKit
import Derived.ProofKit
import Derived.ChangeOld
import Derived.SizedLaws
import Derived.ChangeSlices
import Derived.Deep.Grids
namespace Go.Proofs.Ytjoejaclnijacaa.Br
open Go Go.ChangeShapes Go.WideShapes Go.ChangeAt Go.RowKit

/-- a slice of bools that came in: where its bools lie -/
def BoolRow (w : World) (a : Option Addr) (len _cap : Nat) (ch : Nat → Bool) : Prop :=
  len ≤ maxLen ∧ ∀ i, i < len → ∃ b off, a = some ⟨b, off, none⟩ ∧ b < w.heap.size ∧ w.cell? ⟨b, off + i, none⟩ = some (.bool (ch i))
theorem boolRow_of {P : Program} {H : Type} {enc : TypeId × Value → H} {w : World} {t e : TypeId} {a : Option Addr} {len cap : Nat} {d : DataW H} {ps : List MemPlace}
    (ht : P.underlying t = some (.slice e)) (he : P.underlying e = some .bool) (hc : (P.cellsOf e == 1) = true)
    (h : DataW.Trod enc P w 0 (fun _ => true) true t (.slice a len cap) d ps) : ∃ ch, BoolRow w a len cap ch := by
  obtain ⟨fuel, hf⟩ := h
  rcases Go.Deep.open_bools ht he (by simpa using hc) hf with ⟨hcs, hx⟩ | ⟨x, len', cap', B, hcs, _, hl, hm, hx, hcell⟩
  · simp [Value.cells] at hcs
    obtain ⟨rfl, rfl, rfl⟩ := hcs
    exact ⟨fun _ => false, by decide, fun i hi => absurd hi (by omega)⟩
  · simp [Value.cells] at hcs
    obtain ⟨rfl, rfl, rfl⟩ := hcs
    refine ⟨B, by omega, fun i hi => ?_⟩
    obtain ⟨b, off, spot⟩ := x
    have hc0 := hcell 0 (by omega)
    have hspot : spot = none := by simpa [Addr.add] using World.cell?_spot hc0
    subst hspot
    have := hcell i (by omega)
    rw [Addr.add_lit] at this
    exact ⟨b, off, rfl, World.block_lt_of_cell? w _ hc0, this⟩
end Go.Proofs.Ytjoejaclnijacaa.Br
