/-
  The contracts of the digests: of, Sum, Old, Pair, Zero, Check, awake.
-/
import Derived.Test.YthlkpbpcfkgljaaHd
import Derived.WalkKit
import Derived.WalkSpells
import Derived.WalkLawsBesides
import Derived.LoopTactic
import Derived.Outline
import Derived.Deep.QuietTactic
import Derived.BigQuiet
import Derived.BigRegion
import Derived.RegionTactic
import Derived.Lib.Hide
namespace Go.Proofs.Ythlkpbpcfkgljaa.Hh
open Go Go.RowKit


/-- a row of texts in a block -/
def Strs (w : World) (c : Nat) (ss : List ByteArray) : Prop := ∀ i, i < ss.length → w.cell? ⟨c, i, none⟩ = some (.string (ss.getD i ByteArray.empty))
/-- texts, one behind the other -/
def cat (ss : List ByteArray) : List UInt8 := (ss.map fun s => s.data.toList).flatten

theorem Strs.only {w w' : World} {b c : Nat} {ss : List ByteArray} (h : Strs w c ss) (ho : Only b w w') (hc : c ≠ b) : Strs w' c ss := fun i hi =>
  World.grownBy.cell ho (h i hi) (by simpa using hc)
theorem cat_take (ss : List ByteArray) (k : Nat) (h : k < ss.length) : cat (ss.take (k + 1)) = cat (ss.take k) ++ (ss.getD k ByteArray.empty).data.toList := by
  unfold cat
  rw [List.take_succ_eq_append_getElem h, List.map_append, List.flatten_append]
  simp [List.getD, h]
theorem cat_take_le (ss : List ByteArray) (k : Nat) : (cat (ss.take k)).length ≤ (cat ss).length := by
  have h : cat ss = cat (ss.take k) ++ cat (ss.drop k) := by
    unfold cat
    rw [← List.flatten_append, ← List.map_append, List.take_append_drop]
  rw [h, List.length_append]
  omega

theorem cell_new (W : World) (c : Array Value) (t : TypeId) (i : Nat) : (W.alloc (.cells c t)).cell? ⟨W.heap.size, i, none⟩ = c[i]? := World.cell?_alloc_at _ _ _ _ rfl

theorem strs_new (W : World) (ss : List ByteArray) (t : TypeId) : Strs (W.alloc (.cells (ss.map Value.string).toArray t)) W.heap.size ss := fun i hi => by
  rw [cell_new]
  simp [hi, List.getD]

theorem below_alloc {W w' : World} (o : Obj) (hb : Below (W.alloc o).heap.size (W.alloc o) w') : Below W.heap.size W w' :=
  ((Below.refl _ _).alloc (Nat.le_refl _) o).trans (hb.mono (by simp))

theorem cat1 (s : ByteArray) : cat [s] = s.data.toList := by simp [cat]
theorem cat2 (s t : ByteArray) : cat [s, t] = s.data.toList ++ t.data.toList := by simp [cat]

/-- 'old:' -/
def oldT : ByteArray := ⟨#[111, 108, 100, 58]⟩

end Go.Proofs.Ythlkpbpcfkgljaa.Hh
