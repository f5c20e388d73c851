/-
  Texts of bits: strings.Split and strings.Cut as the program calls them.
-/
import Derived.Test.YtbeaohnjifcgaaaDoorDg
import Derived.Shelf.Strings.Split
import Derived.Shelf.Strings.Cut
import Derived.Shelf.Lay
import Derived.Ground.NamesProg
namespace Go.Proofs
open Go.Shelf
shelf_lay Lays.n146 Nm 146 at Tryd as Tryd.laysSplit
shelf_lay Lays.n145 Nm 145 at Tryd as Tryd.laysCut
end Go.Proofs
namespace Go.Proofs.YtbeaohnjifcgaaaDoor.Db
open Go Go.RowKit Go.Shelf Go.Proofs.YtbeaohnjifcgaaaDoor.Sx Go.Proofs.YtbeaohnjifcgaaaDoor.Na Go.Proofs.YtbeaohnjifcgaaaDoor.Ba Go.Proofs.YtbeaohnjifcgaaaDoor.Bh Go.Proofs.YtbeaohnjifcgaaaDoor.Da

/-- the library's own number, whatever it is -/
def Mx (w : World) : Prop := ∃ m, w.cell? ⟨0, 0, none⟩ = some (.int .i64 m)
theorem Mx.gb {w w' : World} (h : Mx w) (hg : w.grownBy w' none) : Mx w' := by
  obtain ⟨m, hm⟩ := h
  exact ⟨m, gb_cell hg hm (by simp)⟩
theorem Split_any (s : ByteArray) (w : World) (hs : s.size ≤ 100000) (hm : Mx w) :
    Calls Tryd.prog 98 #[.string s, .string ⟨#[44]⟩] w fun e w' => e = .returned (.slice (some ⟨w.heap.size, 0, none⟩) (Lib.countB s ⟨#[44]⟩ + 1) (Lib.countB s ⟨#[44]⟩ + 1)) ∧ w' = w.alloc (.cells ((Lib.splitB ⟨#[44]⟩ 0 (Lib.countB s ⟨#[44]⟩) s).map Value.string).toArray 9) := by
  obtain ⟨m, hm⟩ := hm
  exact Any.strings_Split Tryd.laysSplit (by kernel_rfl) s ⟨#[44]⟩ m w (by omega) hm (by decide)
theorem CutS_any (s : ByteArray) (w : World) (hs : s.size ≤ 100000) (hm : Mx w) :
    Calls Tryd.prog 99 #[.string s, .string ⟨#[45]⟩] w fun e w' => e = .returned (.tuple #[.string ⟨(Lib.cut s.data.toList [45]).1.toArray⟩, .string ⟨(Lib.cut s.data.toList [45]).2.1.toArray⟩, .bool (Lib.cut s.data.toList [45]).2.2]) ∧ w.grownBy w' none := by
  obtain ⟨m, hm⟩ := hm
  refine (Any.strings_Cut Tryd.laysCut s ⟨#[45]⟩ m w (by omega) hm).mono ?_
  rintro e w' ⟨rfl, n, rfl⟩
  exact ⟨rfl, gb_drew _ _ _⟩
end Go.Proofs.YtbeaohnjifcgaaaDoor.Db
