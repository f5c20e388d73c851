/-
  Blocks of bytes of the call's own (for node).
-/
import Derived.Test.YtpmmilnoeoapoaaGreatDoorHz
import Derived.Test.YtpmmilnoeoapoaaGreatDoorNa
import Derived.Test.YtpmmilnoeoapoaaGreatDoorHb
import Derived.WalkKit
import Derived.WalkSpells
import Derived.WalkLawsBesides
import Derived.LoopTactic
import Derived.Outline
import Derived.BigRegion
import Derived.RegionTactic
import Derived.Deep.RegionWith
import Derived.Lib.Hide
set_option linter.unusedVariables false
namespace Go.Proofs.YtpmmilnoeoapoaaGreatDoor.Nb
open Go Go.RowKit Go.Proofs.YtpmmilnoeoapoaaGreatDoor.Hz Go.Proofs.YtpmmilnoeoapoaaGreatDoor.Na

/-- bytes as cells -/
def bytesI (xs : List Int) : Array Value := (xs.map (Value.int .u8)).toArray
/-- block g holds just these bytes -/
def Bk (w : World) (g : Nat) (xs : List Int) : Prop := ∃ t, w.heap[g]? = some (.cells (bytesI xs) t (0, 0))

theorem Bk.free {w : World} {g : Nat} {xs : List Int} (H : Bk w g xs) (i : Nat) : w.frozen? ⟨g, i, none⟩ = false := by
  obtain ⟨t, H⟩ := H; simp [World.frozen?, H]
theorem Bk.cell {w : World} {g : Nat} {xs : List Int} (H : Bk w g xs) (i : Nat) (h : i < xs.length) : w.cell? ⟨g, i, none⟩ = some (.int .u8 (xs.getD i 0)) := by
  obtain ⟨t, H⟩ := H
  rw [cell_of_row _ _ _ _ _ _ H]
  simp [bytesI, h, List.getD]
theorem Bk.lt {w : World} {g : Nat} {xs : List Int} (H : Bk w g xs) : g < w.heap.size := by obtain ⟨t, H⟩ := H; exact lt_of_block H
theorem Bk.set {w : World} {g : Nat} {xs : List Int} (H : Bk w g xs) (i : Nat) (v : Int) : Bk (w.setCell ⟨g, i, none⟩ (.int .u8 v)) g (xs.set i v) := by
  obtain ⟨t, H⟩ := H
  refine ⟨t, ?_⟩
  rw [Go.Proofs.YtpmmilnoeoapoaaGreatDoor.Hh.heap_setCell_same H]
  congr 2
  unfold bytesI
  rw [List.setIfInBounds_toArray, List.map_set]
theorem Bk.drew {w : World} {g : Nat} {xs : List Int} (H : Bk w g xs) : Bk w.drew g xs := H
theorem Bk.below {w w' : World} {g B : Nat} {xs : List Int} (H : Bk w g xs) (hb : Below B w w') (hB : g < B) : Bk w' g xs := by
  obtain ⟨t, H⟩ := H
  exact ⟨t, by rw [hb.block g hB]; exact H⟩
theorem Bk.new (w : World) (xs : List Int) (t : TypeId) : Bk (w.alloc (.cells (bytesI xs) t)) w.heap.size xs := ⟨t, heap_alloc_new w _⟩
theorem Bk.conv {w : World} {g : Nat} {xs : List Int} (H : Bk w g xs) (l cap : Nat) (hl : xs.length = l) :
    (convert 66 9 (.slice (some ⟨g, 0, none⟩) l cap)).run Tryz.prog w = .ok (.string (strOfNums xs)) w :=
  run_convert_bytes_arg (P := Tryz.prog) _ 66 5 Tryz.underlying66 Tryz.underlying5 g 0 l cap xs hl (fun i hi => by rw [Nat.zero_add]; exact H.cell i (by omega)) 9 Tryz.underlying9

theorem madeU8 (n : Nat) : madeCells (Value.int .u8 0).cells n = bytesI (List.replicate n 0) := by
  apply Array.ext
  · simp [madeCells, bytesI]
  · intro i h1 h2
    simp [madeCells, bytesI, Value.cells, Nat.mod_one]

theorem makeN (n : Nat) (w : World) (hn : n ≤ 281474976710656) : (Instr.makeSlice 66 (.int .i64 (n : Int)) (.int .i64 (n : Int))).run Tryz.prog w = .ok (.slice (some ⟨w.heap.size, 0, none⟩) n n) (w.alloc (.cells (bytesI (List.replicate n 0)) 5)) := by
  have hi3 : (Tryz.prog.info? 5).map (fun i => (i.zero, i.size, i.bytes)) = some (some (.int .u8 0), 1, 1) := by kernel_rfl
  obtain ⟨i0, hi, hz0, hz1, hz2⟩ := info_parts hi3
  rw [run_make (P := Tryz.prog) w 66 5 i0 (.int .u8 0) Tryz.underlying66 hi hz0 .i64 .i64 n n (by omega) (Int.le_refl _) (by rw [hz2]; omega) (by omega)]
  rw [hz1, Int.toNat_natCast, Nat.mul_one, madeU8]

theorem set_step (xs : List Int) (n k : Nat) (v : Int) (hn : xs.length = n) (hk : k < n) (hv : xs.getD k 0 = v) :
    (xs.take k ++ List.replicate (n - k) 0).set k v = xs.take (k + 1) ++ List.replicate (n - (k + 1)) 0 := by
  have h1 : (xs.take k).length = k := by rw [List.length_take]; omega
  rw [List.set_append_right _ _ (by omega), h1, Nat.sub_self, show n - k = (n - (k + 1)) + 1 by omega, List.replicate_succ, List.set_cons_zero,
    List.take_succ_eq_append_getElem (by omega), List.append_assoc]
  simp [List.getD, show k < xs.length by omega] at hv
  rw [hv]; rfl

end Go.Proofs.YtpmmilnoeoapoaaGreatDoor.Nb
