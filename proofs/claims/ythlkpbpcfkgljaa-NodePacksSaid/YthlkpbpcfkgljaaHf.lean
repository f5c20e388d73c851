/-
  The laws' own check 'awake'.
-/
import Derived.Test.YthlkpbpcfkgljaaHe
import Derived.WalkKit
import Derived.WalkSpells
import Derived.WalkLawsBesides
import Derived.LoopTactic
import Derived.Outline
import Derived.Deep.QuietTactic
import Derived.BigQuiet
import Derived.BigRegion
import Derived.RegionTactic
import Derived.Deep.RegionWith
import Derived.Lib.Hide
namespace Go.Proofs.Ythlkpbpcfkgljaa.Hh
open Go Go.RowKit



/-- what a row of zero bytes of its own reads as, whatever stands behind it -/
theorem conv_below (W W' : World) (c : Array Value) (xs : List Int) (b l : Nat) (t : TypeId) (hb : b = W.heap.size) (hc : c = (xs.map (Value.int .u8)).toArray) (hl : xs.length = l)
    (h : Below (b + 1) (W.alloc (.cells c t)) W') :
    (convert 58 9 (.slice (some ⟨b, 0, none⟩) l l)).run Try.prog W' = .ok (.string (strOfNums xs)) W' := by
  refine run_convert_bytes_arg (P := Try.prog) _ 58 5 Try.underlying58 Try.underlying5 b 0 l l xs hl (fun i hi => ?_) 9 Try.underlying9
  rw [h.cell (p := ⟨b, 0 + i, none⟩) (by simp)]
  subst hb hc
  rw [World.cell?_alloc_at _ _ _ _ rfl, Nat.zero_add]
  subst hl
  simp [hi, List.getD]

/-- 32 zero bytes in memory -/
def z32 : Array Value := ((List.replicate 32 (0 : Int)).map (Value.int .u8)).toArray
theorem make32 (w : World) : (Instr.makeSlice 58 (.int .i64 32) (.int .i64 32)).run Try.prog w = .ok (.slice (some ⟨w.heap.size, 0, none⟩) 32 32) (w.alloc (.cells z32 5)) := by kernel_rfl
theorem conv32 (W : World) : (convert 58 9 (.slice (some ⟨W.heap.size, 0, none⟩) 32 32)).run Try.prog (W.alloc (.cells z32 5)) = .ok (.string Dg.zero) (W.alloc (.cells z32 5)) :=
  conv_new W z32 (List.replicate 32 0) _ 32 _ rfl rfl rfl

theorem conv32d (W : World) : (convert 58 9 (.slice (some ⟨W.heap.size, 0, none⟩) 32 32)).run Try.prog (W.alloc (.cells z32 5)).drew = .ok (.string Dg.zero) (W.alloc (.cells z32 5)).drew := conv32 W.drew
theorem conv32_below {W W' : World} (h : Below (W.alloc (.cells z32 5)).drew.heap.size (W.alloc (.cells z32 5)).drew W') : (convert 58 9 (.slice (some ⟨W.heap.size, 0, none⟩) 32 32)).run Try.prog W' = .ok (.string Dg.zero) W' :=
  conv_below W W' z32 (List.replicate 32 0) _ 32 _ rfl rfl rfl ((show Below (W.alloc (.cells z32 5)).heap.size (W.alloc (.cells z32 5)) W' from ⟨h.os, h.tape, h.output, h.size, h.block⟩).mono (by simp))

theorem blw {w w1 w2 : World} (h : Below w.heap.size w w1) (k : Below w1.heap.size w1 w2) : Below w.heap.size w w2 := h.trans (k.mono h.size)
theorem blw_alloc {w w1 : World} {o : Obj} (h : Below w.heap.size w w1) : Below w.heap.size w (w1.alloc o) := h.alloc h.size o
theorem blw_drew {w w1 : World} (h : Below w.heap.size w w1) : Below w.heap.size w w1.drew := h.drew

end Go.Proofs.Ythlkpbpcfkgljaa.Hh
