/-
  attempt: what it returns if its function returns, and if its function leaves by a panic with an Errno; refuse.
-/
import Derived.Test.YtionmnjcfnmpeaaDoorHf
import Derived.WalkKit
import Derived.WalkSpells
import Derived.WalkLawsBesides
import Derived.Outline
import Derived.Defers
import Derived.Recover
import Derived.Laws.Pointers
namespace Go.Proofs.YtionmnjcfnmpeaaDoor.Hh
open Go Go.RowKit

/-- the world in which attempt's function runs -/
def aw (w : World) : World := (w.alloc (.cells #[.string ⟨#[]⟩] 9)).alloc (.cells #[.int .i64 0] 23)

set_option maxRecDepth 100000 in
set_option maxHeartbeats 400000 in
theorem refuse_no (k : Int) (w : World) : Calls Tryd.prog 114 #[.bool false, .int .i64 k] w fun e w' => e = .returned (.tuple #[]) ∧ w = w' := by
  go_enter Tryd.func114, Tryd.ntmps114
  go_wp2
  go_end0
  exact ⟨rfl, rfl⟩

set_option maxRecDepth 100000 in
set_option maxHeartbeats 400000 in
theorem refuse_yes (k : Int) (w : World) : Calls Tryd.prog 114 #[.bool true, .int .i64 k] w fun e w' => e = .panicked [{ v := .iface 23 (.int .i64 k), recovered := false }] ∧ w = w' := by
  go_enter Tryd.func114, Tryd.ntmps114
  go_wp2
  simp [bodyPost]

end Go.Proofs.YtionmnjcfnmpeaaDoor.Hh
