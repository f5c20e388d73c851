/-
  Addresses: the program's familyOf, Valid, ask, pack, Pack.
-/
import Derived.Test.YtpmmilnoeoapoaaGreatDoorAa
import Derived.Test.YtpmmilnoeoapoaaGreatDoorHz
import Derived.Test.YtpmmilnoeoapoaaGreatDoorSx
import Derived.Lib.Hide
import Derived.BigRegion
import Derived.Deep.QuietTactic
import Derived.BigQuiet
import Derived.LoopTactic
set_option linter.unusedVariables false
namespace Go.Proofs.YtpmmilnoeoapoaaGreatDoor.Ac
open Go Go.RowKit Go.Proofs.YtpmmilnoeoapoaaGreatDoor.Hz

/-- an address is valid -/
def okA (f : Int) (ip : ByteArray) (p : Int) : Prop := ((f = 4 ∧ ip.size = 4) ∨ (f = 6 ∧ ip.size = 16)) ∧ 1 ≤ p ∧ p ≤ 65535
instance (f : Int) (ip : ByteArray) (p : Int) : Decidable (okA f ip p) := by unfold okA; infer_instance
/-- the family as a value -/
def fam (f : Int) : Value := if f = 4 then .iface 108 (.agg #[]) else .iface 109 (.agg #[])

set_option maxHeartbeats 400000 in
theorem familyOf_4 (w : World) : Calls Tryz.prog 77 #[.int .i64 4] w fun e w' => e = .returned (.tuple #[fam 4, .bool true]) ∧ w = w' := by
  rw [show fam 4 = .iface 108 (.agg #[]) from if_pos rfl]
  go_enter Tryz.func77, Tryz.ntmps77
  go_wp2
  go_ret2
  exact ⟨rfl, rfl⟩
set_option maxHeartbeats 400000 in
theorem familyOf_6 (w : World) : Calls Tryz.prog 77 #[.int .i64 6] w fun e w' => e = .returned (.tuple #[fam 6, .bool true]) ∧ w = w' := by
  rw [show fam 6 = .iface 109 (.agg #[]) from if_neg (by decide)]
  go_enter Tryz.func77, Tryz.ntmps77
  go_wp2
  go_ret2
  exact ⟨rfl, rfl⟩
set_option maxHeartbeats 400000 in
theorem familyOf_no (f : Int) (h4 : f ≠ 4) (h6 : f ≠ 6) (w : World) : Calls Tryz.prog 77 #[.int .i64 f] w fun e w' => e = .returned (.tuple #[.nilIface, .bool false]) ∧ w = w' := by
  have e4 : (f == 4) = false := by simpa using h4
  have e6 : (f == 6) = false := by simpa using h6
  go_enter Tryz.func77, Tryz.ntmps77
  go_wp2
  go_ret2
  exact ⟨rfl, rfl⟩
set_option maxHeartbeats 400000 in
theorem size4 (v : Value) (w : World) (hv : v = .agg #[]) : Calls Tryz.prog 179 #[v] w fun e w' => e = .returned (.int .i64 4) ∧ Below w.heap.size w w' := by
  subst hv
  go_enter Tryz.func179, Tryz.ntmps179
  go_wp2
  go_ret
  exact ⟨rfl, (Below.refl _ _).alloc (Nat.le_refl _) _⟩
set_option maxHeartbeats 400000 in
theorem size6 (v : Value) (w : World) (hv : v = .agg #[]) : Calls Tryz.prog 190 #[v] w fun e w' => e = .returned (.int .i64 16) ∧ Below w.heap.size w w' := by
  subst hv
  go_enter Tryz.func190, Tryz.ntmps190
  go_wp2
  go_ret
  exact ⟨rfl, (Below.refl _ _).alloc (Nat.le_refl _) _⟩
theorem meth4 (w : World) : (method 296 108 (.agg #[]) "covey/addr.size").run Tryz.prog w = .ok (179, .agg #[]) w := by kernel_rfl
theorem meth6 (w : World) : (method 296 109 (.agg #[]) "covey/addr.size").run Tryz.prog w = .ok (190, .agg #[]) w := by kernel_rfl
end Go.Proofs.YtpmmilnoeoapoaaGreatDoor.Ac
