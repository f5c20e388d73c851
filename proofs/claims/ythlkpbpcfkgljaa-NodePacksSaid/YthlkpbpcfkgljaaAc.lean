/-
  Addresses: the program's familyOf, Valid, ask, pack, Pack.
-/
import Derived.Test.YthlkpbpcfkgljaaAa
import Derived.Test.YthlkpbpcfkgljaaHz
import Derived.Test.YthlkpbpcfkgljaaSx
import Derived.Lib.Hide
import Derived.BigRegion
import Derived.Deep.QuietTactic
import Derived.BigQuiet
import Derived.LoopTactic
namespace Go.Proofs.Ythlkpbpcfkgljaa.Ac
open Go Go.RowKit Go.Proofs.Ythlkpbpcfkgljaa.Hz

/-- an address is valid -/
def okA (f : Int) (ip : ByteArray) (p : Int) : Prop := ((f = 4 ∧ ip.size = 4) ∨ (f = 6 ∧ ip.size = 16)) ∧ 1 ≤ p ∧ p ≤ 65535
instance (f : Int) (ip : ByteArray) (p : Int) : Decidable (okA f ip p) := by unfold okA; infer_instance
/-- the family as a value -/
def fam (f : Int) : Value := if f = 4 then .iface 91 (.agg #[]) else .iface 92 (.agg #[])

set_option maxHeartbeats 400000 in
theorem familyOf_4 (w : World) : Calls Try.prog 59 #[.int .i64 4] w fun e w' => e = .returned (.tuple #[fam 4, .bool true]) ∧ w = w' := by
  rw [show fam 4 = .iface 91 (.agg #[]) from if_pos rfl]
  go_enter Try.func59, Try.ntmps59
  go_wp2
  go_ret2
  exact ⟨rfl, rfl⟩
set_option maxHeartbeats 400000 in
theorem familyOf_6 (w : World) : Calls Try.prog 59 #[.int .i64 6] w fun e w' => e = .returned (.tuple #[fam 6, .bool true]) ∧ w = w' := by
  rw [show fam 6 = .iface 92 (.agg #[]) from if_neg (by decide)]
  go_enter Try.func59, Try.ntmps59
  go_wp2
  go_ret2
  exact ⟨rfl, rfl⟩
set_option maxHeartbeats 400000 in
theorem familyOf_no (f : Int) (h4 : f ≠ 4) (h6 : f ≠ 6) (w : World) : Calls Try.prog 59 #[.int .i64 f] w fun e w' => e = .returned (.tuple #[.nilIface, .bool false]) ∧ w = w' := by
  have e4 : (f == 4) = false := by simpa using h4
  have e6 : (f == 6) = false := by simpa using h6
  go_enter Try.func59, Try.ntmps59
  go_wp2
  go_ret2
  exact ⟨rfl, rfl⟩
set_option maxHeartbeats 400000 in
theorem size4 (v : Value) (w : World) (hv : v = .agg #[]) : Calls Try.prog 81 #[v] w fun e w' => e = .returned (.int .i64 4) ∧ Below w.heap.size w w' := by
  subst hv
  go_enter Try.func81, Try.ntmps81
  go_wp2
  go_ret
  exact ⟨rfl, (Below.refl _ _).alloc (Nat.le_refl _) _⟩
set_option maxHeartbeats 400000 in
theorem size6 (v : Value) (w : World) (hv : v = .agg #[]) : Calls Try.prog 87 #[v] w fun e w' => e = .returned (.int .i64 16) ∧ Below w.heap.size w w' := by
  subst hv
  go_enter Try.func87, Try.ntmps87
  go_wp2
  go_ret
  exact ⟨rfl, (Below.refl _ _).alloc (Nat.le_refl _) _⟩
theorem meth4 (w : World) : (method 208 91 (.agg #[]) "covey/addr.size").run Try.prog w = .ok (81, .agg #[]) w := by kernel_rfl
theorem meth6 (w : World) : (method 208 92 (.agg #[]) "covey/addr.size").run Try.prog w = .ok (87, .agg #[]) w := by kernel_rfl
end Go.Proofs.Ythlkpbpcfkgljaa.Ac
