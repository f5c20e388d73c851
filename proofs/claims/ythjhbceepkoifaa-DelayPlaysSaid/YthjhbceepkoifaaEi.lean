/-
  attempt: what its function leaves in memory stays.
-/
import Derived.Test.YthjhbceepkoifaaEa
import Derived.Test.YthjhbceepkoifaaEb
import Derived.WalkKit
import Derived.WalkSpells
import Derived.Outline
import Derived.Defers
import Derived.Recover
namespace Go.Proofs.Ythjhbceepkoifaa
open Go Go.RowKit

namespace Ea
set_option maxHeartbeats 400000 in
theorem attempt_gen (K : Nat) (caps : Array Value) (s : Bool) (w : World) (R : World → Prop) (hK : ∀ (args : Array Value) (w : World), (callFunc K args).run Try.prog w = .ok (.enter K args) w)
    (hf : Calls Try.prog K caps (aw w) fun e w1 => e = .returned (.bool s) ∧ R w1)
    (hR : ∀ w1, R w1 → (∃ u : Bool, w1.cell? ⟨w.heap.size, 0, none⟩ = some (.bool u)) ∧ w1.frozen? ⟨w.heap.size, 0, none⟩ = false ∧ (∃ u : Int, w1.cell? ⟨w.heap.size + 1, 0, none⟩ = some (.int .i64 u)) ∧ w1.frozen? ⟨w.heap.size + 1, 0, none⟩ = false) :
    Calls Try.prog 33 #[.func (Fn.func K) #[] caps] w fun e w' => e = .returned (.tuple #[.bool s, .int .i64 0]) ∧ ∃ w1, R w1 ∧ w' = (w1.setCell ⟨w.heap.size, 0, none⟩ (.bool s)).setCell ⟨w.heap.size + 1, 0, none⟩ (.int .i64 0) := by
  have hmf : ∀ (fn : Fn) (first cap : Array Value) (w : World), (Instr.makeFunc fn first cap).run Try.prog w = .ok (.func fn first cap) w := fun _ _ _ _ => rfl
  go_enter_defers Try.func33, Try.ntmps33
  go_wp2_with fail
  refine hf.mono ?_
  rintro e w1 ⟨rfl, hr⟩
  obtain ⟨⟨u0, c0⟩, f0, ⟨u1, c1⟩, f1⟩ := hR w1 hr
  go_wp2
  refine leaves_cons (f := 58) (args := #[.pointer (some ⟨w.heap.size, 0, none⟩), .pointer (some ⟨w.heap.size + 1, 0, none⟩)]) (by simp) (by simp [go_sem]) ?_
  refine (catch_idle _ _ _).mono ?_
  rintro e u' w2 ⟨rfl, rfl, rfl⟩
  simp [Leaves, settle, results, Try.results33, go_sem, c0, c1]
  exact ⟨w1, hr, rfl⟩
end Ea

namespace Eb
set_option maxHeartbeats 400000 in
theorem attempt_gen (K : Nat) (caps : Array Value) (s : Option Addr) (w : World) (R : World → Prop) (hK : ∀ (args : Array Value) (w : World), (callFunc K args).run Try.prog w = .ok (.enter K args) w)
    (hf : Calls Try.prog K caps (aw w) fun e w1 => e = .returned (.pointer s) ∧ R w1)
    (hR : ∀ w1, R w1 → (∃ u : Option Addr, w1.cell? ⟨w.heap.size, 0, none⟩ = some (.pointer u)) ∧ w1.frozen? ⟨w.heap.size, 0, none⟩ = false ∧ (∃ u : Int, w1.cell? ⟨w.heap.size + 1, 0, none⟩ = some (.int .i64 u)) ∧ w1.frozen? ⟨w.heap.size + 1, 0, none⟩ = false) :
    Calls Try.prog 17 #[.func (Fn.func K) #[] caps] w fun e w' => e = .returned (.tuple #[.pointer s, .int .i64 0]) ∧ ∃ w1, R w1 ∧ w' = (w1.setCell ⟨w.heap.size, 0, none⟩ (.pointer s)).setCell ⟨w.heap.size + 1, 0, none⟩ (.int .i64 0) := by
  have hmf : ∀ (fn : Fn) (first cap : Array Value) (w : World), (Instr.makeFunc fn first cap).run Try.prog w = .ok (.func fn first cap) w := fun _ _ _ _ => rfl
  go_enter_defers Try.func17, Try.ntmps17
  go_wp2_with fail
  refine hf.mono ?_
  rintro e w1 ⟨rfl, hr⟩
  obtain ⟨⟨u0, c0⟩, f0, ⟨u1, c1⟩, f1⟩ := hR w1 hr
  go_wp2
  refine leaves_cons (f := 51) (args := #[.pointer (some ⟨w.heap.size, 0, none⟩), .pointer (some ⟨w.heap.size + 1, 0, none⟩)]) (by simp) (by simp [go_sem]) ?_
  refine (catch_idle _ _ _).mono ?_
  rintro e u' w2 ⟨rfl, rfl, rfl⟩
  simp [Leaves, settle, results, Try.results17, go_sem, c0, c1]
  exact ⟨w1, hr, rfl⟩
end Eb

end Go.Proofs.Ythjhbceepkoifaa
