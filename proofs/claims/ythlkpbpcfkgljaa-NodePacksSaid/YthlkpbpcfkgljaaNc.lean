/-
  attempt: what it returns if its function returns, and if its function leaves by a panic with an Errno; refuse.
-/
import Derived.Test.YthlkpbpcfkgljaaHz
import Derived.WalkKit
import Derived.WalkSpells
import Derived.WalkLawsBesides
import Derived.Outline
import Derived.Defers
import Derived.Recover
import Derived.Laws.Pointers
namespace Go.Proofs.Ythlkpbpcfkgljaa.Nc
open Go Go.RowKit

set_option maxRecDepth 100000 in
set_option maxHeartbeats 400000 in
theorem catch_panicking (p q : Addr) (x : ByteArray) (y k : Int) (older : List PanicEntry) (w : World) (hp : w.cell? p = some (.string x)) (hq : w.cell? q = some (.int .i64 y)) (fp : w.frozen? p = false) (fq : w.frozen? q = false) (hne : p ≠ q) :
    CallsD Try.prog 51 #[.pointer (some p), .pointer (some q)] (.panicking ({ v := .iface 24 (.int .i64 k), recovered := false } :: older)) w fun e u' w' =>
      e = .returned (.tuple #[]) ∧ u' = .panicking ({ v := .iface 24 (.int .i64 k), recovered := true } :: older) ∧ w' = ((w.setCell p (.string ⟨#[]⟩)).setCell q (.int .i64 1)).setCell q (.int .i64 k) := by
  have hta : ∀ w, (Instr.typeAssert (.iface 24 (.int .i64 k)) 20 24 true).run Try.prog w = .ok (.tuple #[.int .i64 k, .bool true]) w := fun _ => by kernel_rfl
  refine callsD_of_wpS Try.func51 rfl fun c₀ cs hu => ?_
  apply wpS_seq
  apply wpS_region
  simp [wpOpsS, go_sem, recoverD, hu, Try.ntmps51, Exit.thenS]
  refine wpS_of_wp ?_
  have e : (#[Value.pointer (some p), Value.pointer (some q)] ++ ((Array.replicate 15 undef).setIfInBounds 4 (Value.iface 24 (Value.int IntKind.i64 k))).setIfInBounds 0 (Value.iface 24 (Value.int IntKind.i64 k))) = #[.pointer (some p), .pointer (some q), .iface 24 (.int .i64 k), undef, undef, undef, .iface 24 (.int .i64 k), undef, undef, undef, undef, undef, undef, undef, undef, undef, undef] := rfl
  rw [e]
  clear e
  go_wp2
  simp [bodyPostS, results, Try.results51]

theorem catch_idle (p q : Addr) (w : World) :
    CallsD Try.prog 51 #[.pointer (some p), .pointer (some q)] .returning w fun e u' w' => e = .returned (.tuple #[]) ∧ u' = .returning ∧ w' = w := by
  refine callsD_of_wpS Try.func51 rfl fun c₀ cs hu => ?_
  apply wpS_seq
  apply wpS_region
  simp [wpOpsS, go_sem, recoverD, hu, Try.ntmps51, Exit.thenS]
  refine wpS_of_wp ?_
  have e : (#[Value.pointer (some p), Value.pointer (some q)] ++ ((Array.replicate 15 undef).setIfInBounds 4 Value.nilIface).setIfInBounds 0 Value.nilIface) = #[.pointer (some p), .pointer (some q), .nilIface, undef, undef, undef, .nilIface, undef, undef, undef, undef, undef, undef, undef, undef, undef, undef] := rfl
  rw [e]
  clear e
  go_wp2
  cases c₀
  simp_all [bodyPostS, results, Try.results51]

/-- the world in which attempt's function runs -/
def aw (w : World) : World := (w.alloc (.cells #[.string ⟨#[]⟩] 9)).alloc (.cells #[.int .i64 0] 24)

set_option maxRecDepth 100000 in
set_option maxHeartbeats 400000 in
theorem attempt_ret (K : Nat) (caps : Array Value) (s : ByteArray) (w : World) (hK : ∀ (args : Array Value) (w : World), (callFunc K args).run Try.prog w = .ok (.enter K args) w)
    (hf : Calls Try.prog K caps (aw w) fun e w' => e = .returned (.string s) ∧ Below (aw w).heap.size (aw w) w') :
    Calls Try.prog 26 #[.func (Fn.func K) #[] caps] w fun e w' => e = .returned (.tuple #[.string s, .int .i64 0]) ∧ Below w.heap.size w w' := by
  have hmf : ∀ (fn : Fn) (first cap : Array Value) (w : World), (Instr.makeFunc fn first cap).run Try.prog w = .ok (.func fn first cap) w := fun _ _ _ _ => rfl
  go_enter_defers Try.func26, Try.ntmps26
  go_wp2_with fail
  refine hf.mono ?_
  rintro e w1 ⟨rfl, hb⟩
  have hs : w.heap.size + 2 ≤ w1.heap.size := by have := hb.size; simp [aw] at this; omega
  have c0 : w1.cell? ⟨w.heap.size, 0, none⟩ = some (.string ⟨#[]⟩) := by rw [hb.cell (by simp [aw]; omega)]; simp [aw, go_sem]
  have f0 : w1.frozen? ⟨w.heap.size, 0, none⟩ = false := by rw [hb.frozen (by simp [aw]; omega)]; simp [aw, go_sem]
  have c1 : w1.cell? ⟨w.heap.size + 1, 0, none⟩ = some (.int .i64 0) := by rw [hb.cell (by simp [aw])]; simp [aw, go_sem]
  have f1 : w1.frozen? ⟨w.heap.size + 1, 0, none⟩ = false := by rw [hb.frozen (by simp [aw])]; simp [aw, go_sem]
  go_wp2
  refine leaves_cons (f := 51) (args := #[.pointer (some ⟨w.heap.size, 0, none⟩), .pointer (some ⟨w.heap.size + 1, 0, none⟩)]) (by simp) (by simp [go_sem]) ?_
  refine (catch_idle _ _ _).mono ?_
  rintro e u' w2 ⟨rfl, rfl, rfl⟩
  have hB : Below w.heap.size w ((w1.setCell ⟨w.heap.size, 0, none⟩ (.string s)).setCell ⟨w.heap.size + 1, 0, none⟩ (.int .i64 0)) :=
    (((((Below.refl _ w).alloc (Nat.le_refl _) _).alloc (by simp) _).trans (hb.mono (by simp [aw]; omega))).setCell (Nat.le_refl _) _).setCell (by simp) _
  simp [Leaves, settle, results, Try.results26, go_sem, c0, c1]
  exact hB

set_option maxRecDepth 100000 in
set_option maxHeartbeats 400000 in
theorem attempt_err (K : Nat) (caps : Array Value) (k : Int) (w : World) (hK : ∀ (args : Array Value) (w : World), (callFunc K args).run Try.prog w = .ok (.enter K args) w)
    (hf : Calls Try.prog K caps (aw w) fun e w' => e = .panicked [{ v := .iface 24 (.int .i64 k), recovered := false }] ∧ Below (aw w).heap.size (aw w) w') :
    Calls Try.prog 26 #[.func (Fn.func K) #[] caps] w fun e w' => e = .returned (.tuple #[.string ⟨#[]⟩, .int .i64 k]) ∧ Below w.heap.size w w' := by
  have hmf : ∀ (fn : Fn) (first cap : Array Value) (w : World), (Instr.makeFunc fn first cap).run Try.prog w = .ok (.func fn first cap) w := fun _ _ _ _ => rfl
  go_enter_defers Try.func26, Try.ntmps26
  go_wp2_with fail
  refine hf.mono ?_
  rintro e w1 ⟨rfl, hb⟩
  have hs : w.heap.size + 2 ≤ w1.heap.size := by have := hb.size; simp [aw] at this; omega
  have c0 : w1.cell? ⟨w.heap.size, 0, none⟩ = some (.string ⟨#[]⟩) := by rw [hb.cell (by simp [aw]; omega)]; simp [aw, go_sem]
  have f0 : w1.frozen? ⟨w.heap.size, 0, none⟩ = false := by rw [hb.frozen (by simp [aw]; omega)]; simp [aw, go_sem]
  have c1 : w1.cell? ⟨w.heap.size + 1, 0, none⟩ = some (.int .i64 0) := by rw [hb.cell (by simp [aw])]; simp [aw, go_sem]
  have f1 : w1.frozen? ⟨w.heap.size + 1, 0, none⟩ = false := by rw [hb.frozen (by simp [aw])]; simp [aw, go_sem]
  refine leaves_cons (f := 51) (args := #[.pointer (some ⟨w.heap.size, 0, none⟩), .pointer (some ⟨w.heap.size + 1, 0, none⟩)]) (by simp) (by simp [go_sem]) ?_
  refine (catch_panicking _ _ _ _ k [] _ c0 c1 f0 f1 (by simp)).mono ?_
  rintro e u' w2 ⟨rfl, rfl, rfl⟩
  have hB : Below w.heap.size w (((w1.setCell ⟨w.heap.size, 0, none⟩ (.string ⟨#[]⟩)).setCell ⟨w.heap.size + 1, 0, none⟩ (.int .i64 1)).setCell ⟨w.heap.size + 1, 0, none⟩ (.int .i64 k)) :=
    ((((((Below.refl _ w).alloc (Nat.le_refl _) _).alloc (by simp) _).trans (hb.mono (by simp [aw]; omega))).setCell (Nat.le_refl _) _).setCell (by simp) _).setCell (by simp) _
  have r1 : (((w1.setCell ⟨w.heap.size, 0, none⟩ (.string ⟨#[]⟩)).setCell ⟨w.heap.size + 1, 0, none⟩ (.int .i64 1)).setCell ⟨w.heap.size + 1, 0, none⟩ (.int .i64 k)).cell? ⟨w.heap.size + 1, 0, none⟩ = some (.int .i64 k) :=
    World.cell?_setCell_same _ _ _ (World.cell?_setCell_same _ _ _ (u := .int .i64 0) (by simp [go_sem, c1]))
  have r0 : (((w1.setCell ⟨w.heap.size, 0, none⟩ (.string ⟨#[]⟩)).setCell ⟨w.heap.size + 1, 0, none⟩ (.int .i64 1)).setCell ⟨w.heap.size + 1, 0, none⟩ (.int .i64 k)).cell? ⟨w.heap.size, 0, none⟩ = some (.string ⟨#[]⟩) := by
    simp [go_sem, c0]
  simp [Leaves, settle, results, Try.results26, go_sem, c0, r1]
  exact hB

set_option maxRecDepth 100000 in
set_option maxHeartbeats 400000 in
theorem attempt_gen (K : Nat) (caps : Array Value) (s : ByteArray) (w : World) (R : World → Prop) (hK : ∀ (args : Array Value) (w : World), (callFunc K args).run Try.prog w = .ok (.enter K args) w)
    (hf : Calls Try.prog K caps (aw w) fun e w1 => e = .returned (.string s) ∧ R w1)
    (hR : ∀ w1, R w1 → (∃ u : Value, w1.cell? ⟨w.heap.size, 0, none⟩ = some u) ∧ w1.frozen? ⟨w.heap.size, 0, none⟩ = false ∧ (∃ u : Int, w1.cell? ⟨w.heap.size + 1, 0, none⟩ = some (.int .i64 u)) ∧ w1.frozen? ⟨w.heap.size + 1, 0, none⟩ = false) :
    Calls Try.prog 26 #[.func (Fn.func K) #[] caps] w fun e w' => e = .returned (.tuple #[.string s, .int .i64 0]) ∧ ∃ w1, R w1 ∧ w' = (w1.setCell ⟨w.heap.size, 0, none⟩ (.string s)).setCell ⟨w.heap.size + 1, 0, none⟩ (.int .i64 0) := by
  have hmf : ∀ (fn : Fn) (first cap : Array Value) (w : World), (Instr.makeFunc fn first cap).run Try.prog w = .ok (.func fn first cap) w := fun _ _ _ _ => rfl
  go_enter_defers Try.func26, Try.ntmps26
  go_wp2_with fail
  refine hf.mono ?_
  rintro e w1 ⟨rfl, hr⟩
  obtain ⟨⟨u0, c0⟩, f0, ⟨u1, c1⟩, f1⟩ := hR w1 hr
  go_wp2
  refine leaves_cons (f := 51) (args := #[.pointer (some ⟨w.heap.size, 0, none⟩), .pointer (some ⟨w.heap.size + 1, 0, none⟩)]) (by simp) (by simp [go_sem]) ?_
  refine (catch_idle _ _ _).mono ?_
  rintro e u' w2 ⟨rfl, rfl, rfl⟩
  simp [Leaves, settle, results, Try.results26, go_sem, c0, c1]
  exact ⟨w1, hr, rfl⟩

set_option maxRecDepth 100000 in
set_option maxHeartbeats 400000 in
theorem refuse_no (k : Int) (w : World) : Calls Try.prog 16 #[.bool false, .int .i64 k] w fun e w' => e = .returned (.tuple #[]) ∧ w = w' := by
  go_enter Try.func16, Try.ntmps16
  go_wp2
  go_end0
  exact ⟨rfl, rfl⟩

set_option maxRecDepth 100000 in
set_option maxHeartbeats 400000 in
theorem refuse_yes (k : Int) (w : World) : Calls Try.prog 16 #[.bool true, .int .i64 k] w fun e w' => e = .panicked [{ v := .iface 24 (.int .i64 k), recovered := false }] ∧ w = w' := by
  go_enter Try.func16, Try.ntmps16
  go_wp2
  simp [bodyPost]

end Go.Proofs.Ythlkpbpcfkgljaa.Nc
