/-
  attempt[string]: what it returns if its function returns, and if its function leaves by a panic with an Errno.
-/
import Derived.Test.YtpmmilnoeoapoaaGreatDoorRows
import Derived.Test.YtpmmilnoeoapoaaGreatDoorSx
import Derived.WalkKit
import Derived.WalkSpells
import Derived.WalkLawsBesides
import Derived.Outline
import Derived.Defers
import Derived.Recover
import Derived.Laws.Pointers
set_option linter.unusedVariables false
namespace Go.Proofs.YtpmmilnoeoapoaaGreatDoor.Aa
open Go Go.RowKit Go.Proofs.YtpmmilnoeoapoaaGreatDoor.Sx

set_option maxHeartbeats 800000 in
theorem catch_panicking (b : Nat) (x : ByteArray) (y k : Int) (older : List PanicEntry) (w : World) (hp0 : w.cell? ⟨b, 0, none⟩ = some (.string x)) (hq : w.cell? ⟨b + 1, 0, none⟩ = some (.int .i64 y)) (fp0 : w.frozen? ⟨b, 0, none⟩ = false) (fq : w.frozen? ⟨b + 1, 0, none⟩ = false) :
    CallsD Tryz.prog 80 #[.pointer (some ⟨b, 0, none⟩), .pointer (some ⟨b + 1, 0, none⟩)] (.panicking ({ v := .iface 27 (.int .i64 k), recovered := false } :: older)) w fun e u' w' =>
      e = .returned (.tuple #[]) ∧ u' = .panicking ({ v := .iface 27 (.int .i64 k), recovered := true } :: older) ∧ w' = ((w.setCell ⟨b, 0, none⟩ (.string ⟨#[]⟩)).setCell ⟨b + 1, 0, none⟩ (.int .i64 1)).setCell ⟨b + 1, 0, none⟩ (.int .i64 k) := by
  have hta : ∀ w, (Instr.typeAssert (.iface 27 (.int .i64 k)) 20 27 true).run Tryz.prog w = .ok (.tuple #[.int .i64 k, .bool true]) w := fun _ => by kernel_rfl
  refine callsD_of_wpS Tryz.func80 rfl fun c₀ cs hu => ?_
  apply wpS_seq
  apply wpS_region
  simp [wpOpsS, go_sem, recoverD, hu, Tryz.ntmps80, Exit.thenS]
  refine wpS_of_wp ?_
  have e : (#[Value.pointer (some ⟨b, 0, none⟩), Value.pointer (some ⟨b + 1, 0, none⟩)] ++ ((Array.replicate 15 undef).setIfInBounds 4 (Value.iface 27 (Value.int IntKind.i64 k))).setIfInBounds 0 (Value.iface 27 (Value.int IntKind.i64 k))) = #[.pointer (some ⟨b, 0, none⟩), .pointer (some ⟨b + 1, 0, none⟩), .iface 27 (.int .i64 k), undef, undef, undef, .iface 27 (.int .i64 k), undef, undef, undef, undef, undef, undef, undef, undef, undef, undef] := rfl
  rw [e]
  clear e
  go_wp2
  simp [bodyPostS, results, Tryz.results80]

theorem catch_idle (p q : Addr) (w : World) :
    CallsD Tryz.prog 80 #[.pointer (some p), .pointer (some q)] .returning w fun e u' w' => e = .returned (.tuple #[]) ∧ u' = .returning ∧ w' = w := by
  refine callsD_of_wpS Tryz.func80 rfl fun c₀ cs hu => ?_
  apply wpS_seq
  apply wpS_region
  simp [wpOpsS, go_sem, recoverD, hu, Tryz.ntmps80, Exit.thenS]
  refine wpS_of_wp ?_
  have e : (#[Value.pointer (some p), Value.pointer (some q)] ++ ((Array.replicate 15 undef).setIfInBounds 4 Value.nilIface).setIfInBounds 0 Value.nilIface) = #[.pointer (some p), .pointer (some q), .nilIface, undef, undef, undef, .nilIface, undef, undef, undef, undef, undef, undef, undef, undef, undef, undef] := rfl
  rw [e]
  clear e
  go_wp2
  cases c₀
  simp_all [bodyPostS, results, Tryz.results80]

/-- the world in which attempt's function runs -/
def aw (w : World) : World := (w.alloc (.cells #[.string ⟨#[]⟩] 9)).alloc (.cells #[.int .i64 0] 27)
theorem aw_size (w : World) : (aw w).heap.size = w.heap.size + 2 := by simp [aw]
theorem aw_gb (w : World) : w.grownBy (aw w) none := gb_trans (World.grownBy_alloc _ _ _) (World.grownBy_alloc _ _ _)
theorem aw_b0 (w : World) : (aw w).heap[w.heap.size]? = some (.cells #[.string ⟨#[]⟩] 9) := (Below.heap_alloc _ _ _ (by simp)).trans (World.alloc_heap_new _ _)
theorem aw_b1 (w : World) : (aw w).heap[w.heap.size + 1]? = some (.cells #[.int .i64 0] 27) := by have := World.alloc_heap_new (w.alloc (.cells #[.string ⟨#[]⟩] 9)) (.cells #[.int .i64 0] 27); rwa [World.size_alloc] at this

theorem other (w1 : World) (n b i : Nat) (v : Value) (hb : b = n ∨ b = n + 1) : (w1.setCell ⟨b, i, none⟩ v).heap.size = w1.heap.size ∧ ∀ k, k ≠ n → k ≠ n + 1 → (w1.setCell ⟨b, i, none⟩ v).heap[k]? = w1.heap[k]? :=
  ⟨by simp, fun k h0 h1 => by
    by_cases hk : k < w1.heap.size
    · exact World.heap_setCells_other w1 b i [v] hk (by omega)
    · rw [Array.getElem?_eq_none (by simp; omega), Array.getElem?_eq_none (by omega)]⟩
theorem sta_set {n b i : Nat} {v : Value} {T : World → Prop} (hT : Sta n T) {w1 : World} (h : T w1) (hb : b = n ∨ b = n + 1) : T (w1.setCell ⟨b, i, none⟩ v) :=
  hT _ _ h (other w1 n b i v hb).1 (other w1 n b i v hb).2

def exPost (w : World) (b : Option Nat) (T : ByteArray → World → Prop) (e : Ending) (w' : World) : Prop := ∃ s, e = .returned (.tuple #[.string s, .int .i64 0]) ∧ T s w' ∧ w.grownBy w' b

set_option maxHeartbeats 800000 in
theorem att_ex (K : Nat) (caps : Array Value) (w : World) (b : Option Nat) (T : ByteArray → World → Prop) (hT : ∀ s, Sta w.heap.size (T s)) (hb : ∀ k, b = some k → k < w.heap.size) (hK : ∀ (args : Array Value) (w : World), (callFunc K args).run Tryz.prog w = .ok (.enter K args) w)
    (hf : Calls Tryz.prog K caps (aw w) fun e w1 => ∃ s, e = .returned (.string s) ∧ T s w1 ∧ (aw w).grownBy w1 b) :
    Calls Tryz.prog 42 #[.func (Fn.func K) #[] caps] w fun e w' => ∃ s, e = .returned (.tuple #[.string s, .int .i64 0]) ∧ T s w' ∧ w.grownBy w' b := by
  have hmf : ∀ (fn : Fn) (first cap : Array Value) (w : World), (Instr.makeFunc fn first cap).run Tryz.prog w = .ok (.func fn first cap) w := fun _ _ _ _ => rfl
  refine Calls.mono (R := exPost w b T) ?_ fun _ _ h => h
  go_enter_defers Tryz.func42, Tryz.ntmps42
  go_wp2_with fail
  refine hf.mono ?_
  rintro e w1 ⟨s, rfl, hr, hg⟩
  have k0 := (hg.block w.heap.size (by rw [aw_size]; omega) (fun e => by have := hb _ e.symm; omega)).trans (aw_b0 w)
  have k1 := (hg.block (w.heap.size + 1) (by rw [aw_size]; omega) (fun e => by have := hb _ e.symm; omega)).trans (aw_b1 w)
  have hsz : w.heap.size + 2 ≤ w1.heap.size := by have := hg.size; rw [aw_size] at this; exact this
  have c00 : w1.cell? ⟨w.heap.size, 0, none⟩ = some (.string ⟨#[]⟩) := by simp [World.cell?, k0]
  have f00 : w1.frozen? ⟨w.heap.size, 0, none⟩ = false := by simp [World.frozen?, k0]
  have c1 : w1.cell? ⟨w.heap.size + 1, 0, none⟩ = some (.int .i64 0) := by simp [World.cell?, k1]
  have f1 : w1.frozen? ⟨w.heap.size + 1, 0, none⟩ = false := by simp [World.frozen?, k1]
  go_wp2
  refine leaves_cons (f := 80) (args := #[.pointer (some ⟨w.heap.size, 0, none⟩), .pointer (some ⟨w.heap.size + 1, 0, none⟩)]) (by simp) (by simp [go_sem]) ?_
  refine (catch_idle _ _ _).mono ?_
  rintro e u' w2 ⟨rfl, rfl, rfl⟩
  have hG : w.grownBy ((w1.setCell ⟨w.heap.size, 0, none⟩ (.string s)).setCell ⟨w.heap.size + 1, 0, none⟩ (.int .i64 0)) b := gb_new (gb_new (gb_trans (gb_none (aw_gb w) b) hg) _ _ _ (by omega)) _ _ _ (by omega)
  have hTT : T s ((w1.setCell ⟨w.heap.size, 0, none⟩ (.string s)).setCell ⟨w.heap.size + 1, 0, none⟩ (.int .i64 0)) := sta_set (hT s) (sta_set (hT s) (hr) (by omega)) (by omega)
  simp [Leaves, settle, results, Tryz.results42, go_sem, c00, c1]
  exact ⟨s, rfl, hTT, hG⟩

theorem att_ok (K : Nat) (caps : Array Value) (s : ByteArray) (w : World) (b : Option Nat) (T : World → Prop) (hT : Sta w.heap.size T) (hb : ∀ k, b = some k → k < w.heap.size) (hK : ∀ (args : Array Value) (w : World), (callFunc K args).run Tryz.prog w = .ok (.enter K args) w)
    (hf : Calls Tryz.prog K caps (aw w) fun e w1 => e = .returned (.string s) ∧ T w1 ∧ (aw w).grownBy w1 b) :
    Calls Tryz.prog 42 #[.func (Fn.func K) #[] caps] w fun e w' => e = .returned (.tuple #[.string s, .int .i64 0]) ∧ T w' ∧ w.grownBy w' b :=
  (att_ex K caps w b (fun x w' => x = s ∧ T w') (fun x A B h hs hk => ⟨h.1, hT A B h.2 hs hk⟩) hb hK (hf.mono fun e w1 h => ⟨s, h.1, ⟨rfl, h.2.1⟩, h.2.2⟩)).mono fun e w' ⟨x, he, ⟨hx, ht⟩, hg⟩ => by subst hx; exact ⟨he, ht, hg⟩

set_option maxHeartbeats 800000 in
theorem att_no (K : Nat) (caps : Array Value) (k : Int) (w : World) (b : Option Nat) (T : World → Prop) (hT : Sta w.heap.size T) (hb : ∀ k, b = some k → k < w.heap.size) (hK : ∀ (args : Array Value) (w : World), (callFunc K args).run Tryz.prog w = .ok (.enter K args) w)
    (hf : Calls Tryz.prog K caps (aw w) fun e w1 => e = .panicked [{ v := .iface 27 (.int .i64 k), recovered := false }] ∧ T w1 ∧ (aw w).grownBy w1 b) :
    Calls Tryz.prog 42 #[.func (Fn.func K) #[] caps] w fun e w' => e = .returned (.tuple #[.string ⟨#[]⟩, .int .i64 k]) ∧ T w' ∧ w.grownBy w' b := by
  have hmf : ∀ (fn : Fn) (first cap : Array Value) (w : World), (Instr.makeFunc fn first cap).run Tryz.prog w = .ok (.func fn first cap) w := fun _ _ _ _ => rfl
  go_enter_defers Tryz.func42, Tryz.ntmps42
  go_wp2_with fail
  refine hf.mono ?_
  rintro e w1 ⟨rfl, hr, hg⟩
  have k0 := (hg.block w.heap.size (by rw [aw_size]; omega) (fun e => by have := hb _ e.symm; omega)).trans (aw_b0 w)
  have k1 := (hg.block (w.heap.size + 1) (by rw [aw_size]; omega) (fun e => by have := hb _ e.symm; omega)).trans (aw_b1 w)
  have hsz : w.heap.size + 2 ≤ w1.heap.size := by have := hg.size; rw [aw_size] at this; exact this
  have c00 : w1.cell? ⟨w.heap.size, 0, none⟩ = some (.string ⟨#[]⟩) := by simp [World.cell?, k0]
  have f00 : w1.frozen? ⟨w.heap.size, 0, none⟩ = false := by simp [World.frozen?, k0]
  have c1 : w1.cell? ⟨w.heap.size + 1, 0, none⟩ = some (.int .i64 0) := by simp [World.cell?, k1]
  have f1 : w1.frozen? ⟨w.heap.size + 1, 0, none⟩ = false := by simp [World.frozen?, k1]
  refine leaves_cons (f := 80) (args := #[.pointer (some ⟨w.heap.size, 0, none⟩), .pointer (some ⟨w.heap.size + 1, 0, none⟩)]) (by simp) (by simp [go_sem]) ?_
  refine (catch_panicking _ _ _ k [] _ c00 c1 f00 f1).mono ?_
  rintro e u' w2 ⟨rfl, rfl, rfl⟩
  have r1 : (((w1.setCell ⟨w.heap.size, 0, none⟩ (.string ⟨#[]⟩)).setCell ⟨w.heap.size + 1, 0, none⟩ (.int .i64 1)).setCell ⟨w.heap.size + 1, 0, none⟩ (.int .i64 k)).cell? ⟨w.heap.size + 1, 0, none⟩ = some (.int .i64 k) :=
    World.cell?_setCell_same _ _ _ (World.cell?_setCell_same _ _ _ (u := .int .i64 0) (by simp [go_sem, c1]))
  have hG : w.grownBy (((w1.setCell ⟨w.heap.size, 0, none⟩ (.string ⟨#[]⟩)).setCell ⟨w.heap.size + 1, 0, none⟩ (.int .i64 1)).setCell ⟨w.heap.size + 1, 0, none⟩ (.int .i64 k)) b := gb_new (gb_new (gb_new (gb_trans (gb_none (aw_gb w) b) hg) _ _ _ (by omega)) _ _ _ (by omega)) _ _ _ (by omega)
  have hTT : T (((w1.setCell ⟨w.heap.size, 0, none⟩ (.string ⟨#[]⟩)).setCell ⟨w.heap.size + 1, 0, none⟩ (.int .i64 1)).setCell ⟨w.heap.size + 1, 0, none⟩ (.int .i64 k)) := sta_set hT (sta_set hT (sta_set hT (hr) (by omega)) (by omega)) (by omega)
  simp [Leaves, settle, results, Tryz.results42, go_sem, c00, r1]
  exact ⟨hTT, hG⟩

set_option maxHeartbeats 400000 in
theorem refuse_no (k : Int) (w : World) : Calls Tryz.prog 40 #[.bool false, .int .i64 k] w fun e w' => e = .returned (.tuple #[]) ∧ w = w' := by
  go_enter Tryz.func40, Tryz.ntmps40
  go_wp2
  go_end0
  exact ⟨rfl, rfl⟩
set_option maxHeartbeats 400000 in
theorem refuse_yes (k : Int) (w : World) : Calls Tryz.prog 40 #[.bool true, .int .i64 k] w fun e w' => e = .panicked [{ v := .iface 27 (.int .i64 k), recovered := false }] ∧ w = w' := by
  go_enter Tryz.func40, Tryz.ntmps40
  go_wp2
  simp [bodyPost]

end Go.Proofs.YtpmmilnoeoapoaaGreatDoor.Aa
