/-
  attempt[covey/api.Addr]: what it returns if its function returns, and if its function leaves by a panic with an Errno.
-/
import Derived.Test.YtpmmilnoeoapoaaGreatDoorRows
import Derived.Test.YtpmmilnoeoapoaaGreatDoorSx
import Derived.WalkKit
import Derived.WalkSpells
import Derived.WalkLawsBesides
import Derived.Outline
import Derived.Defers
import Derived.Recover
import Derived.Laws.Pointers
set_option linter.unusedVariables false
namespace Go.Proofs.YtpmmilnoeoapoaaGreatDoor.Ab
open Go Go.RowKit Go.Proofs.YtpmmilnoeoapoaaGreatDoor.Sx

set_option maxHeartbeats 800000 in
theorem catch_panicking (b : Nat) (x0 : Int) (x1 : ByteArray) (x2 : Int) (y k : Int) (older : List PanicEntry) (w : World) (hp0 : w.cell? ⟨b, 0, none⟩ = some (.int .i64 x0)) (hp1 : w.cell? ⟨b, 1, none⟩ = some (.string x1)) (hp2 : w.cell? ⟨b, 2, none⟩ = some (.int .i64 x2)) (hq : w.cell? ⟨b + 1, 0, none⟩ = some (.int .i64 y)) (fp0 : w.frozen? ⟨b, 0, none⟩ = false) (fp1 : w.frozen? ⟨b, 1, none⟩ = false) (fp2 : w.frozen? ⟨b, 2, none⟩ = false) (fq : w.frozen? ⟨b + 1, 0, none⟩ = false) :
    CallsD Tryz.prog 76 #[.pointer (some ⟨b, 0, none⟩), .pointer (some ⟨b + 1, 0, none⟩)] (.panicking ({ v := .iface 27 (.int .i64 k), recovered := false } :: older)) w fun e u' w' =>
      e = .returned (.tuple #[]) ∧ u' = .panicking ({ v := .iface 27 (.int .i64 k), recovered := true } :: older) ∧ w' = (((((w.alloc (.cells #[.int .i64 0, .string ⟨#[]⟩, .int .i64 0] 26)).setCell ⟨b, 0, none⟩ (.int .i64 0)).setCell ⟨b, 1, none⟩ (.string ⟨#[]⟩)).setCell ⟨b, 2, none⟩ (.int .i64 0)).setCell ⟨b + 1, 0, none⟩ (.int .i64 1)).setCell ⟨b + 1, 0, none⟩ (.int .i64 k) := by
  have hta : ∀ w, (Instr.typeAssert (.iface 27 (.int .i64 k)) 20 27 true).run Tryz.prog w = .ok (.tuple #[.int .i64 k, .bool true]) w := fun _ => by kernel_rfl
  refine callsD_of_wpS Tryz.func76 rfl fun c₀ cs hu => ?_
  apply wpS_seq
  apply wpS_region
  simp [wpOpsS, go_sem, recoverD, hu, Tryz.ntmps76, Exit.thenS]
  refine wpS_of_wp ?_
  have e : (#[Value.pointer (some ⟨b, 0, none⟩), Value.pointer (some ⟨b + 1, 0, none⟩)] ++ ((Array.replicate 15 undef).setIfInBounds 4 (Value.iface 27 (Value.int IntKind.i64 k))).setIfInBounds 0 (Value.iface 27 (Value.int IntKind.i64 k))) = #[.pointer (some ⟨b, 0, none⟩), .pointer (some ⟨b + 1, 0, none⟩), .iface 27 (.int .i64 k), undef, undef, undef, .iface 27 (.int .i64 k), undef, undef, undef, undef, undef, undef, undef, undef, undef, undef] := rfl
  rw [e]
  clear e
  have ca0 : (w.alloc (.cells #[.int .i64 0, .string ⟨#[]⟩, .int .i64 0] 26)).cell? ⟨b, 0, none⟩ = some (.int .i64 x0) := gb_cell (gb_alloc w _ none) hp0 (by simp)
  have fa0 : (w.alloc (.cells #[.int .i64 0, .string ⟨#[]⟩, .int .i64 0] 26)).frozen? ⟨b, 0, none⟩ = false := gb_frozen (gb_alloc w _ none) hp0 fp0 (by simp)
  have ca1 : (w.alloc (.cells #[.int .i64 0, .string ⟨#[]⟩, .int .i64 0] 26)).cell? ⟨b, 1, none⟩ = some (.string x1) := gb_cell (gb_alloc w _ none) hp1 (by simp)
  have fa1 : (w.alloc (.cells #[.int .i64 0, .string ⟨#[]⟩, .int .i64 0] 26)).frozen? ⟨b, 1, none⟩ = false := gb_frozen (gb_alloc w _ none) hp1 fp1 (by simp)
  have ca2 : (w.alloc (.cells #[.int .i64 0, .string ⟨#[]⟩, .int .i64 0] 26)).cell? ⟨b, 2, none⟩ = some (.int .i64 x2) := gb_cell (gb_alloc w _ none) hp2 (by simp)
  have fa2 : (w.alloc (.cells #[.int .i64 0, .string ⟨#[]⟩, .int .i64 0] 26)).frozen? ⟨b, 2, none⟩ = false := gb_frozen (gb_alloc w _ none) hp2 fp2 (by simp)
  have ca3 : (w.alloc (.cells #[.int .i64 0, .string ⟨#[]⟩, .int .i64 0] 26)).cell? ⟨b + 1, 0, none⟩ = some (.int .i64 y) := gb_cell (gb_alloc w _ none) hq (by simp)
  have fa3 : (w.alloc (.cells #[.int .i64 0, .string ⟨#[]⟩, .int .i64 0] 26)).frozen? ⟨b + 1, 0, none⟩ = false := gb_frozen (gb_alloc w _ none) hq fq (by simp)
  go_wp2
  simp [bodyPostS, results, Tryz.results76]

theorem catch_idle (p q : Addr) (w : World) :
    CallsD Tryz.prog 76 #[.pointer (some p), .pointer (some q)] .returning w fun e u' w' => e = .returned (.tuple #[]) ∧ u' = .returning ∧ w' = w := by
  refine callsD_of_wpS Tryz.func76 rfl fun c₀ cs hu => ?_
  apply wpS_seq
  apply wpS_region
  simp [wpOpsS, go_sem, recoverD, hu, Tryz.ntmps76, Exit.thenS]
  refine wpS_of_wp ?_
  have e : (#[Value.pointer (some p), Value.pointer (some q)] ++ ((Array.replicate 15 undef).setIfInBounds 4 Value.nilIface).setIfInBounds 0 Value.nilIface) = #[.pointer (some p), .pointer (some q), .nilIface, undef, undef, undef, .nilIface, undef, undef, undef, undef, undef, undef, undef, undef, undef, undef] := rfl
  rw [e]
  clear e
  go_wp2
  cases c₀
  simp_all [bodyPostS, results, Tryz.results76]

/-- the world in which attempt's function runs -/
def aw (w : World) : World := (w.alloc (.cells #[.int .i64 0, .string ⟨#[]⟩, .int .i64 0] 26)).alloc (.cells #[.int .i64 0] 27)
theorem aw_size (w : World) : (aw w).heap.size = w.heap.size + 2 := by simp [aw]
theorem aw_gb (w : World) : w.grownBy (aw w) none := gb_trans (World.grownBy_alloc _ _ _) (World.grownBy_alloc _ _ _)
theorem aw_b0 (w : World) : (aw w).heap[w.heap.size]? = some (.cells #[.int .i64 0, .string ⟨#[]⟩, .int .i64 0] 26) := (Below.heap_alloc _ _ _ (by simp)).trans (World.alloc_heap_new _ _)
theorem aw_b1 (w : World) : (aw w).heap[w.heap.size + 1]? = some (.cells #[.int .i64 0] 27) := by have := World.alloc_heap_new (w.alloc (.cells #[.int .i64 0, .string ⟨#[]⟩, .int .i64 0] 26)) (.cells #[.int .i64 0] 27); rwa [World.size_alloc] at this

theorem other (w1 : World) (n b i : Nat) (v : Value) (hb : b = n ∨ b = n + 1) : (w1.setCell ⟨b, i, none⟩ v).heap.size = w1.heap.size ∧ ∀ k, k ≠ n → k ≠ n + 1 → (w1.setCell ⟨b, i, none⟩ v).heap[k]? = w1.heap[k]? :=
  ⟨by simp, fun k h0 h1 => by
    by_cases hk : k < w1.heap.size
    · exact World.heap_setCells_other w1 b i [v] hk (by omega)
    · rw [Array.getElem?_eq_none (by simp; omega), Array.getElem?_eq_none (by omega)]⟩
theorem sta_set {n b i : Nat} {v : Value} {T : World → Prop} (hT : Sta n T) {w1 : World} (h : T w1) (hb : b = n ∨ b = n + 1) : T (w1.setCell ⟨b, i, none⟩ v) :=
  hT _ _ h (other w1 n b i v hb).1 (other w1 n b i v hb).2

def exPost (w : World) (b : Option Nat) (T : Int → ByteArray → Int → World → Prop) (e : Ending) (w' : World) : Prop := ∃ s t u, e = .returned (.tuple #[.agg #[.int .i64 s, .string t, .int .i64 u], .int .i64 0]) ∧ T s t u w' ∧ w.grownBy w' b

set_option maxHeartbeats 800000 in
theorem att_ex (K : Nat) (caps : Array Value) (w : World) (b : Option Nat) (T : Int → ByteArray → Int → World → Prop) (hT : ∀ s t u, Sta w.heap.size (T s t u)) (hb : ∀ k, b = some k → k < w.heap.size) (hK : ∀ (args : Array Value) (w : World), (callFunc K args).run Tryz.prog w = .ok (.enter K args) w)
    (hf : Calls Tryz.prog K caps (aw w) fun e w1 => ∃ s t u, e = .returned (.agg #[.int .i64 s, .string t, .int .i64 u]) ∧ T s t u w1 ∧ (aw w).grownBy w1 b) :
    Calls Tryz.prog 33 #[.func (Fn.func K) #[] caps] w fun e w' => ∃ s t u, e = .returned (.tuple #[.agg #[.int .i64 s, .string t, .int .i64 u], .int .i64 0]) ∧ T s t u w' ∧ w.grownBy w' b := by
  have hmf : ∀ (fn : Fn) (first cap : Array Value) (w : World), (Instr.makeFunc fn first cap).run Tryz.prog w = .ok (.func fn first cap) w := fun _ _ _ _ => rfl
  refine Calls.mono (R := exPost w b T) ?_ fun _ _ h => h
  go_enter_defers Tryz.func33, Tryz.ntmps33
  go_wp2_with fail
  refine hf.mono ?_
  rintro e w1 ⟨s, t, u, rfl, hr, hg⟩
  have k0 := (hg.block w.heap.size (by rw [aw_size]; omega) (fun e => by have := hb _ e.symm; omega)).trans (aw_b0 w)
  have k1 := (hg.block (w.heap.size + 1) (by rw [aw_size]; omega) (fun e => by have := hb _ e.symm; omega)).trans (aw_b1 w)
  have hsz : w.heap.size + 2 ≤ w1.heap.size := by have := hg.size; rw [aw_size] at this; exact this
  have c00 : w1.cell? ⟨w.heap.size, 0, none⟩ = some (.int .i64 0) := by simp [World.cell?, k0]
  have f00 : w1.frozen? ⟨w.heap.size, 0, none⟩ = false := by simp [World.frozen?, k0]
  have c01 : w1.cell? ⟨w.heap.size, 1, none⟩ = some (.string ⟨#[]⟩) := by simp [World.cell?, k0]
  have f01 : w1.frozen? ⟨w.heap.size, 1, none⟩ = false := by simp [World.frozen?, k0]
  have c02 : w1.cell? ⟨w.heap.size, 2, none⟩ = some (.int .i64 0) := by simp [World.cell?, k0]
  have f02 : w1.frozen? ⟨w.heap.size, 2, none⟩ = false := by simp [World.frozen?, k0]
  have c1 : w1.cell? ⟨w.heap.size + 1, 0, none⟩ = some (.int .i64 0) := by simp [World.cell?, k1]
  have f1 : w1.frozen? ⟨w.heap.size + 1, 0, none⟩ = false := by simp [World.frozen?, k1]
  go_wp2
  refine leaves_cons (f := 76) (args := #[.pointer (some ⟨w.heap.size, 0, none⟩), .pointer (some ⟨w.heap.size + 1, 0, none⟩)]) (by simp) (by simp [go_sem]) ?_
  refine (catch_idle _ _ _).mono ?_
  rintro e u' w2 ⟨rfl, rfl, rfl⟩
  have hG : w.grownBy ((((w1.setCell ⟨w.heap.size, 0, none⟩ (.int .i64 s)).setCell ⟨w.heap.size, 1, none⟩ (.string t)).setCell ⟨w.heap.size, 2, none⟩ (.int .i64 u)).setCell ⟨w.heap.size + 1, 0, none⟩ (.int .i64 0)) b := gb_new (gb_new (gb_new (gb_new (gb_trans (gb_none (aw_gb w) b) hg) _ _ _ (by omega)) _ _ _ (by omega)) _ _ _ (by omega)) _ _ _ (by omega)
  have hTT : T s t u ((((w1.setCell ⟨w.heap.size, 0, none⟩ (.int .i64 s)).setCell ⟨w.heap.size, 1, none⟩ (.string t)).setCell ⟨w.heap.size, 2, none⟩ (.int .i64 u)).setCell ⟨w.heap.size + 1, 0, none⟩ (.int .i64 0)) := sta_set (hT s t u) (sta_set (hT s t u) (sta_set (hT s t u) (sta_set (hT s t u) (hr) (by omega)) (by omega)) (by omega)) (by omega)
  simp [Leaves, settle, results, Tryz.results33, go_sem, c00, c01, c02, c1]
  exact ⟨s, t, u, rfl, hTT, hG⟩

set_option maxHeartbeats 800000 in
theorem att_no (K : Nat) (caps : Array Value) (k : Int) (w : World) (b : Option Nat) (T : World → Prop) (hT : Sta w.heap.size T) (hTa : ∀ A o, T A → T (World.alloc A o)) (hb : ∀ k, b = some k → k < w.heap.size) (hK : ∀ (args : Array Value) (w : World), (callFunc K args).run Tryz.prog w = .ok (.enter K args) w)
    (hf : Calls Tryz.prog K caps (aw w) fun e w1 => e = .panicked [{ v := .iface 27 (.int .i64 k), recovered := false }] ∧ T w1 ∧ (aw w).grownBy w1 b) :
    Calls Tryz.prog 33 #[.func (Fn.func K) #[] caps] w fun e w' => e = .returned (.tuple #[.agg #[.int .i64 0, .string ⟨#[]⟩, .int .i64 0], .int .i64 k]) ∧ T w' ∧ w.grownBy w' b := by
  have hmf : ∀ (fn : Fn) (first cap : Array Value) (w : World), (Instr.makeFunc fn first cap).run Tryz.prog w = .ok (.func fn first cap) w := fun _ _ _ _ => rfl
  go_enter_defers Tryz.func33, Tryz.ntmps33
  go_wp2_with fail
  refine hf.mono ?_
  rintro e w1 ⟨rfl, hr, hg⟩
  have k0 := (hg.block w.heap.size (by rw [aw_size]; omega) (fun e => by have := hb _ e.symm; omega)).trans (aw_b0 w)
  have k1 := (hg.block (w.heap.size + 1) (by rw [aw_size]; omega) (fun e => by have := hb _ e.symm; omega)).trans (aw_b1 w)
  have hsz : w.heap.size + 2 ≤ w1.heap.size := by have := hg.size; rw [aw_size] at this; exact this
  have c00 : w1.cell? ⟨w.heap.size, 0, none⟩ = some (.int .i64 0) := by simp [World.cell?, k0]
  have f00 : w1.frozen? ⟨w.heap.size, 0, none⟩ = false := by simp [World.frozen?, k0]
  have c01 : w1.cell? ⟨w.heap.size, 1, none⟩ = some (.string ⟨#[]⟩) := by simp [World.cell?, k0]
  have f01 : w1.frozen? ⟨w.heap.size, 1, none⟩ = false := by simp [World.frozen?, k0]
  have c02 : w1.cell? ⟨w.heap.size, 2, none⟩ = some (.int .i64 0) := by simp [World.cell?, k0]
  have f02 : w1.frozen? ⟨w.heap.size, 2, none⟩ = false := by simp [World.frozen?, k0]
  have c1 : w1.cell? ⟨w.heap.size + 1, 0, none⟩ = some (.int .i64 0) := by simp [World.cell?, k1]
  have f1 : w1.frozen? ⟨w.heap.size + 1, 0, none⟩ = false := by simp [World.frozen?, k1]
  refine leaves_cons (f := 76) (args := #[.pointer (some ⟨w.heap.size, 0, none⟩), .pointer (some ⟨w.heap.size + 1, 0, none⟩)]) (by simp) (by simp [go_sem]) ?_
  refine (catch_panicking _ _ _ _ _ k [] _ c00 c01 c02 c1 f00 f01 f02 f1).mono ?_
  rintro e u' w2 ⟨rfl, rfl, rfl⟩
  have yc00 := gb_cell (gb_alloc w1 (.cells #[.int .i64 0, .string ⟨#[]⟩, .int .i64 0] 26) none) c00 (by simp)
  have yc01 := gb_cell (gb_alloc w1 (.cells #[.int .i64 0, .string ⟨#[]⟩, .int .i64 0] 26) none) c01 (by simp)
  have yc02 := gb_cell (gb_alloc w1 (.cells #[.int .i64 0, .string ⟨#[]⟩, .int .i64 0] 26) none) c02 (by simp)
  have yc1 := gb_cell (gb_alloc w1 (.cells #[.int .i64 0, .string ⟨#[]⟩, .int .i64 0] 26) none) c1 (by simp)
  have yr : T (w1.alloc (.cells #[.int .i64 0, .string ⟨#[]⟩, .int .i64 0] 26)) := hTa _ _ hr
  have yg := gb_trans hg (gb_alloc w1 (.cells #[.int .i64 0, .string ⟨#[]⟩, .int .i64 0] 26) b)
  generalize w1.alloc (.cells #[.int .i64 0, .string ⟨#[]⟩, .int .i64 0] 26) = wz at yc00 yc01 yc02 yc1 yr yg ⊢
  have r1 : (((((wz.setCell ⟨w.heap.size, 0, none⟩ (.int .i64 0)).setCell ⟨w.heap.size, 1, none⟩ (.string ⟨#[]⟩)).setCell ⟨w.heap.size, 2, none⟩ (.int .i64 0)).setCell ⟨w.heap.size + 1, 0, none⟩ (.int .i64 1)).setCell ⟨w.heap.size + 1, 0, none⟩ (.int .i64 k)).cell? ⟨w.heap.size + 1, 0, none⟩ = some (.int .i64 k) :=
    World.cell?_setCell_same _ _ _ (World.cell?_setCell_same _ _ _ (u := .int .i64 0) (by simp [go_sem, yc1]))
  have hG : w.grownBy (((((wz.setCell ⟨w.heap.size, 0, none⟩ (.int .i64 0)).setCell ⟨w.heap.size, 1, none⟩ (.string ⟨#[]⟩)).setCell ⟨w.heap.size, 2, none⟩ (.int .i64 0)).setCell ⟨w.heap.size + 1, 0, none⟩ (.int .i64 1)).setCell ⟨w.heap.size + 1, 0, none⟩ (.int .i64 k)) b := gb_new (gb_new (gb_new (gb_new (gb_new (gb_trans (gb_none (aw_gb w) b) yg) _ _ _ (by omega)) _ _ _ (by omega)) _ _ _ (by omega)) _ _ _ (by omega)) _ _ _ (by omega)
  have hTT : T (((((wz.setCell ⟨w.heap.size, 0, none⟩ (.int .i64 0)).setCell ⟨w.heap.size, 1, none⟩ (.string ⟨#[]⟩)).setCell ⟨w.heap.size, 2, none⟩ (.int .i64 0)).setCell ⟨w.heap.size + 1, 0, none⟩ (.int .i64 1)).setCell ⟨w.heap.size + 1, 0, none⟩ (.int .i64 k)) := sta_set hT (sta_set hT (sta_set hT (sta_set hT (sta_set hT (yr) (by omega)) (by omega)) (by omega)) (by omega)) (by omega)
  simp [Leaves, settle, results, Tryz.results33, go_sem, yc00, yc01, yc02, r1]
  exact ⟨hTT, hG⟩

end Go.Proofs.YtpmmilnoeoapoaaGreatDoor.Ab
