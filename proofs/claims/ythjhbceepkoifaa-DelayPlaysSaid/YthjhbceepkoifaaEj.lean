/-
  The sanity check of layer 26: New, Sample, Limit.
-/
import Derived.Test.YthjhbceepkoifaaEh
import Derived.Test.YthjhbceepkoifaaEi
namespace Go.Proofs.Ythjhbceepkoifaa.Ee
open Go Go.RowKit Go.Proofs.Ythjhbceepkoifaa.Ec

set_option maxHeartbeats 1000000 in
theorem NewF (pt : Nat) (w : World) (ht : w.cell? ⟨pt, 0, none⟩ = some (.int .i64 100)) :
    Calls Try.prog 18 #[.pointer (some ⟨pt, 0, none⟩)] w fun e w1 => e = .returned (.pointer (some ⟨w.heap.size, 0, none⟩)) ∧
      Ctl w1 w.heap.size 0 false 0 100 3000 (.slice none 0 0) (.slice none 0 0) ∧ Below w.heap.size w w1 := by
  go_enter Try.func18, Try.ntmps18
  go_wp2_with (first
    | (go_at_call 20; refine (within_t 100 1 1000 (by decide) (by decide) _).mono ?_; rintro e w1 ⟨rfl, rfl⟩)
    | (go_at_call 19; refine (refuse_no _ _).mono ?_; rintro e w1 ⟨rfl, rfl⟩))
  go_ret
  exact ⟨rfl, World.alloc_heap_new _ _, (Below.refl _ _).alloc (Nat.le_refl _) _⟩

theorem enterNew (args : Array Value) (w : World) : (callFunc 18 args).run Try.prog w = .ok (.enter 18 args) w := by kernel_rfl
theorem enterSample (args : Array Value) (w : World) : (callFunc 40 args).run Try.prog w = .ok (.enter 40 args) w := by kernel_rfl

set_option maxHeartbeats 1000000 in
theorem New_100 (w : World) :
    Calls Try.prog 8 #[.int .i64 100] w fun e w' => e = .returned (.tuple #[.pointer (some ⟨w.heap.size + 3, 0, none⟩), .int .i64 0]) ∧
      Ctl w' (w.heap.size + 3) 0 false 0 100 3000 (.slice none 0 0) (.slice none 0 0) ∧ Below w.heap.size w w' := by
  have hmf : ∀ (fn : Fn) (first cap : Array Value) (w : World), (Instr.makeFunc fn first cap).run Try.prog w = .ok (.func fn first cap) w := fun _ _ _ _ => rfl
  have hsz : (Eb.aw (w.alloc (.cells #[.int .i64 100] 3))).heap.size = w.heap.size + 3 := by simp [Eb.aw]
  have hF := NewF w.heap.size (Eb.aw (w.alloc (.cells #[.int .i64 100] 3))) (by simp [Eb.aw, go_sem])
  rw [hsz] at hF
  have hA := Eb.attempt_gen 18 #[.pointer (some ⟨w.heap.size, 0, none⟩)] (some ⟨w.heap.size + 3, 0, none⟩) (w.alloc (.cells #[.int .i64 100] 3))
    (fun w1 => Ctl w1 (w.heap.size + 3) 0 false 0 100 3000 (.slice none 0 0) (.slice none 0 0) ∧ Below (w.heap.size + 3) (Eb.aw (w.alloc (.cells #[.int .i64 100] 3))) w1) enterNew hF
    (fun w1 h => by
      have e1 := h.2.cell (p := ⟨w.heap.size + 1, 0, none⟩) (by simp)
      have e2 := h.2.cell (p := ⟨w.heap.size + 2, 0, none⟩) (by simp)
      have e3 := h.2.frozen (p := ⟨w.heap.size + 1, 0, none⟩) (by simp)
      have e4 := h.2.frozen (p := ⟨w.heap.size + 2, 0, none⟩) (by simp)
      simp only [World.size_alloc]
      exact ⟨⟨none, e1.trans (by simp [Eb.aw, go_sem])⟩, e3.trans (by simp [Eb.aw, go_sem]), ⟨0, e2.trans (by simp [Eb.aw, go_sem])⟩, e4.trans (by simp [Eb.aw, go_sem])⟩)
  have HA := Lib.hid hA
  clear hA hF
  go_enter Try.func8, Try.ntmps8
  go_wp2_with fail
  refine HA.out.mono ?_
  rintro e w2 ⟨rfl, w1, ⟨hC, hB⟩, rfl⟩
  go_wp2
  go_ret2
  refine ⟨rfl, ?_, ?_⟩
  · exact (hC.kept (gb_set w1 (w.heap.size + 1) 0 _) (by simp)).kept (gb_set _ (w.heap.size + 1 + 1) 0 _) (by simp)
  · have h0 : Below w.heap.size w (Eb.aw (w.alloc (.cells #[.int .i64 100] 3))) := (((Below.refl _ w).alloc (Nat.le_refl _) _).alloc (by simp) _).alloc (by simp; omega) _
    exact ((h0.trans (hB.mono (by omega))).setCell (p := ⟨w.heap.size + 1, 0, none⟩) (by simp) _).setCell (p := ⟨w.heap.size + 1 + 1, 0, none⟩) (by simp; omega) _

set_option maxRecDepth 100000 in
set_option maxHeartbeats 1000000 in
theorem Sample_1 (c : Nat) (w : World) (hC : Ctl w c 0 false 0 100 3000 (.slice none 0 0) (.slice none 0 0)) :
    Calls Try.prog 15 #[.pointer (some ⟨c, 0, none⟩), .int .i64 0, .int .i64 3000, .int .i64 7, .int .i64 3000] w fun e w' => e = .returned (.int .i64 0) ∧
      w'.cell? ⟨c, 4, none⟩ = some (.int .i64 6000) ∧ w.grownBy w' (some c) := by
  have hmf : ∀ (fn : Fn) (first cap : Array Value) (w : World), (Instr.makeFunc fn first cap).run Try.prog w = .ok (.func fn first cap) w := fun _ _ _ _ => rfl
  have hlt := hC.lt
  obtain ⟨wA, hwA⟩ : ∃ wA, ((((w.alloc (.cells #[.pointer (some ⟨c, 0, none⟩)] 25)).alloc (.cells #[.int .i64 0] 3)).alloc (.cells #[.int .i64 3000] 3)).alloc (.cells #[.int .i64 7] 3)).alloc (.cells #[.int .i64 3000] 3) = wA := ⟨_, rfl⟩
  have hsz : wA.heap.size = w.heap.size + 5 := by rw [← hwA]; simp
  have hgA : w.grownBy wA none := by
    rw [← hwA]; exact gb_trans (gb_trans (gb_trans (gb_trans (World.grownBy_alloc _ _ _) (World.grownBy_alloc _ _ _)) (World.grownBy_alloc _ _ _)) (World.grownBy_alloc _ _ _)) (World.grownBy_alloc _ _ _)
  have hgW : wA.grownBy (Ea.aw wA) none := by unfold Ea.aw; exact gb_trans (World.grownBy_alloc _ _ _) (World.grownBy_alloc _ _ _)
  have hB : Bxs wA c w.heap.size (w.heap.size + 1) (w.heap.size + 2) (w.heap.size + 3) (w.heap.size + 4) := by
    rw [← hwA]
    exact ⟨by simp [go_sem], by simp [go_sem], by simp [go_sem], by simp [go_sem], by simp [go_sem], by omega, by omega, by omega, by omega, by omega⟩
  have hB' : Bxs (Ea.aw wA) c w.heap.size (w.heap.size + 1) (w.heap.size + 2) (w.heap.size + 3) (w.heap.size + 4) := hB.kept (gb_none hgW _)
  have hC' : Ctl (Ea.aw wA) c 0 false 0 100 3000 (.slice none 0 0) (.slice none 0 0) := (hC.kept hgA (by simp)).kept hgW (by simp)
  have hF := sampleF hC' hB'
  have hA := Ea.attempt_gen 40 #[.pointer (some ⟨w.heap.size, 0, none⟩), .pointer (some ⟨w.heap.size + 1, 0, none⟩), .pointer (some ⟨w.heap.size + 2, 0, none⟩), .pointer (some ⟨w.heap.size + 3, 0, none⟩), .pointer (some ⟨w.heap.size + 4, 0, none⟩)] true wA
    (fun w1 => w1.cell? ⟨c, 4, none⟩ = some (.int .i64 6000) ∧ (Ea.aw wA).grownBy w1 (some c)) enterSample hF
    (fun w1 h => by
      have hb1 : (Ea.aw wA).heap[wA.heap.size]? = some (.cells #[.bool false] 4) := by unfold Ea.aw; exact (Below.heap_alloc _ _ _ (by simp)).trans (World.alloc_heap_new _ _)
      have hb2 : (Ea.aw wA).heap[wA.heap.size + 1]? = some (.cells #[.int .i64 0] 26) := by unfold Ea.aw; have := World.alloc_heap_new (wA.alloc (.cells #[.bool false] 4)) (.cells #[.int .i64 0] 26); rwa [World.size_alloc] at this
      have k1 := (h.2.block wA.heap.size (by simp [Ea.aw]; omega) (fun e => by have := Option.some.inj e; omega)).trans hb1
      have k2 := (h.2.block (wA.heap.size + 1) (by simp [Ea.aw]) (fun e => by have := Option.some.inj e; omega)).trans hb2
      exact ⟨⟨false, by simp [World.cell?, k1]⟩, by simp [World.frozen?, k1], ⟨0, by simp [World.cell?, k2]⟩, by simp [World.frozen?, k2]⟩)
  have HA := Lib.hid hA
  have HW := Lib.hid hwA
  have HG := Lib.hid hgA
  have HG2 := Lib.hid hgW
  have HZ := Lib.hid hsz
  clear hA hF hC' hB' hB hgA hgW hsz
  go_enter Try.func15, Try.ntmps15
  go_wp2_with fail
  refine HA.out.mono ?_
  rintro e w2 ⟨rfl, w1, ⟨h6, hg⟩, rfl⟩
  go_wp2
  go_ret
  have hsz := HZ.out
  refine ⟨rfl, ?_, ?_⟩
  · have e1 : ((w1.setCell ⟨wA.heap.size, 0, none⟩ (.bool true)).setCell ⟨wA.heap.size + 1, 0, none⟩ (.int .i64 0)).cell? ⟨c, 4, none⟩ = w1.cell? ⟨c, 4, none⟩ := by
      have k1 := World.cell?_of_block (a := ⟨c, 4, none⟩) (World.heap_setCells_other w1 wA.heap.size 0 [.bool true] (World.block_lt_of_cell? _ _ h6) (by show c ≠ _; omega))
      have h7 : (w1.setCells wA.heap.size 0 [.bool true]).cell? ⟨c, 4, none⟩ = some (.int .i64 6000) := k1.trans h6
      exact (World.cell?_of_block (a := ⟨c, 4, none⟩) (World.heap_setCells_other (w1.setCells wA.heap.size 0 [.bool true]) (wA.heap.size + 1) 0 [.int .i64 0] (World.block_lt_of_cell? _ _ h7) (by show c ≠ _; omega))).trans k1
    exact e1.trans h6
  · have g1 := gb_trans (gb_trans (gb_none HG.out (some c)) (gb_none HG2.out (some c))) hg
    refine ⟨?_, ?_, ?_, ?_, fun k hk hne => ?_⟩
    · exact (World.os_setCells (w1.setCells wA.heap.size 0 [.bool true]) (wA.heap.size + 1) 0 [.int .i64 0]).trans ((World.os_setCells w1 wA.heap.size 0 [.bool true]).trans g1.os)
    · exact g1.tape
    · exact (World.output_setCells (w1.setCells wA.heap.size 0 [.bool true]) (wA.heap.size + 1) 0 [.int .i64 0]).trans ((World.output_setCells w1 wA.heap.size 0 [.bool true]).trans g1.output)
    · simp; exact g1.size
    · have hk1 : k < w1.heap.size := Nat.lt_of_lt_of_le hk g1.size
      exact ((World.heap_setCells_other (w1.setCells wA.heap.size 0 [.bool true]) (wA.heap.size + 1) 0 [.int .i64 0] (by show k < (w1.setCell _ _).heap.size; simp; exact hk1) (by omega)).trans (World.heap_setCells_other w1 wA.heap.size 0 [.bool true] hk1 (by omega))).trans (g1.block k hk hne)

set_option maxHeartbeats 1000000 in
theorem awake_any (w : World) :
    Calls Try.prog 7 #[] w fun e w' => e = .returned (.bool true) ∧ Below w.heap.size w w' := by
  go_enter Try.func7, Try.ntmps7
  go_wp2_with fail
  refine (New_100 w).mono ?_
  rintro e w1 ⟨rfl, hC, hb1⟩
  have HC := Lib.hid hC
  clear hC
  go_wp2_with fail
  refine (Sample_1 _ w1 HC.out).mono ?_
  rintro e w2 ⟨rfl, h6, hg⟩
  have HB : Below w.heap.size w w2 := hb1.trans ⟨hg.os, hg.tape, hg.output, hg.size, fun k hk => hg.block k (Nat.lt_of_lt_of_le hk hb1.size) (fun e => by have := Option.some.inj e; omega)⟩
  clear hg
  go_wp2
  go_ret
  exact ⟨rfl, HB⟩

end Go.Proofs.Ythjhbceepkoifaa.Ee
