/-
  queueing, move: a control with one sample.
-/
import Derived.Test.YthjhbceepkoifaaEe
import Derived.Deep.RegionWith
import Derived.RegionTactic
namespace Go.Proofs.Ythjhbceepkoifaa.Ee
open Go Go.RowKit Go.Proofs.Ythjhbceepkoifaa.Ec

theorem blw {w w1 w2 : World} (h : Below w.heap.size w w1) (k : Below w1.heap.size w1 w2) : Below w.heap.size w w2 := h.trans (k.mono h.size)
theorem below_alloc {W w' : World} (o : Obj) (hb : Below (W.alloc o).heap.size (W.alloc o) w') : Below W.heap.size W w' :=
  ((Below.refl _ _).alloc (Nat.le_refl _) o).trans (hb.mono (by simp))

section
variable {w : World} {c : Nat} {now : Int} {hv : Bool} {at' target limit : Int} {g1 g2 cap1 cap2 : Nat} {m d z : Int}

set_option maxRecDepth 100000 in
set_option maxHeartbeats 1000000 in
theorem base_any (hC : Ctl w c now hv at' target limit (.slice (some ⟨g2, 0, none⟩) 1 cap2) (.slice (some ⟨g1, 0, none⟩) 1 cap1)) (hm : w.cell? ⟨g2, 0, none⟩ = some (.int .i64 m)) (hd : w.cell? ⟨g2, 1, none⟩ = some (.int .i64 d)) :
    Calls Try.prog 55 #[.pointer (some ⟨c, 0, none⟩)] w fun e w' => e = .returned (.int .i64 d) ∧ Below w.heap.size w w' := by
  have hc : c < w.heap.size := hC.lt
  have hg : g2 < w.heap.size := World.block_lt_of_cell? _ _ hm
  have hA := (Below.refl w.heap.size w).alloc (Nat.le_refl _) (.cells #[.pointer (some ⟨c, 5, none⟩)] 95)
  have hL := (callsIn_wide (n := 3)).1 (leastb_in Fence.wide 3 trivial trivial rfl (by omega) w.heap.size c 5 g2 cap2 (m, d) (.func 66) (w.alloc (.cells #[.pointer (some ⟨c, 5, none⟩)] 95)) (by simp) (by simp; omega) (by simp; omega) (by simp [go_sem]) ((hA.cell (p := ⟨c, 6, none⟩) hc).trans hC.c6) ((hA.cell (p := ⟨g2, 0, none⟩) hg).trans hm) ((hA.cell (p := ⟨g2, 1, none⟩) hg).trans hd))
  have hfield : ∀ w, (Instr.field 81 (.agg #[.int .i64 m, .int .i64 d]) 1).run Try.prog w = .ok (.int .i64 d) w := fun _ => by kernel_rfl
  have HL := Lib.hid hL
  clear hL hA
  go_enter Try.func55, Try.ntmps55
  go_wp2_with (first | (go_at_call 65; refine HL.out.mono ?_; rintro e w1 ⟨rfl, hb1⟩) | go_in)
  go_ret
  exact ⟨rfl, below_alloc _ hb1⟩

set_option maxRecDepth 100000 in
set_option maxHeartbeats 1000000 in
theorem queueing_0 (hC : Ctl w c now hv at' target limit (.slice (some ⟨g2, 0, none⟩) 1 cap2) (.slice (some ⟨g1, 0, none⟩) 1 cap1)) (hm : w.cell? ⟨g2, 0, none⟩ = some (.int .i64 m)) (hd : w.cell? ⟨g2, 1, none⟩ = some (.int .i64 7)) (hz : w.cell? ⟨g1, 0, none⟩ = some (.int .i64 7)) :
    Calls Try.prog 50 #[.pointer (some ⟨c, 0, none⟩)] w fun e w' => e = .returned (.int .i64 0) ∧ Below w.heap.size w w' := by
  have hc : c < w.heap.size := hC.lt
  have hg : g1 < w.heap.size := World.block_lt_of_cell? _ _ hz
  have hg2 : g2 < w.heap.size := World.block_lt_of_cell? _ _ hm
  have hA := (Below.refl w.heap.size w).alloc (Nat.le_refl _) (.cells #[.pointer (some ⟨c, 7, none⟩)] 85)
  have hL := (callsIn_wide (n := 3)).1 (least_in Fence.wide 3 trivial trivial rfl (by omega) w.heap.size c 7 g1 0 cap1 7 (.func 60) (w.alloc (.cells #[.pointer (some ⟨c, 7, none⟩)] 85)) (by simp) (by simp; omega) (by simp; omega) (by simp [go_sem]) ((hA.cell (p := ⟨c, 8, none⟩) hc).trans hC.c8) ((hA.cell (p := ⟨g1, 0, none⟩) hg).trans hz))
  have HL := Lib.hid hL
  clear hL hA
  go_enter Try.func50, Try.ntmps50
  go_wp2_with (first
    | (go_at_call 63; refine HL.out.mono ?_; rintro e w1 ⟨rfl, hb1⟩)
    | (go_at_call 55; have hb2 := below_alloc _ hb1; refine (base_any (hC.kept (gb_below hb2 none) (by simp)) ((hb2.cell (p := ⟨g2, 0, none⟩) hg2).trans hm) ((hb2.cell (p := ⟨g2, 1, none⟩) hg2).trans hd)).mono ?_; rintro e w2 ⟨rfl, hb3⟩)
    | go_in)
  go_ret
  exact ⟨rfl, blw hb2 hb3⟩

set_option maxRecDepth 100000 in
set_option maxHeartbeats 2000000 in
theorem move_1 (hC : Ctl w c now hv at' 100 3000 (.slice (some ⟨g2, 0, none⟩) 1 cap2) (.slice (some ⟨g1, 0, none⟩) 1 cap1)) (hm : w.cell? ⟨g2, 0, none⟩ = some (.int .i64 m)) (hd : w.cell? ⟨g2, 1, none⟩ = some (.int .i64 7)) (hz : w.cell? ⟨g1, 0, none⟩ = some (.int .i64 7)) :
    Calls Try.prog 47 #[.pointer (some ⟨c, 0, none⟩), .int .i64 3000, .int .i64 3000] w fun e w' => e = .returned (.tuple #[]) ∧ Ctl w' c now hv at' 100 6000 (.slice (some ⟨g2, 0, none⟩) 1 cap2) (.slice (some ⟨g1, 0, none⟩) 1 cap1) ∧ w.grownBy w' (some c) := by
  have hc : c < w.heap.size := hC.lt
  have c3 := hC.c3
  have hQ := fun n => queueing_0 (w := w.drewN n) (show Ctl (w.drewN n) c now hv at' 100 3000 (.slice (some ⟨g2, 0, none⟩) 1 cap2) (.slice (some ⟨g1, 0, none⟩) 1 cap1) from hC) hm hd hz
  have hQ1 : Calls Try.prog 50 #[.pointer (some ⟨c, 0, none⟩)] w.drew fun e w' => e = .returned (.int .i64 0) ∧ Below w.heap.size w.drew w' := hQ 1
  have hw1 : IntKind.i64.wrap (-100) = -100 := by decide
  have hw2 : IntKind.i64.wrap 100 = 100 := by decide
  have hw3 : IntKind.i64.wrap 300000 = 300000 := by decide
  have hw4 : IntKind.i64.wrap 900000000 = 900000000 := by decide
  have hw5 : IntKind.i64.wrap 3000 = 3000 := by decide
  have hw6 : IntKind.i64.wrap 6000 = 6000 := by decide
  have HQ := Lib.hid hQ1
  have HC := Lib.hid hC
  clear hQ hQ1 hC
  go_enter Try.func47, Try.ntmps47
  go_wp2_with fail
  go_region_with (go_at_call 50; refine HQ.out.mono ?_; rintro e w1 ⟨rfl, hb1⟩; have hgb1 := gb_below (a := w.drew) hb1 (none : Option Nat); have hC1 := (show Ctl w.drew c now hv at' 100 3000 (.slice (some ⟨g2, 0, none⟩) 1 cap2) (.slice (some ⟨g1, 0, none⟩) 1 cap1) from HC.out).kept hgb1 (by simp); have d3 := hC1.c3; have d4 := hC1.c4; have f4 := hC1.fz 4)
  all_goals
    go_wp2_with fail
    go_quiet (fail)
    go_wp2
    go_end0
    exact ⟨rfl, (show Ctl (w1.drewN nq) c now hv at' 100 3000 (.slice (some ⟨g2, 0, none⟩) 1 cap2) (.slice (some ⟨g1, 0, none⟩) 1 cap1) from hC1).set4 6000, gb_trans (gb_trans (gb_trans (gb_drew w 1 _) (gb_none hgb1 _)) (gb_drew w1 nq _)) (gb_set _ c 4 _)⟩

end
end Go.Proofs.Ythjhbceepkoifaa.Ee
