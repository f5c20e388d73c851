/-
  A control in memory; put.
-/
import Derived.Test.YthjhbceepkoifaaEd
import Derived.Test.YthjhbceepkoifaaEa
import Derived.Test.YthjhbceepkoifaaEb
import Derived.Deep.RegionLaw
import Derived.Deep.RegionLawGrows
import Derived.Deep.AppendLies
import Derived.BigRegion
import Derived.LoopTactic
import Derived.Outline
import Derived.Lib.Hide
import Derived.Deep.QuietTactic
import Derived.BigQuiet
namespace Go.Proofs.Ythjhbceepkoifaa.Ee
open Go Go.RowKit Go.Proofs.Ythjhbceepkoifaa.Ec

/-- block c is a control -/
def Ctl (W : World) (c : Nat) (now : Int) (hv : Bool) (at' target limit : Int) (ml fl : Value) : Prop :=
  W.heap[c]? = some (.cells #[.int .i64 now, .bool hv, .int .i64 at', .int .i64 target, .int .i64 limit, .int .i64 10, ml, .int .i64 4, fl] 57 (0, 0))
section
variable {W : World} {c : Nat} {now : Int} {hv : Bool} {at' target limit : Int} {ml fl : Value}
theorem Ctl.lt (h : Ctl W c now hv at' target limit ml fl) : c < W.heap.size := (Array.getElem?_eq_some_iff.1 h).1
theorem Ctl.c0 (h : Ctl W c now hv at' target limit ml fl) : W.cell? ⟨c, 0, none⟩ = some (.int .i64 now) := by simp [World.cell?, show W.heap[c]? = _ from h]
theorem Ctl.c3 (h : Ctl W c now hv at' target limit ml fl) : W.cell? ⟨c, 3, none⟩ = some (.int .i64 target) := by simp [World.cell?, show W.heap[c]? = _ from h]
theorem Ctl.c4 (h : Ctl W c now hv at' target limit ml fl) : W.cell? ⟨c, 4, none⟩ = some (.int .i64 limit) := by simp [World.cell?, show W.heap[c]? = _ from h]
theorem Ctl.c5 (h : Ctl W c now hv at' target limit ml fl) : W.cell? ⟨c, 5, none⟩ = some (.int .i64 10) := by simp [World.cell?, show W.heap[c]? = _ from h]
theorem Ctl.c6 (h : Ctl W c now hv at' target limit ml fl) : W.cell? ⟨c, 6, none⟩ = some ml := by simp [World.cell?, show W.heap[c]? = _ from h]
theorem Ctl.c7 (h : Ctl W c now hv at' target limit ml fl) : W.cell? ⟨c, 7, none⟩ = some (.int .i64 4) := by simp [World.cell?, show W.heap[c]? = _ from h]
theorem Ctl.c8 (h : Ctl W c now hv at' target limit ml fl) : W.cell? ⟨c, 8, none⟩ = some fl := by simp [World.cell?, show W.heap[c]? = _ from h]
theorem Ctl.fz (h : Ctl W c now hv at' target limit ml fl) (i : Nat) : W.frozen? ⟨c, i, none⟩ = false := by simp [World.frozen?, show W.heap[c]? = _ from h]
theorem Ctl.kept {W' : World} {row : Option Nat} (h : Ctl W c now hv at' target limit ml fl) (hg : W.grownBy W' row) (hne : some c ≠ row) : Ctl W' c now hv at' target limit ml fl := (hg.block c h.lt hne).trans h
theorem Ctl.set0 (h : Ctl W c now hv at' target limit ml fl) (x : Int) : Ctl (W.setCell ⟨c, 0, none⟩ (.int .i64 x)) c x hv at' target limit ml fl := heap_setCell_same W c 0 _ _ (.int .i64 x) h
theorem Ctl.set4 (h : Ctl W c now hv at' target limit ml fl) (x : Int) : Ctl (W.setCell ⟨c, 4, none⟩ (.int .i64 x)) c now hv at' target x ml fl := heap_setCell_same W c 4 _ _ (.int .i64 x) h
theorem Ctl.set6 (h : Ctl W c now hv at' target limit ml fl) (x : Value) : Ctl (W.setCell ⟨c, 6, none⟩ x) c now hv at' target limit x fl := heap_setCell_same W c 6 _ _ x h
theorem Ctl.set8 (h : Ctl W c now hv at' target limit ml fl) (x : Value) : Ctl (W.setCell ⟨c, 8, none⟩ x) c now hv at' target limit ml x := heap_setCell_same W c 8 _ _ x h
end

theorem gb_trans {a b w : World} {r : Option Nat} (h : a.grownBy b r) (k : b.grownBy w r) : a.grownBy w r := ⟨k.os.trans h.os, k.tape.trans h.tape, k.output.trans h.output, Nat.le_trans h.size k.size, fun i hi hne => (k.block i (Nat.lt_of_lt_of_le hi h.size) hne).trans (h.block i hi hne)⟩
theorem gb_none {a b : World} (h : a.grownBy b none) (r : Option Nat) : a.grownBy b r := ⟨h.os, h.tape, h.output, h.size, fun i hi _ => h.block i hi (by simp)⟩
theorem gb_below {a b : World} (h : Below a.heap.size a b) (r : Option Nat) : a.grownBy b r := ⟨h.os, h.tape, h.output, h.size, fun i hi _ => h.block i hi⟩
theorem gb_set (w : World) (c i : Nat) (v : Value) : w.grownBy (w.setCell ⟨c, i, none⟩ v) (some c) :=
  ⟨World.os_setCells w c i [v], rfl, World.output_setCells w c i [v], by simp, fun k hk hne => World.heap_setCells_other w c i [v] hk (fun e => hne (by rw [e]))⟩
theorem gb_drew (w : World) (n : Nat) (r : Option Nat) : w.grownBy (w.drewN n) r := ⟨rfl, rfl, rfl, Nat.le_refl _, fun _ _ _ => rfl⟩

set_option maxHeartbeats 1000000 in
theorem put_int (c : Nat) (x now : Int) (hv : Bool) (at' target limit : Int) (ml : Value) (w : World) (hC : Ctl w c now hv at' target limit ml (.slice none 0 0)) :
    Calls Try.prog 43 #[.pointer (some ⟨c, 7, none⟩), .int .i64 x] w fun e w' => e = .returned (.tuple #[]) ∧
      ∃ g cap, Ctl w' c now hv at' target limit ml (.slice (some ⟨g, 0, none⟩) 1 cap) ∧ w'.cell? ⟨g, 0, none⟩ = some (.int .i64 x) ∧ w.heap.size ≤ g ∧ w.grownBy w' (some c) := by
  have hi3 : (Try.prog.info? 3).map (fun i => (i.zero, i.size, i.bytes)) = some (some (.int .i64 0), 1, 8) := by kernel_rfl
  obtain ⟨i0, hi, hz0, hz1, hz2⟩ := info_parts hi3
  have c8 := hC.c8
  go_enter Try.func43, Try.ntmps43
  go_wp2_with (at_builtin; refine wpList_append_lies _ rfl _ _ 51 rfl w.heap.size 3 i0 (.int .i64 0) 1 8 Try.underlying51 hi hz0 hz1 hz2 rfl (by decide) (.slice none 0 0) 0 [] rfl (World.ownsRow_nil _ _ _ _) ⟨w.heap.size, 0, none⟩ 1 1 [.int .i64 x] rfl rfl (World.news_of_block (World.alloc_heap_new w _)) (by simp [Value.oneCell']) (by decide) (by unfold maxLen; omega) (by omega) (by simp) _ rfl ?_; intro g cap w1 hown hgrow hat hlt; have hC1 := (hC.kept (World.grownBy_alloc w (.cells #[.int .i64 x] 3) none) (by simp)).kept hgrow (by simp [Value.ownBlock]); have e8 := hC1.c8; have g8 := hC1.fz 8; have e7 := hC1.c7)
  have hg : w.heap.size ≤ g := by rcases hat with h | h; · simp [Value.ownBlock] at h
                                  · rw [h]; simp
  have hcg : g ≠ c := by have := hC.lt; omega
  have hcell : w1.cell? ⟨g, 0, none⟩ = some (.int .i64 x) := hown.cellAt 0 (by decide)
  have hC2 := hC1.set8 (.slice (some ⟨g, 0, none⟩) 1 cap)
  have k7 := hC2.c7
  have k8 := hC2.c8
  have hgb : w.grownBy (w1.setCell ⟨c, 8, none⟩ (.slice (some ⟨g, 0, none⟩) 1 cap)) (some c) := gb_trans (gb_trans (World.grownBy_alloc w _ _) (gb_none hgrow _)) (gb_set w1 c 8 _)
  have hcell2 : (w1.setCell ⟨c, 8, none⟩ (.slice (some ⟨g, 0, none⟩) 1 cap)).cell? ⟨g, 0, none⟩ = some (.int .i64 x) :=
    (World.cell?_of_block (a := ⟨g, 0, none⟩) (World.heap_setCells_other w1 c 8 [.slice (some ⟨g, 0, none⟩) 1 cap] (World.block_lt_of_cell? _ _ hcell) hcg)).trans hcell
  generalize w1.setCell ⟨c, 8, none⟩ (.slice (some ⟨g, 0, none⟩) 1 cap) = w2 at hC2 k7 k8 hgb hcell2 ⊢
  go_quiet (fail)
  go_wp2
  go_end0
  exact ⟨rfl, g, cap, hC2, hcell2, hg, gb_trans hgb (gb_drew _ _ _)⟩

set_option maxHeartbeats 1000000 in
theorem put_base (c : Nat) (m d now : Int) (hv : Bool) (at' target limit : Int) (fl : Value) (w : World) (hC : Ctl w c now hv at' target limit (.slice none 0 0) fl) :
    Calls Try.prog 59 #[.pointer (some ⟨c, 5, none⟩), .agg #[.int .i64 m, .int .i64 d]] w fun e w' => e = .returned (.tuple #[]) ∧
      ∃ g cap, Ctl w' c now hv at' target limit (.slice (some ⟨g, 0, none⟩) 1 cap) fl ∧ w'.cell? ⟨g, 0, none⟩ = some (.int .i64 m) ∧ w'.cell? ⟨g, 1, none⟩ = some (.int .i64 d) ∧ w.heap.size ≤ g ∧ w.grownBy w' (some c) := by
  have hi3 : (Try.prog.info? 81).map (fun i => (i.zero, i.size, i.bytes)) = some (some (.agg #[.int .i64 0, .int .i64 0]), 2, 16) := by kernel_rfl
  obtain ⟨i0, hi, hz0, hz1, hz2⟩ := info_parts hi3
  obtain ⟨w0, hw0⟩ : ∃ w0, w.alloc (.cells #[.int .i64 m, .int .i64 d] 81) = w0 := ⟨_, rfl⟩
  have hC0 : Ctl w0 c now hv at' target limit (.slice none 0 0) fl := by rw [← hw0]; exact hC.kept (World.grownBy_alloc w _ none) (by simp)
  have e6 := hC0.c6
  have T0 : Two w0 w.heap.size (m, d) := by rw [← hw0]; exact Two.new w (m, d)
  have t0 := T0.c0
  have t1 := T0.c1
  have hsz : w0.heap.size = w.heap.size + 1 := by rw [← hw0]; simp
  have hgb0 : w.grownBy w0 (some c) := by rw [← hw0]; exact World.grownBy_alloc w _ _
  go_enter Try.func59, Try.ntmps59
  go_wp2_with fail
  have HW := Lib.hid hw0
  clear hw0
  have hnews : Hid (∀ j u, ([Value.int .i64 m, Value.int .i64 d] : List Value)[j]? = some u → (w0.alloc (.cells #[.int .i64 m, .int .i64 d] 81)).drew.cell? ((⟨w0.heap.size, 0, none⟩ : Addr).add j) = some u) :=
    Lib.hid (World.news_of_block (w := (w0.alloc (.cells #[.int .i64 m, .int .i64 d] 81)).drew) (World.alloc_heap_new w0 (.cells #[.int .i64 m, .int .i64 d] 81)))
  have hone : Hid (∀ u ∈ ([Value.int .i64 m, Value.int .i64 d] : List Value), u.oneCell' = true) := Lib.hid (by simp [Value.oneCell'])
  have hC1' : Ctl (w0.alloc (.cells #[.int .i64 m, .int .i64 d] 81)) c now hv at' target limit (.slice none 0 0) fl := (hC0.kept (World.grownBy_alloc w0 (.cells #[.int .i64 m, .int .i64 d] 81) none) (by simp))
  have hC1 : Ctl (w0.alloc (.cells #[.int .i64 m, .int .i64 d] 81)).drew c now hv at' target limit (.slice none 0 0) fl := hC1'
  have e6a := hC1'.c6
  rw [hsz] at hnews
  go_region_law (refine step_append_lies _ rfl (.tmp 8) (.tmp 10) 48 rfl w.heap.size 81 i0 (.agg #[.int .i64 0, .int .i64 0]) 2 16 Try.underlying48 hi hz0 hz1 hz2 rfl (by decide) (.slice none 0 0) 0 [] (by simp [Act.eval]) (World.ownsRow_nil _ _ _ _) ⟨w.heap.size + 1, 0, none⟩ 1 1 [.int .i64 m, .int .i64 d] (by simp [Act.eval]) rfl hnews.out hone.out (by decide) (by unfold maxLen; omega) (by omega) (by simp; omega) _ rfl ?_; intro g cap w1 hown hgrow hat hlt; have hC2 := hC1.kept hgrow (by simp [Value.ownBlock]); have e6' := hC2.c6; have g6' := hC2.fz 6)
  all_goals
    have hg : w.heap.size ≤ g := by
      rcases hat with h | h
      · simp [Value.ownBlock] at h
      · have : w.heap.size ≤ w0.heap.size := by omega
        rw [h]; simp; omega
    have hcg : g ≠ c := by have := hC.lt; omega
    have hcell0 : w1.cell? ⟨g, 0, none⟩ = some (.int .i64 m) := hown.cellAt 0 (by decide)
    have hcell1 : w1.cell? ⟨g, 1, none⟩ = some (.int .i64 d) := hown.cellAt 1 (by decide)
    have hC3 := hC2.set6 (.slice (some ⟨g, 0, none⟩) 1 cap)
    have k5 := hC3.c5
    have k6 := hC3.c6
    have hgb1 : w0.grownBy (w0.alloc (.cells #[.int .i64 m, .int .i64 d] 81)).drew (some c) := gb_trans (World.grownBy_alloc w0 _ _) (gb_drew _ 1 _)
    have hgb : w.grownBy (w1.setCell ⟨c, 6, none⟩ (.slice (some ⟨g, 0, none⟩) 1 cap)) (some c) := gb_trans (gb_trans hgb0 (gb_trans hgb1 (gb_none hgrow _))) (gb_set w1 c 6 _)
    have hlt2 := World.block_lt_of_cell? _ _ hcell0
    have hcell2 : (w1.setCell ⟨c, 6, none⟩ (.slice (some ⟨g, 0, none⟩) 1 cap)).cell? ⟨g, 0, none⟩ = some (.int .i64 m) :=
      (World.cell?_of_block (a := ⟨g, 0, none⟩) (World.heap_setCells_other w1 c 6 [.slice (some ⟨g, 0, none⟩) 1 cap] hlt2 hcg)).trans hcell0
    have hcell3 : (w1.setCell ⟨c, 6, none⟩ (.slice (some ⟨g, 0, none⟩) 1 cap)).cell? ⟨g, 1, none⟩ = some (.int .i64 d) :=
      (World.cell?_of_block (a := ⟨g, 1, none⟩) (World.heap_setCells_other w1 c 6 [.slice (some ⟨g, 0, none⟩) 1 cap] hlt2 hcg)).trans hcell1
    generalize w1.setCell ⟨c, 6, none⟩ (.slice (some ⟨g, 0, none⟩) 1 cap) = w2 at hC3 k5 k6 hgb hcell2 hcell3 ⊢
    clear hC1 hC1' hC2 e6 e6a e6' g6' hgb1 hgrow hown hcell0 hcell1 T0 t0 t1 hnews hone
    go_wp2_with fail
    go_quiet (fail)
    go_wp2
    go_end0
    exact ⟨rfl, g, cap, hC3, hcell2, hcell3, hg, gb_trans hgb (gb_drew _ _ _)⟩

end Go.Proofs.Ythjhbceepkoifaa.Ee
