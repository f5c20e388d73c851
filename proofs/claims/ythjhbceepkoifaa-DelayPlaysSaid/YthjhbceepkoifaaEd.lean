/-
  least over a ring of bases with one element.
-/
import Derived.Test.YthjhbceepkoifaaEc
import Derived.Deep.Upon
namespace Go.Proofs.Ythjhbceepkoifaa.Ec
open Go Go.RowKit Go.Shelf
attribute [local go_sem] Oper.semAt_some

/-- block B is a base in memory -/
def Two (W : World) (B : Nat) (x : Int × Int) : Prop := W.heap[B]? = some (.cells #[.int .i64 x.1, .int .i64 x.2] 81 (0, 0))
theorem Two.lt {W : World} {B : Nat} {x : Int × Int} (h : Two W B x) : B < W.heap.size := (Array.getElem?_eq_some_iff.1 h).1
theorem Two.c0 {W : World} {B : Nat} {x : Int × Int} (h : Two W B x) : W.cell? ⟨B, 0, none⟩ = some (.int .i64 x.1) := by simp [World.cell?, show W.heap[B]? = _ from h]
theorem Two.c1 {W : World} {B : Nat} {x : Int × Int} (h : Two W B x) : W.cell? ⟨B, 1, none⟩ = some (.int .i64 x.2) := by simp [World.cell?, show W.heap[B]? = _ from h]
theorem Two.fz {W : World} {B : Nat} {x : Int × Int} (h : Two W B x) (i : Nat) : W.frozen? ⟨B, i, none⟩ = false := by simp [World.frozen?, show W.heap[B]? = _ from h]
theorem Two.kept {W W' : World} {row : Option Nat} {B : Nat} {x : Int × Int} (h : Two W B x) (hg : W.grownBy W' row) (hne : some B ≠ row) : Two W' B x := (hg.block B h.lt hne).trans h
theorem Two.own {β : Type} (B : Nat) (f : β → Int × Int) : Own (fun s W => Two W B (f s)) := fun s X Y row hs hg hrow =>
  Two.kept hs hg (fun e => by obtain ⟨o, ho, hc⟩ := hrow B e.symm; rw [show X.heap[B]? = _ from hs] at ho; cases ho; cases hc)
theorem Two.alloc {W : World} {B : Nat} {x : Int × Int} (h : Two W B x) (o : Obj) : Two (W.alloc o) B x := h.kept (World.grownBy_alloc W o none) (by simp)
theorem Two.new (W : World) (x : Int × Int) : Two (W.alloc (.cells #[.int .i64 x.1, .int .i64 x.2] 81)) W.heap.size x := World.alloc_heap_new W _

theorem Two.set2 {W : World} {B : Nat} {x : Int × Int} (h : Two W B x) (y : Int × Int) : Two ((W.setCell ⟨B, 0, none⟩ (.int .i64 y.1)).setCell ⟨B, 1, none⟩ (.int .i64 y.2)) B y := by
  unfold Two
  exact heap_setCell_same _ B 1 _ _ _ (heap_setCell_same W B 0 _ _ (.int .i64 y.1) h)
theorem Two.other {W : World} {B : Nat} {x : Int × Int} (h : Two W B x) {B' : Nat} (hne : B ≠ B') (i : Nat) (v : Value) : Two (W.setCell ⟨B', i, none⟩ v) B x :=
  (World.heap_setCells_other W B' i [v] h.lt hne).trans h
theorem boxed_other {W : World} {B B' i : Nat} {t : TypeId} {v : Value} (h : Boxed W B t v) (hne : B ≠ B') (u : Value) : Boxed (W.setCell ⟨B', i, none⟩ u) B t v :=
  (World.heap_setCells_other W B' i [u] h.lt hne).trans h

set_option maxRecDepth 100000 in
set_option maxHeartbeats 2000000 in
/-- what a ring of one base yields -/
theorem all1b_in (F : Fence) (n : Nat) (h7 : F.fn 68) (hro : F.round = none) (hn : 1 ≤ n) (l Bs n₀ cb co b cap : Nat) (z : Int × Int) (hb : b < n₀) (J Jx : List (Int × Int) → World → Prop) (W : World) (hnW : n₀ ≤ W.heap.size) (hJ : AbidesFrom W.heap.size J)
    (hY : ∀ pre x W, J pre W → pre.length < 1 → YieldAt F (n - 1) Try.prog l #[.agg #[.int .i64 x.1, .int .i64 x.2]] W fun e W' =>
      (e = .returned (.bool true) ∧ J (pre ++ [x]) W' ∧ Below n₀ W W') ∨ (e = .returned (.bool false) ∧ Jx (pre ++ [x]) W'))
    (hBs : W.cell? ⟨Bs, 0, none⟩ = some (.pointer (some ⟨cb, co, none⟩))) (hsl : W.cell? ⟨cb, co + 1, none⟩ = some (.slice (some ⟨b, 0, none⟩) 1 cap)) (hc0 : W.cell? ⟨b, 0, none⟩ = some (.int .i64 z.1)) (hc1 : W.cell? ⟨b, 1, none⟩ = some (.int .i64 z.2)) (h0 : J [] W) :
    CallsIn F n Try.prog 68 #[.func (.yield l) #[] #[], .pointer (some ⟨Bs, 0, none⟩)] W fun e W' => (∃ v, e = .returned v) ∧
      ((∃ ys, ys = [z] ∧ J ys W') ∨ (∃ pre, True ∧ Jx pre W')) := by
  refine callsIn_of_wp Try.func68 rfl h7 ?_ hro
  simp only [Try.ntmps68, List.size_toArray, List.length_cons, List.length_nil, Nat.reduceAdd, Nat.reduceSub, Array.replicate_succ, Array.replicate_zero, List.push_toArray, List.append_toArray, List.nil_append, List.cons_append]
  gi_wp2
  gi_loopw [4, 10] (fun _ i wr => ∃ k : Nat, k ≤ 1 ∧ i = .int .i64 k ∧ J (if k = 0 then [] else [z]) wr ∧ Below n₀ W wr)
    (fun _ i _ => 1 - (intOf i).toNat)
  case atStart => exact ⟨0, Nat.zero_le _, rfl, h0, Below.refl _ _⟩
  case round =>
    obtain ⟨k, hk, rfl, hJs, hnx⟩ := hrel
    have d0 : wr.cell? ⟨b, 0, none⟩ = some (.int .i64 z.1) := (hnx.cell (p := ⟨b, 0, none⟩) hb).trans hc0
    have d1 : wr.cell? ⟨b, 1, none⟩ = some (.int .i64 z.2) := (hnx.cell (p := ⟨b, 1, none⟩) hb).trans hc1
    by_cases hlt : k = 0
    · subst hlt
      have hJ1 : J [] (wr.alloc (.cells #[.int .i64 z.1, .int .i64 z.2] 81)) := hJ _ _ _ none hJs (World.grownBy_alloc _ _ _) (fun r e => by cases e)
      obtain ⟨fn, tmps, assign, body, hy, hR⟩ := hY _ z _ hJ1 (by simp)
      gi_wp2
      refine hR.mono ?_
      rintro e W3 (⟨rfl, hJ3, hk3⟩ | ⟨rfl, hJx3⟩)
      · gi_wp2
        go_roundw
        case rel => exact ⟨1, by omega, by simp, by simpa using hJ3, (hnx.alloc (by have := hnx.size; omega) _).trans hk3⟩
        case measure => simp [intOf]
      · gi_wp2
        refine bodyPost_ret (results_none rfl _ _ _) rfl ?_
        exact ⟨⟨_, rfl⟩, .inr ⟨_, trivial, hJx3⟩⟩
    · obtain rfl : k = 1 := by omega
      gi_wp2
      go_end0
      exact ⟨⟨_, rfl⟩, .inl ⟨_, rfl, by simpa using hJs⟩⟩

theorem oneb_stops (F : Fence) (n : Nat) (h7 : F.fn 68) (hro : F.round = none) (hn : 1 ≤ n) (Bs n₀ cb co b cap : Nat) (z : Int × Int) (w : World) (hBs : Bs < w.heap.size) (hcb : cb < w.heap.size) (hn₀ : n₀ ≤ w.heap.size) (hb : b < n₀)
    (hc : w.cell? ⟨Bs, 0, none⟩ = some (.pointer (some ⟨cb, co, none⟩))) (hsl : w.cell? ⟨cb, co + 1, none⟩ = some (.slice (some ⟨b, 0, none⟩) 1 cap)) (hz0 : w.cell? ⟨b, 0, none⟩ = some (.int .i64 z.1)) (hz1 : w.cell? ⟨b, 1, none⟩ = some (.int .i64 z.2)) :
    SeqStopsK F n Try.prog 68 #[.pointer (some ⟨Bs, 0, none⟩)] (fun x : Int × Int => #[.agg #[.int .i64 x.1, .int .i64 x.2]]) (Below n₀) (fun ys => ys = [z]) (fun _ => True) 1 w := fun l J Jx W hW hJ _ hY h0 =>
  all1b_in F n h7 hro hn l Bs n₀ cb co b cap z hb J Jx W (Nat.le_trans hn₀ hW.size) hJ hY ((hW.cell (p := ⟨Bs, 0, none⟩) hBs).trans hc) ((hW.cell (p := ⟨cb, co + 1, none⟩) hcb).trans hsl) ((hW.cell (p := ⟨b, 0, none⟩) (show b < w.heap.size by omega)).trans hz0) ((hW.cell (p := ⟨b, 1, none⟩) (show b < w.heap.size by omega)).trans hz1) h0

set_option maxRecDepth 100000 in
set_option maxHeartbeats 2000000 in
/-- least over a ring of one base -/
theorem leastb_in (F : Fence) (n : Nat) (hL : F.fn 65) (h7 : F.fn 68) (hro : F.round = none) (hn : 3 ≤ n) (Bs cb co b cap : Nat) (z : Int × Int) (g : Fn) (w : World) (hBs : Bs < w.heap.size) (hcb : cb < w.heap.size) (hb : b < w.heap.size)
    (hc : w.cell? ⟨Bs, 0, none⟩ = some (.pointer (some ⟨cb, co, none⟩))) (hsl : w.cell? ⟨cb, co + 1, none⟩ = some (.slice (some ⟨b, 0, none⟩) 1 cap)) (hz0 : w.cell? ⟨b, 0, none⟩ = some (.int .i64 z.1)) (hz1 : w.cell? ⟨b, 1, none⟩ = some (.int .i64 z.2)) :
    CallsIn F n Try.prog 65 #[.func (.func 68) #[] #[.pointer (some ⟨Bs, 0, none⟩)], .func g #[] #[]] w fun e W' => e = .returned (.agg #[.int .i64 z.1, .int .i64 z.2]) ∧ Below w.heap.size w W' := by
  have h1 : 1 ≤ n := by omega
  refine callsIn_of_wp_marks Try.func65 rfl hL ?_ hro
  simp only [Try.ntmps65, List.size_toArray, List.length_cons, List.length_nil, Nat.reduceAdd, Nat.reduceSub, Array.replicate_succ, Array.replicate_zero, List.push_toArray, List.append_toArray, List.nil_append, List.cons_append]
  gi_wp2
  obtain ⟨W0, hW0⟩ : ∃ W0, ((((w.alloc (.cells #[.func g #[] #[]] 94)).alloc (.cells #[.int .i64 0, .int .i64 0] 81)).alloc (.cells #[.int .i64 0, .int .i64 0] 81)).alloc (.cells #[.bool true] 4)) = W0 := ⟨_, rfl⟩
  have hsz : W0.heap.size = w.heap.size + 4 := by rw [← hW0]; simp
  have hB0 : Below w.heap.size w W0 := by rw [← hW0]; exact ((((Below.refl _ w).alloc (Nat.le_refl _) _).alloc (by simp) _).alloc (by simp; omega) _).alloc (by simp; omega) _
  have bR : Two W0 (w.heap.size + 1) (0, 0) := by
    rw [← hW0]; have := ((Two.new (w.alloc (.cells #[.func g #[] #[]] 94)) (0, 0)).alloc (.cells #[.int .i64 0, .int .i64 0] 81)).alloc (.cells #[.bool true] 4); rwa [World.size_alloc] at this
  have bB : Two W0 (w.heap.size + 1 + 1) (0, 0) := by
    rw [← hW0]; have := (Two.new ((w.alloc (.cells #[.func g #[] #[]] 94)).alloc (.cells #[.int .i64 0, .int .i64 0] 81)) (0, 0)).alloc (.cells #[.bool true] 4); rwa [World.size_alloc, World.size_alloc] at this
  have bF : Boxed W0 (w.heap.size + 1 + 1 + 1) 4 (.bool true) := by
    rw [← hW0]; have := Boxed.new (((w.alloc (.cells #[.func g #[] #[]] 94)).alloc (.cells #[.int .i64 0, .int .i64 0] 81)).alloc (.cells #[.int .i64 0, .int .i64 0] 81)) 4 (.bool true); rwa [World.size_alloc, World.size_alloc, World.size_alloc] at this
  rw [hW0]
  refine wpIn_rangeFunc_ownH hro h1 (gf := 68) (lb := #[.pointer (some ⟨Bs, 0, none⟩)]) rfl h7 (enters_of Try.func68 (by kernel_rfl) rfl)
    (oneb_stops F (n - 1) h7 hro (by omega) Bs w.heap.size cb co b cap z W0 (by omega) (by omega) (by omega) hb ((hB0.cell (p := ⟨Bs, 0, none⟩) hBs).trans hc) ((hB0.cell (p := ⟨cb, co + 1, none⟩) hcb).trans hsl) ((hB0.cell (p := ⟨b, 0, none⟩) hb).trans hz0) ((hB0.cell (p := ⟨b, 1, none⟩) hb).trans hz1)) belowK_t (belowK_b (by omega)) (Below.refl _ _) (fun _ => rfl)
    (fun pre W => ((Two W (w.heap.size + 1 + 1) (pre.getLast?.getD (0, 0)) ∧ Boxed W (w.heap.size + 1 + 1 + 1) 4 (.bool pre.isEmpty)) ∧ Two W (w.heap.size + 1) (0, 0)) ∧ Below w.heap.size w W)
    (fun _ _ _ => False)
    (OwnFrom.and (OwnFrom.and (OwnFrom.and (Own.from (Two.own _ _) _) (Own.from (boxed_own _ _ _) _)) (Own.from (Two.own _ (fun _ => (0, 0))) _)) (ownFrom_below (Nat.le_refl _) (by omega)))
    (fun _ _ _ _ _ hs _ _ => hs)
    ⟨⟨⟨bB, bF⟩, bR⟩, hB0⟩
    (fun x a' W => ∃ Bx, w.heap.size + 1 + 1 + 1 < Bx ∧ Two W Bx x ∧ a' = { tmps := #[.func (.func 68) #[] #[.pointer (some ⟨Bs, 0, none⟩)], .func g #[] #[], undef, .pointer (some ⟨w.heap.size, 0, none⟩), .pointer (some ⟨w.heap.size + 1, 0, none⟩), .pointer (some ⟨w.heap.size + 1 + 1, 0, none⟩), .pointer (some ⟨w.heap.size + 1 + 1 + 1, 0, none⟩), .pointer (some ⟨Bx, 0, none⟩),
      .func (.func 68) #[] #[.pointer (some ⟨Bs, 0, none⟩)], .agg #[.int .i64 x.1, .int .i64 x.2], undef, undef, undef, undef, undef, undef, undef, undef, undef], defers := [] })
    (fun x a' _ X Y row hs hg hr => by obtain ⟨Bx, k1, k2, k3⟩ := hs; exact ⟨Bx, k1, Two.own Bx (fun (_ : Unit) => x) () X Y row k2 hg (fun r e => (hr r e).2), k3⟩)
    ?assign ?body ?done ?stop
  case assign =>
    rintro l pre x W K ⟨⟨⟨k1, k2⟩, k3⟩, hB⟩ hK
    gi_wp2
    exact hK _ _ ((KeepsOthers.alloc _ _).from _) ((Below.refl _ W).alloc hB.size _) ⟨⟨⟨k1.alloc _, k2.alloc _⟩, k3.alloc _⟩, hB.alloc hB.size _⟩ ⟨W.heap.size, k2.lt, Two.new W x, rfl⟩
  case body =>
    rintro l pre x a' W hl _ ⟨⟨⟨k1, k2⟩, k3⟩, hB⟩ ⟨Bx, hBx, bX, rfl⟩ hlt
    obtain rfl : pre = [] := List.eq_nil_of_length_eq_zero (by omega)
    simp only [List.getLast?_nil, Option.getD_none, List.isEmpty_nil] at k1 k2
    have x0 := bX.c0
    have x1 := bX.c1
    have e0 := k1.c0
    have e1 := k1.c1
    have g0 := k1.fz 0
    have g1 := k1.fz 1
    have q0 := k2.cell
    have q1 := k2.frozen
    gi_wp2
    refine ⟨fun _ h => (by cases h), ?_⟩
    gi_wp2
    refine ⟨(((KeepsOthers.setCell _ _ _).trans (KeepsOthers.setCell _ _ _)).trans (KeepsOthers.setCell _ _ _)).from _, (((Below.refl w.heap.size W).setCell (p := ⟨w.heap.size + 1 + 1, 0, none⟩) (by simp; omega) _).setCell (p := ⟨w.heap.size + 1 + 1, 1, none⟩) (by simp; omega) _).setCell (p := ⟨w.heap.size + 1 + 1 + 1, 0, none⟩) (by simp; omega) _,
      ⟨⟨(k1.set2 x).other (by omega) _ _, ((boxed_other (boxed_other k2 (by omega) _) (by omega) _).set _)⟩, ((k3.other (by omega) _ _).other (by omega) _ _).other (by omega) _ _⟩, ((hB.setCell (p := ⟨w.heap.size + 1 + 1, 0, none⟩) (by simp; omega) _).setCell (p := ⟨w.heap.size + 1 + 1, 1, none⟩) (by simp; omega) _).setCell (p := ⟨w.heap.size + 1 + 1 + 1, 0, none⟩) (by simp; omega) _⟩
  case done =>
    rintro D ys W hD rfl ⟨⟨⟨k1, k2⟩, k3⟩, hB⟩ hK
    simp only [List.getLast?_singleton, Option.getD_some] at k1
    have e0 := k1.c0
    have e1 := k1.c1
    have r0 := k3.c0
    have r1 := k3.c1
    have s0 := k3.fz 0
    have s1 := k3.fz 1
    gi_wp2
    have hK2 := ((KeepsOthers.setCell W ⟨w.heap.size + 1, 0, none⟩ (.int .i64 z.1)).trans (KeepsOthers.setCell _ ⟨w.heap.size + 1, 1, none⟩ (.int .i64 z.2))).same D _ hK rfl
    have k4 := k3.set2 z
    refine ⟨by simp, .inl ⟨_, _, rfl, run_takeDeferred hK2, ?_⟩⟩
    have k5 : Two (((W.setCell ⟨w.heap.size + 1, 0, none⟩ (.int .i64 z.1)).setCell ⟨w.heap.size + 1, 1, none⟩ (.int .i64 z.2)).putObj D (.deferred none)) (w.heap.size + 1) z := k4.kept (grownBy_putObj' _ D (.deferred none)) (fun e => by have := Option.some.inj e; omega)
    have hbel := ((hB.setCell (p := ⟨w.heap.size + 1, 0, none⟩) (by simp) (.int .i64 z.1)).setCell (p := ⟨w.heap.size + 1, 1, none⟩) (by simp) (.int .i64 z.2))
    exact ⟨_, results_cell_row rfl _ _ (w.heap.size + 1) _ _ _ _ rfl k5 Try.underlying81 rfl (by kernel_rfl), rfl, hbel.trans (belowK_b (w := w) (Nat.le_refl _) _ D _ _ (by omega) hK2 rfl rfl)⟩
  case stop =>
    rintro D c pre W _ _ h _
    exact h.elim

end Go.Proofs.Ythjhbceepkoifaa.Ec
