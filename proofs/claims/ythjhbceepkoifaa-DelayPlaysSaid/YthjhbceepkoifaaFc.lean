/-
  least over a ring of bases of any fill.
-/
import Derived.Test.YthjhbceepkoifaaFb
namespace Go.Proofs.Ythjhbceepkoifaa.Fc
open Go Go.RowKit Go.Shelf Go.Proofs.Ythjhbceepkoifaa.Ec Go.Proofs.Ythjhbceepkoifaa.Ee Go.Proofs.Ythjhbceepkoifaa.Rg Go.Proofs.Ythjhbceepkoifaa.Fa Go.Proofs.Ythjhbceepkoifaa.Fb
attribute [local go_sem] Oper.semAt_some

/-- a base is less than another by its delay -/
def lsb (a b : Int × Int) : Bool := ls a.2 b.2
def mnb (o : Option (Int × Int)) (x : Int × Int) : Option (Int × Int) := match o with | none => some x | some b => some (if lsb x b then x else b)
def lstb (zs : List (Int × Int)) : Option (Int × Int) := zs.foldl mnb none
theorem lstb_snoc (zs : List (Int × Int)) (x : Int × Int) : lstb (zs ++ [x]) = mnb (lstb zs) x := by simp [lstb]
theorem foldb_none : ∀ (zs : List (Int × Int)) (o : Option (Int × Int)), (zs.foldl mnb o).isNone = (o.isNone && zs.isEmpty)
  | [], o => by simp
  | x :: r, o => by rw [List.foldl_cons, foldb_none r]; cases o <;> simp [mnb]
theorem lstb_some (zs : List (Int × Int)) : (lstb zs).isNone = zs.isEmpty := by unfold lstb; rw [foldb_none]; rfl

set_option maxHeartbeats 400000 in
theorem baseLess (a b : Int × Int) (w : World) : Calls Try.prog 66 #[.agg #[.int .i64 a.1, .int .i64 a.2], .agg #[.int .i64 b.1, .int .i64 b.2]] w fun e w' => e = .returned (.bool (lsb a b)) ∧ Below w.heap.size w w' ∧ w.grownBy w' none := by
  go_enter Try.func66, Try.ntmps66
  go_wp2_with (go_at_call 60; refine (less_all _ _ _).mono ?_; rintro e w1 ⟨rfl, rfl⟩)
  go_ret
  exact ⟨rfl, ((Below.refl _ w).alloc (Nat.le_refl _) _).alloc (by simp) _, gb_trans (World.grownBy_alloc w _ _) (World.grownBy_alloc _ _ _)⟩

set_option maxRecDepth 100000 in
set_option maxHeartbeats 2000000 in
/-- what a ring of bases yields -/
theorem all1b_any (F : Fence) (n : Nat) (h7 : F.fn 68) (hro : F.round = none) (hn : 1 ≤ n) (l Bs n₀ cb co b off len cap : Nat) (zs : List (Int × Int)) (hlz : zs.length = len) (hreach : len ≤ 1000000) (hb : b < n₀) (J Jx : List (Int × Int) → World → Prop) (W : World) (hnW : n₀ ≤ W.heap.size) (hJ : AbidesFrom W.heap.size J)
    (hY : ∀ pre x W, J pre W → pre.length < len → YieldAt F (n - 1) Try.prog l #[.agg #[.int .i64 x.1, .int .i64 x.2]] W fun e W' =>
      (e = .returned (.bool true) ∧ J (pre ++ [x]) W' ∧ Below n₀ W W') ∨ (e = .returned (.bool false) ∧ Jx (pre ++ [x]) W'))
    (hBs : W.cell? ⟨Bs, 0, none⟩ = some (.pointer (some ⟨cb, co, none⟩))) (hsl : W.cell? ⟨cb, co + 1, none⟩ = some (.slice (some ⟨b, off, none⟩) len cap)) (hc0 : ∀ j, j < len → W.cell? ⟨b, off + j * 2, none⟩ = some (.int .i64 (zs[j]?.getD (0, 0)).1)) (hc1 : ∀ j, j < len → W.cell? ⟨b, off + j * 2 + 1, none⟩ = some (.int .i64 (zs[j]?.getD (0, 0)).2)) (h0 : J [] W) :
    CallsIn F n Try.prog 68 #[.func (.yield l) #[] #[], .pointer (some ⟨Bs, 0, none⟩)] W fun e W' => (∃ v, e = .returned v) ∧
      ((∃ ys, ys = upto (fun j => zs[j]?.getD (0, 0)) len ∧ J ys W') ∨ (∃ pre, True ∧ Jx pre W')) := by
  refine callsIn_of_wp Try.func68 rfl h7 ?_ hro
  simp only [Try.ntmps68, List.size_toArray, List.length_cons, List.length_nil, Nat.reduceAdd, Nat.reduceSub, Array.replicate_succ, Array.replicate_zero, List.push_toArray, List.append_toArray, List.nil_append, List.cons_append]
  gi_wp2
  gi_loopw [4, 10] (fun _ i wr => ∃ k : Nat, k ≤ len ∧ i = .int .i64 k ∧ J (upto (fun j => zs[j]?.getD (0, 0)) k) wr ∧ Below n₀ W wr)
    (fun _ i _ => len - (intOf i).toNat)
  case atStart => exact ⟨0, Nat.zero_le _, rfl, h0, Below.refl _ _⟩
  case round =>
    obtain ⟨k, hk, rfl, hJs, hnx⟩ := hrel
    by_cases hlt : k < len
    · obtain ⟨z, hz⟩ : ∃ z, zs[k]?.getD (0, 0) = z := ⟨_, rfl⟩
      have d0 : wr.cell? ⟨b, off + k * 2, none⟩ = some (.int .i64 z.1) := by rw [← hz]; exact (hnx.cell (p := ⟨b, off + k * 2, none⟩) hb).trans (hc0 k hlt)
      have d1 : wr.cell? ⟨b, off + k * 2 + 1, none⟩ = some (.int .i64 z.2) := by rw [← hz]; exact (hnx.cell (p := ⟨b, off + k * 2 + 1, none⟩) hb).trans (hc1 k hlt)
      have hJ1 : J (upto (fun j => zs[j]?.getD (0, 0)) k) (wr.alloc (.cells #[.int .i64 z.1, .int .i64 z.2] 81)) := hJ _ _ _ none hJs (World.grownBy_alloc _ _ _) (fun r e => by cases e)
      obtain ⟨fn, tmps, assign, body, hy, hR⟩ := hY _ z _ hJ1 (by rw [upto_length]; exact hlt)
      gi_wp2
      refine hR.mono ?_
      rintro e W3 (⟨rfl, hJ3, hk3⟩ | ⟨rfl, hJx3⟩)
      · gi_wp2
        go_roundw
        case rel => exact ⟨k + 1, by omega, by simp, by rw [upto_succ, hz]; exact hJ3, (hnx.alloc (by have := hnx.size; omega) _).trans hk3⟩
        case measure => simp [intOf]; omega
      · gi_wp2
        refine bodyPost_ret (results_none rfl _ _ _) rfl ?_
        exact ⟨⟨_, rfl⟩, .inr ⟨_, trivial, hJx3⟩⟩
    · obtain rfl : k = len := by omega
      gi_wp2
      go_end0
      exact ⟨⟨_, rfl⟩, .inl ⟨_, rfl, hJs⟩⟩

theorem anyb_stops (F : Fence) (n : Nat) (h7 : F.fn 68) (hro : F.round = none) (hn : 1 ≤ n) (Bs n₀ cb co b off len cap : Nat) (zs : List (Int × Int)) (hlz : zs.length = len) (hreach : len ≤ 1000000) (w : World) (hBs : Bs < w.heap.size) (hcb : cb < w.heap.size) (hn₀ : n₀ ≤ w.heap.size) (hb : b < n₀)
    (hc : w.cell? ⟨Bs, 0, none⟩ = some (.pointer (some ⟨cb, co, none⟩))) (hsl : w.cell? ⟨cb, co + 1, none⟩ = some (.slice (some ⟨b, off, none⟩) len cap)) (hz0 : ∀ j, j < len → w.cell? ⟨b, off + j * 2, none⟩ = some (.int .i64 (zs[j]?.getD (0, 0)).1)) (hz1 : ∀ j, j < len → w.cell? ⟨b, off + j * 2 + 1, none⟩ = some (.int .i64 (zs[j]?.getD (0, 0)).2)) :
    SeqStopsK F n Try.prog 68 #[.pointer (some ⟨Bs, 0, none⟩)] (fun x : Int × Int => #[.agg #[.int .i64 x.1, .int .i64 x.2]]) (Below n₀) (fun ys => ys = zs) (fun _ => True) len w := fun l J Jx W hW hJ _ hY h0 => by
  refine (all1b_any F n h7 hro hn l Bs n₀ cb co b off len cap zs hlz hreach hb J Jx W (Nat.le_trans hn₀ hW.size) hJ hY ((hW.cell (p := ⟨Bs, 0, none⟩) hBs).trans hc) ((hW.cell (p := ⟨cb, co + 1, none⟩) hcb).trans hsl) (fun j hj => (hW.cell (p := ⟨b, off + j * 2, none⟩) (show b < w.heap.size by omega)).trans (hz0 j hj)) (fun j hj => (hW.cell (p := ⟨b, off + j * 2 + 1, none⟩) (show b < w.heap.size by omega)).trans (hz1 j hj)) h0).mono ?_
  rintro e W' ⟨he, ⟨ys, rfl, hj⟩ | h⟩
  · refine ⟨he, .inl ⟨_, ?_, hj⟩⟩
    subst hlz
    refine List.ext_getElem (by simp [upto]) fun i h1 h2 => ?_
    simp [upto, List.getElem?_eq_getElem h2]
  · exact ⟨he, .inr h⟩

set_option maxRecDepth 100000 in
set_option maxHeartbeats 2000000 in
/-- least over a ring of bases -/
theorem leastb_any (n : Nat) (hn : 3 ≤ n) (Bs cb co b off len cap : Nat) (zs : List (Int × Int)) (hlz : zs.length = len) (hreach : len ≤ 1000000) (w : World) (hBs : Bs < w.heap.size) (hcb : cb < w.heap.size) (hb : b < w.heap.size)
    (hc : w.cell? ⟨Bs, 0, none⟩ = some (.pointer (some ⟨cb, co, none⟩))) (hsl : w.cell? ⟨cb, co + 1, none⟩ = some (.slice (some ⟨b, off, none⟩) len cap)) (hz0 : ∀ j, j < len → w.cell? ⟨b, off + j * 2, none⟩ = some (.int .i64 (zs[j]?.getD (0, 0)).1)) (hz1 : ∀ j, j < len → w.cell? ⟨b, off + j * 2 + 1, none⟩ = some (.int .i64 (zs[j]?.getD (0, 0)).2)) :
    CallsIn Fence.wide n Try.prog 65 #[.func (.func 68) #[] #[.pointer (some ⟨Bs, 0, none⟩)], .func (.func 66) #[] #[]] w fun e W' => e = .returned (.agg #[.int .i64 ((lstb zs).getD (0, 0)).1, .int .i64 ((lstb zs).getD (0, 0)).2]) ∧ Below w.heap.size w W' := by
  have h1 : 1 ≤ n := by omega
  have hL : Fence.wide.fn 65 := trivial
  have h7 : Fence.wide.fn 68 := trivial
  have hro : Fence.wide.round = none := rfl
  refine callsIn_of_wp_marks Try.func65 rfl hL ?_ hro
  simp only [Try.ntmps65, List.size_toArray, List.length_cons, List.length_nil, Nat.reduceAdd, Nat.reduceSub, Array.replicate_succ, Array.replicate_zero, List.push_toArray, List.append_toArray, List.nil_append, List.cons_append]
  gi_wp2
  obtain ⟨W0, hW0⟩ : ∃ W0, ((((w.alloc (.cells #[.func (.func 66) #[] #[]] 94)).alloc (.cells #[.int .i64 0, .int .i64 0] 81)).alloc (.cells #[.int .i64 0, .int .i64 0] 81)).alloc (.cells #[.bool true] 4)) = W0 := ⟨_, rfl⟩
  have hsz : W0.heap.size = w.heap.size + 4 := by rw [← hW0]; simp
  have hB0 : Below w.heap.size w W0 := by rw [← hW0]; exact ((((Below.refl _ w).alloc (Nat.le_refl _) _).alloc (by simp) _).alloc (by simp; omega) _).alloc (by simp; omega) _
  have bG : Boxed W0 w.heap.size 94 (.func (.func 66) #[] #[]) := by
    rw [← hW0]; exact (((Boxed.new w 94 (.func (.func 66) #[] #[])).alloc _).alloc _).alloc _
  have bR : Two W0 (w.heap.size + 1) (0, 0) := by
    rw [← hW0]; have := ((Two.new (w.alloc (.cells #[.func (.func 66) #[] #[]] 94)) (0, 0)).alloc (.cells #[.int .i64 0, .int .i64 0] 81)).alloc (.cells #[.bool true] 4); rwa [World.size_alloc] at this
  have bB : Two W0 (w.heap.size + 1 + 1) (0, 0) := by
    rw [← hW0]; have := (Two.new ((w.alloc (.cells #[.func (.func 66) #[] #[]] 94)).alloc (.cells #[.int .i64 0, .int .i64 0] 81)) (0, 0)).alloc (.cells #[.bool true] 4); rwa [World.size_alloc, World.size_alloc] at this
  have bF : Boxed W0 (w.heap.size + 1 + 1 + 1) 4 (.bool true) := by
    rw [← hW0]; have := Boxed.new (((w.alloc (.cells #[.func (.func 66) #[] #[]] 94)).alloc (.cells #[.int .i64 0, .int .i64 0] 81)).alloc (.cells #[.int .i64 0, .int .i64 0] 81)) 4 (.bool true); rwa [World.size_alloc, World.size_alloc, World.size_alloc] at this
  rw [hW0]
  refine wpIn_rangeFunc_ownH hro h1 (gf := 68) (lb := #[.pointer (some ⟨Bs, 0, none⟩)]) rfl h7 (enters_of Try.func68 (by kernel_rfl) rfl)
    (anyb_stops Fence.wide (n - 1) h7 hro (by omega) Bs w.heap.size cb co b off len cap zs hlz hreach W0 (by omega) (by omega) (by omega) hb ((hB0.cell (p := ⟨Bs, 0, none⟩) hBs).trans hc) ((hB0.cell (p := ⟨cb, co + 1, none⟩) hcb).trans hsl) (fun j hj => (hB0.cell (p := ⟨b, off + j * 2, none⟩) hb).trans (hz0 j hj)) (fun j hj => (hB0.cell (p := ⟨b, off + j * 2 + 1, none⟩) hb).trans (hz1 j hj))) belowK_t (belowK_b (by omega)) (Below.refl _ _) (fun _ => rfl)
    (fun pre W => ((Two W (w.heap.size + 1 + 1) ((lstb pre).getD (0, 0)) ∧ Boxed W (w.heap.size + 1 + 1 + 1) 4 (.bool pre.isEmpty)) ∧ (Two W (w.heap.size + 1) (0, 0) ∧ Boxed W w.heap.size 94 (.func (.func 66) #[] #[]))) ∧ Below w.heap.size w W)
    (fun _ _ _ => False)
    (OwnFrom.and (OwnFrom.and (OwnFrom.and (Own.from (Two.own _ _) _) (Own.from (boxed_own _ _ _) _)) (OwnFrom.and (Own.from (Two.own _ (fun _ => (0, 0))) _) (Own.from (boxed_own _ _ _) _))) (ownFrom_below (Nat.le_refl _) (by omega)))
    (fun _ _ _ _ _ hs _ _ => hs)
    ⟨⟨⟨bB, bF⟩, bR, bG⟩, hB0⟩
    (fun x a' W => ∃ Bx, w.heap.size + 1 + 1 + 1 < Bx ∧ Two W Bx x ∧ a' = { tmps := #[.func (.func 68) #[] #[.pointer (some ⟨Bs, 0, none⟩)], .func (.func 66) #[] #[], undef, .pointer (some ⟨w.heap.size, 0, none⟩), .pointer (some ⟨w.heap.size + 1, 0, none⟩), .pointer (some ⟨w.heap.size + 1 + 1, 0, none⟩), .pointer (some ⟨w.heap.size + 1 + 1 + 1, 0, none⟩), .pointer (some ⟨Bx, 0, none⟩),
      .func (.func 68) #[] #[.pointer (some ⟨Bs, 0, none⟩)], .agg #[.int .i64 x.1, .int .i64 x.2], undef, undef, undef, undef, undef, undef, undef, undef, undef], defers := [] })
    (fun x a' _ X Y row hs hg hr => by obtain ⟨Bx, k1, k2, k3⟩ := hs; exact ⟨Bx, k1, Two.own Bx (fun (_ : Unit) => x) () X Y row k2 hg (fun r e => (hr r e).2), k3⟩)
    ?assign ?body ?done ?stop
  case assign =>
    rintro l pre x W K ⟨⟨⟨k1, k2⟩, k3, kG⟩, hB⟩ hK
    gi_wp2
    exact hK _ _ ((KeepsOthers.alloc _ _).from _) ((Below.refl _ W).alloc hB.size _) ⟨⟨⟨k1.alloc _, k2.alloc _⟩, k3.alloc _, kG.alloc _⟩, hB.alloc hB.size _⟩ ⟨W.heap.size, k2.lt, Two.new W x, rfl⟩
  case body =>
    rintro l pre x a' W hl _ ⟨⟨⟨k1, k2⟩, k3, kG⟩, hB⟩ ⟨Bx, hBx, bX, rfl⟩ hlt
    have x0 := bX.c0
    have x1 := bX.c1
    have e0 := k1.c0
    have e1 := k1.c1
    have g0 := k1.fz 0
    have g1 := k1.fz 1
    have q0 := k2.cell
    have q1 := k2.frozen
    have u0 := kG.cell
    rcases hp : lstb pre with _ | q
    · have he : pre.isEmpty = true := by rw [← lstb_some, hp]; rfl
      have hmn : mnb none x = some x := rfl
      rw [hp, Option.getD_none] at e0 e1
      rw [he] at q0
      gi_wp2
      refine ⟨fun _ h => (by cases h), ?_⟩
      gi_wp2
      refine ⟨(((KeepsOthers.setCell _ _ _).trans (KeepsOthers.setCell _ _ _)).trans (KeepsOthers.setCell _ _ _)).from _, (((Below.refl w.heap.size _).setCell (p := ⟨w.heap.size + 1 + 1, 0, none⟩) (by simp; omega) _).setCell (p := ⟨w.heap.size + 1 + 1, 1, none⟩) (by simp; omega) _).setCell (p := ⟨w.heap.size + 1 + 1 + 1, 0, none⟩) (by simp; omega) _,
        ⟨⟨?_, ?_⟩, ((k3.other (by omega) _ _).other (by omega) _ _).other (by omega) _ _, boxed_other (boxed_other (boxed_other kG (by omega) _) (by omega) _) (by omega) _⟩, ((hB.setCell (p := ⟨w.heap.size + 1 + 1, 0, none⟩) (by simp; omega) _).setCell (p := ⟨w.heap.size + 1 + 1, 1, none⟩) (by simp; omega) _).setCell (p := ⟨w.heap.size + 1 + 1 + 1, 0, none⟩) (by simp; omega) _⟩
      · rw [lstb_snoc, hp, hmn, Option.getD_some]
        exact (k1.set2 x).other (by omega) _ _
      · rw [show (pre ++ [x]).isEmpty = false by simp]
        exact (boxed_other (boxed_other k2 (by omega) _) (by omega) _).set _
    · have he : pre.isEmpty = false := by rw [← lstb_some, hp]; rfl
      rw [hp, Option.getD_some] at e0 e1
      rw [he] at q0
      gi_wp2
      refine ⟨trivial, fun h => (by cases h), (CallsIn.inRound l (callsIn_wide.2 (baseLess x q W))).mono ?_⟩
      rintro r w1 ⟨rfl, hb1, hg1⟩
      have bX1 := bX.kept hg1 (by simp)
      have k1' := k1.kept hg1 (by simp)
      have k2' : Boxed w1 (w.heap.size + 1 + 1 + 1) 4 (.bool pre.isEmpty) := (hg1.block _ k2.lt (by simp)).trans k2
      have k3' := k3.kept hg1 (by simp)
      have kG' : Boxed w1 w.heap.size 94 (.func (.func 66) #[] #[]) := (hg1.block _ kG.lt (by simp)).trans kG
      have hB' : Below w.heap.size w w1 := hB.trans (hb1.mono hB.size)
      have hbk : Below w.heap.size W w1 := hb1.mono hB.size
      have y0 := bX1.c0
      have y1 := bX1.c1
      have g0' := k1'.fz 0
      have g1' := k1'.fz 1
      have q1' := k2'.frozen
      have r0' := k1'.c0
      have r1' := k1'.c1
      have q0' := k2'.cell
      have HL : lsb x q = true ∨ lsb x q = false := by cases lsb x q <;> simp
      rcases HL with hl | hl
      · have hmn : mnb (some q) x = some x := by simp [mnb, hl]
        rw [hl]
        gi_wp2
        refine ⟨((((KeepsOthers.of_grownBy hg1 (fun _ _ e => by cases e)).trans (KeepsOthers.setCell _ _ _)).trans (KeepsOthers.setCell _ _ _)).trans (KeepsOthers.setCell _ _ _)).from _, ((hbk.setCell (p := ⟨w.heap.size + 1 + 1, 0, none⟩) (by simp; omega) _).setCell (p := ⟨w.heap.size + 1 + 1, 1, none⟩) (by simp; omega) _).setCell (p := ⟨w.heap.size + 1 + 1 + 1, 0, none⟩) (by simp; omega) _,
          ⟨⟨?_, ?_⟩, ((k3'.other (by omega) _ _).other (by omega) _ _).other (by omega) _ _, boxed_other (boxed_other (boxed_other kG' (by omega) _) (by omega) _) (by omega) _⟩, ((hB'.setCell (p := ⟨w.heap.size + 1 + 1, 0, none⟩) (by simp; omega) _).setCell (p := ⟨w.heap.size + 1 + 1, 1, none⟩) (by simp; omega) _).setCell (p := ⟨w.heap.size + 1 + 1 + 1, 0, none⟩) (by simp; omega) _⟩
        · rw [lstb_snoc, hp, hmn, Option.getD_some]
          exact (k1'.set2 x).other (by omega) _ _
        · rw [show (pre ++ [x]).isEmpty = false by simp]
          exact (boxed_other (boxed_other k2' (by omega) _) (by omega) _).set _
      · have hmn : mnb (some q) x = some q := by simp [mnb, hl]
        rw [hl]
        gi_wp2
        refine ⟨(KeepsOthers.of_grownBy hg1 (fun _ _ e => by cases e)).from _, hbk, ⟨⟨?_, ?_⟩, k3', kG'⟩, hB'⟩
        · rw [lstb_snoc, hp, hmn]
          rw [hp] at k1'; exact k1'
        · rw [show (pre ++ [x]).isEmpty = pre.isEmpty by simp [he]]
          exact k2'
  case done =>
    rintro D ys W hD rfl ⟨⟨⟨k1, k2⟩, k3, kG⟩, hB⟩ hK
    obtain ⟨z, hz⟩ : ∃ z, (lstb ys).getD (0, 0) = z := ⟨_, rfl⟩
    rw [hz] at k1
    have e0 := k1.c0
    have e1 := k1.c1
    have r0 := k3.c0
    have r1 := k3.c1
    have s0 := k3.fz 0
    have s1 := k3.fz 1
    gi_wp2
    have hK2 := ((KeepsOthers.setCell W ⟨w.heap.size + 1, 0, none⟩ (.int .i64 z.1)).trans (KeepsOthers.setCell _ ⟨w.heap.size + 1, 1, none⟩ (.int .i64 z.2))).same D _ hK rfl
    have k4 := k3.set2 z
    refine ⟨by simp, .inl ⟨_, _, rfl, run_takeDeferred hK2, ?_⟩⟩
    have k5 : Two (((W.setCell ⟨w.heap.size + 1, 0, none⟩ (.int .i64 z.1)).setCell ⟨w.heap.size + 1, 1, none⟩ (.int .i64 z.2)).putObj D (.deferred none)) (w.heap.size + 1) z := k4.kept (grownBy_putObj' _ D (.deferred none)) (fun e => by have := Option.some.inj e; omega)
    have hbel := ((hB.setCell (p := ⟨w.heap.size + 1, 0, none⟩) (by simp) (.int .i64 z.1)).setCell (p := ⟨w.heap.size + 1, 1, none⟩) (by simp) (.int .i64 z.2))
    exact ⟨_, results_cell_row rfl _ _ (w.heap.size + 1) _ _ _ _ rfl k5 Try.underlying81 rfl (by kernel_rfl), by first | rfl | rw [hz], hbel.trans (belowK_b (w := w) (Nat.le_refl _) _ D _ _ (by omega) hK2 rfl rfl)⟩
  case stop =>
    rintro D c pre W _ _ h _
    exact h.elim

end Go.Proofs.Ythjhbceepkoifaa.Fc
