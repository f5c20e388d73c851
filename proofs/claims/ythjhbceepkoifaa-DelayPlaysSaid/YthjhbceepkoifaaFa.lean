/-
  put into a ring of any fill: ints.
-/
import Derived.Test.YthjhbceepkoifaaEe
import Derived.Test.YthjhbceepkoifaaRg
namespace Go.Proofs.Ythjhbceepkoifaa.Fa
open Go Go.RowKit Go.Proofs.Ythjhbceepkoifaa.Ec Go.Proofs.Ythjhbceepkoifaa.Ee Go.Proofs.Ythjhbceepkoifaa.Rg

/-- w grew, and of its blocks at most those that may be written changed -/
structure Kb (w w' : World) (may : Nat → Prop) : Prop where
  os : w'.os = w.os
  tape : w'.tape = w.tape
  output : w'.output = w.output
  size : w.heap.size ≤ w'.heap.size
  block : ∀ i, i < w.heap.size → ¬ may i → w'.heap[i]? = w.heap[i]?
theorem Kb.refl (w : World) (may : Nat → Prop) : Kb w w may := ⟨rfl, rfl, rfl, Nat.le_refl _, fun _ _ _ => rfl⟩
theorem Kb.trans {a b w : World} {may : Nat → Prop} (h : Kb a b may) (k : Kb b w may) : Kb a w may := ⟨k.os.trans h.os, k.tape.trans h.tape, k.output.trans h.output, Nat.le_trans h.size k.size, fun i hi hn => (k.block i (Nat.lt_of_lt_of_le hi h.size) hn).trans (h.block i hi hn)⟩
theorem Kb.of {w w' : World} {r : Option Nat} {may : Nat → Prop} (h : w.grownBy w' r) (hr : ∀ i, i < w.heap.size → r = some i → may i) : Kb w w' may := ⟨h.os, h.tape, h.output, h.size, fun i hi hn => h.block i hi (fun e => hn (hr i hi e.symm))⟩

/-- what a ring keeps: the last most -/
def trim {α : Type} (most : Nat) (l : List α) : List α := if l.length ≤ most then l else l.drop 1

set_option maxHeartbeats 1000000 in
theorem put_int (c : Nat) (x now : Int) (hv : Bool) (at' target limit : Int) (ml fl : Value) (n : Nat) (zs : List Int) (w : World) (hC : Ctl w c now hv at' target limit ml fl) (hn : n ≤ 4) (hrow : Row w 1 fl n (zs.map (Value.int .i64))) (hfc : fl.ownBlock ≠ some c) :
    Calls Try.prog 43 #[.pointer (some ⟨c, 7, none⟩), .int .i64 x] w fun e w' => e = .returned (.tuple #[]) ∧
      ∃ fl', Ctl w' c now hv at' target limit ml fl' ∧ Row w' 1 fl' (trim 4 (zs ++ [x])).length ((trim 4 (zs ++ [x])).map (Value.int .i64)) ∧ fl'.ownBlock ≠ some c ∧ (∀ k, fl'.ownBlock = some k → fl.ownBlock = some k ∨ w.heap.size ≤ k) ∧ Kb w w' (fun i => i = c ∨ fl.ownBlock = some i) := by
  have hi3 : (Try.prog.info? 3).map (fun i => (i.zero, i.size, i.bytes)) = some (some (.int .i64 0), 1, 8) := by kernel_rfl
  obtain ⟨i0, hi, hz0, hz1, hz2⟩ := info_parts hi3
  have hzl : zs.length = n := by have := hrow.len; simpa using this
  have c8 := hC.c8
  have hclt := hC.lt
  have hb1 : n + 1 ≤ maxLen := by unfold maxLen; omega
  have hb2 : (n + 1) * 8 ≤ 140737488355328 := by omega
  have hrow0 : Row (w.alloc (.cells #[.int .i64 x] 3)) 1 fl n (zs.map (Value.int .i64)) := hrow.kept (World.grownBy_alloc w _ none) (by simp)
  go_enter Try.func43, Try.ntmps43
  go_wp2_with (at_builtin; go_loud (refine wpList_append_row rfl _ _ 51 rfl 3 i0 (.int .i64 0) 1 8 Try.underlying51 hi hz0 hz1 hz2 rfl (by decide) fl n (zs.map (Value.int .i64)) rfl hrow0 ⟨w.heap.size, 0, none⟩ 1 [.int .i64 x] rfl rfl (World.news_of_block (World.alloc_heap_new w _)) (by simp [Value.oneCell']) hb1 hb2 ?_; intro g off cap w1 hrow1 hgrow hat; have hC1 := (hC.kept (World.grownBy_alloc w (.cells #[.int .i64 x] 3) none) (by simp)).kept hgrow (Ne.symm hfc); have e8 := hC1.c8; have g8 := hC1.fz 8; have e7 := hC1.c7))
  have hgc : g ≠ c := by
    rcases hat with h | h
    · rintro rfl; exact hfc h
    · simp at h; omega
  have hgo : fl.ownBlock = some g ∨ w.heap.size ≤ g := hat.imp id (fun h => by simp at h; omega)
  have hC2 := hC1.set8 (.slice (some ⟨g, off, none⟩) (n + 1) cap)
  have k7 := hC2.c7
  have k8 := hC2.c8
  have f8 := hC2.fz 8
  have hkb : Kb w (w1.setCell ⟨c, 8, none⟩ (.slice (some ⟨g, off, none⟩) (n + 1) cap)) (fun i => i = c ∨ fl.ownBlock = some i) :=
    ((Kb.of (World.grownBy_alloc w (.cells #[.int .i64 x] 3) none) (by simp)).trans (Kb.of hgrow (fun i _ h => .inr h))).trans (Kb.of (gb_set w1 c 8 _) (fun i _ h => .inl (Option.some.inj h).symm))
  have hrow2 : Row (w1.setCell ⟨c, 8, none⟩ (.slice (some ⟨g, off, none⟩) (n + 1) cap)) 1 (.slice (some ⟨g, off, none⟩) (n + 1) cap) (n + 1) (zs.map (Value.int .i64) ++ [.int .i64 x]) :=
    hrow1.kept (gb_set w1 c 8 _) (fun k h e => hgc (by simp [Value.ownBlock] at h; rw [h]; exact (Option.some.inj e).symm))
  generalize w1.setCell ⟨c, 8, none⟩ (.slice (some ⟨g, off, none⟩) (n + 1) cap) = w2 at hC2 k7 k8 f8 hkb hrow2 ⊢
  clear hrow1 hgrow hC1 e8 g8 e7
  have htl : (zs ++ [x]).length = n + 1 := by simp [hzl]
  by_cases h4 : n + 1 ≤ 4
  · have ht : trim 4 (zs ++ [x]) = zs ++ [x] := by unfold trim; rw [if_pos (by omega)]
    go_quiet (fail)
    go_wp2
    go_end0
    exact ⟨rfl, _, hC2.kept (gb_drew _ _ none) (by simp), by rw [ht, htl, List.map_append]; exact hrow2.kept (gb_drew _ _ none) (by simp), by simpa [Value.ownBlock] using hgc, fun k h => by simp [Value.ownBlock] at h; rw [← h]; exact hgo, hkb.trans (Kb.of (gb_drew _ _ none) (by simp))⟩
  · have ht : trim 4 (zs ++ [x]) = (zs ++ [x]).drop 1 := by unfold trim; rw [if_neg (by omega)]
    have hcap : ¬cap = 1 := by
      obtain ⟨_, _, _, e, hc, _⟩ := hrow2.form
      simp only [Value.slice.injEq] at e
      omega
    have hT := hrow2.tail
    unfold sliced at hT
    rw [if_neg hcap, List.drop_one] at hT
    simp only [Option.map_some, Addr.add_lit, Nat.add_sub_cancel, Nat.one_mul] at hT
    go_quiet (fail)
    go_wp2
    go_end0
    refine ⟨rfl, _, (hC2.kept (gb_drew w2 nq none) (by simp)).set8 _, ?_, by simpa [Value.ownBlock] using hgc, fun k h => by simp [Value.ownBlock] at h; rw [← h]; exact hgo, (hkb.trans (Kb.of (gb_drew w2 nq none) (by simp))).trans (Kb.of (gb_set _ c 8 _) (fun i _ h => .inl (Option.some.inj h).symm))⟩
    have e1 : (trim 4 (zs ++ [x])).length = n := by rw [ht, List.length_drop, htl]; omega
    have e2 : (trim 4 (zs ++ [x])).map (Value.int .i64) = (zs.map (Value.int .i64) ++ [Value.int .i64 x]).tail := by rw [ht, List.map_drop, List.map_append, List.drop_one]; rfl
    rw [e1, e2]
    exact (hT.kept (gb_drew w2 nq none) (by simp)).kept (gb_set _ c 8 _) (fun k h e => hgc (by simp [Value.ownBlock] at h; rw [h]; exact (Option.some.inj e).symm))
/-- the cells of bases -/
def bcs (bs : List (Int × Int)) : List Value := bs.flatMap fun b => [.int .i64 b.1, .int .i64 b.2]
theorem bcs_append (a b : List (Int × Int)) : bcs (a ++ b) = bcs a ++ bcs b := by simp [bcs]
theorem bcs_length : ∀ bs : List (Int × Int), (bcs bs).length = bs.length * 2
  | [] => rfl
  | _ :: r => by have := bcs_length r; simp [bcs] at this ⊢; omega
theorem bcs_tail (bs : List (Int × Int)) : bcs (bs.drop 1) = (bcs bs).drop 2 := by cases bs <;> simp [bcs]
theorem bcs_at0 : ∀ (bs : List (Int × Int)) (j : Nat) (b : Int × Int), bs[j]? = some b → (bcs bs)[j * 2]? = some (.int .i64 b.1)
  | [], _, _, h => by simp at h
  | a :: r, 0, b, h => by simp at h; subst h; simp [bcs]
  | a :: r, j + 1, b, h => by
    have := bcs_at0 r j b (by simpa using h)
    simp only [bcs, List.flatMap_cons] at this ⊢
    rw [List.getElem?_append_right (by simp; omega)]
    simpa [show (j + 1) * 2 - 2 = j * 2 by omega] using this
theorem bcs_at1 : ∀ (bs : List (Int × Int)) (j : Nat) (b : Int × Int), bs[j]? = some b → (bcs bs)[j * 2 + 1]? = some (.int .i64 b.2)
  | [], _, _, h => by simp at h
  | a :: r, 0, b, h => by simp at h; subst h; simp [bcs]
  | a :: r, j + 1, b, h => by
    have := bcs_at1 r j b (by simpa using h)
    simp only [bcs, List.flatMap_cons] at this ⊢
    rw [List.getElem?_append_right (by simp; omega)]
    simpa [show (j + 1) * 2 + 1 - 2 = j * 2 + 1 by omega] using this

set_option maxHeartbeats 1000000 in
theorem put_base (c : Nat) (m d now : Int) (hv : Bool) (at' target limit : Int) (ml fl : Value) (n : Nat) (bs : List (Int × Int)) (w : World) (hC : Ctl w c now hv at' target limit ml fl) (hn : n ≤ 10) (hbn : bs.length = n) (hrow : Row w 2 ml n (bcs bs)) (hfc : ml.ownBlock ≠ some c) :
    Calls Try.prog 59 #[.pointer (some ⟨c, 5, none⟩), .agg #[.int .i64 m, .int .i64 d]] w fun e w' => e = .returned (.tuple #[]) ∧
      ∃ ml', Ctl w' c now hv at' target limit ml' fl ∧ Row w' 2 ml' (trim 10 (bs ++ [(m, d)])).length (bcs (trim 10 (bs ++ [(m, d)]))) ∧ ml'.ownBlock ≠ some c ∧ (∀ k, ml'.ownBlock = some k → ml.ownBlock = some k ∨ w.heap.size ≤ k) ∧ Kb w w' (fun i => i = c ∨ ml.ownBlock = some i) := by
  have hi3 : (Try.prog.info? 81).map (fun i => (i.zero, i.size, i.bytes)) = some (some (.agg #[.int .i64 0, .int .i64 0]), 2, 16) := by kernel_rfl
  obtain ⟨i0, hi, hz0, hz1, hz2⟩ := info_parts hi3
  have hclt := hC.lt
  obtain ⟨w0, hw0⟩ : ∃ w0, w.alloc (.cells #[.int .i64 m, .int .i64 d] 81) = w0 := ⟨_, rfl⟩
  have hC0 : Ctl w0 c now hv at' target limit ml fl := by rw [← hw0]; exact hC.kept (World.grownBy_alloc w _ none) (by simp)
  have e6 := hC0.c6
  have T0 : Two w0 w.heap.size (m, d) := by rw [← hw0]; exact Two.new w (m, d)
  have t0 := T0.c0
  have t1 := T0.c1
  have hsz : w0.heap.size = w.heap.size + 1 := by rw [← hw0]; simp
  have hgb0 : Kb w w0 (fun i => i = c ∨ ml.ownBlock = some i) := by rw [← hw0]; exact Kb.of (World.grownBy_alloc w _ none) (by simp)
  have hrow0 : Row w0 2 ml n (bcs bs) := by rw [← hw0]; exact hrow.kept (World.grownBy_alloc w _ none) (by simp)
  have hb1 : n + 1 ≤ maxLen := by unfold maxLen; omega
  have hb2 : (n + 1) * 16 ≤ 140737488355328 := by omega
  go_enter Try.func59, Try.ntmps59
  go_wp2_with fail
  have HW := Lib.hid hw0
  clear hw0
  have hnews : Hid (∀ j u, ([Value.int .i64 m, Value.int .i64 d] : List Value)[j]? = some u → (w0.alloc (.cells #[.int .i64 m, .int .i64 d] 81)).drew.cell? ((⟨w0.heap.size, 0, none⟩ : Addr).add j) = some u) :=
    Lib.hid (World.news_of_block (w := (w0.alloc (.cells #[.int .i64 m, .int .i64 d] 81)).drew) (World.alloc_heap_new w0 (.cells #[.int .i64 m, .int .i64 d] 81)))
  have hone : Hid (∀ u ∈ ([Value.int .i64 m, Value.int .i64 d] : List Value), u.oneCell' = true) := Lib.hid (by simp [Value.oneCell'])
  have hgb1 : w0.grownBy (w0.alloc (.cells #[.int .i64 m, .int .i64 d] 81)).drew none := gb_trans (World.grownBy_alloc w0 _ _) (gb_drew _ 1 _)
  have hC1' : Ctl (w0.alloc (.cells #[.int .i64 m, .int .i64 d] 81)) c now hv at' target limit ml fl := (hC0.kept (World.grownBy_alloc w0 (.cells #[.int .i64 m, .int .i64 d] 81) none) (by simp))
  have hC1 : Ctl (w0.alloc (.cells #[.int .i64 m, .int .i64 d] 81)).drew c now hv at' target limit ml fl := hC1'
  have hrow1 : Hid (Row (w0.alloc (.cells #[.int .i64 m, .int .i64 d] 81)).drew 2 ml n (bcs bs)) := Lib.hid (hrow0.kept hgb1 (by simp))
  have e6a := hC1'.c6
  rw [hsz] at hnews
  go_region_law (refine step_append_row rfl (.tmp 8) (.tmp 10) 48 rfl 81 i0 (.agg #[.int .i64 0, .int .i64 0]) 2 16 Try.underlying48 hi hz0 hz1 hz2 rfl (by decide) ml n (bcs bs) (by simp [Act.eval]) hrow1.out ⟨w.heap.size + 1, 0, none⟩ 1 [.int .i64 m, .int .i64 d] (by simp [Act.eval]) rfl hnews.out hone.out hb1 hb2 ?_; intro g off cap w1 hrowA hgrow hat; have hC2 := hC1.kept hgrow (Ne.symm hfc); have e6' := hC2.c6; have g6' := hC2.fz 6)
  all_goals
    have hgc : g ≠ c := by
      rcases hat with h | h
      · rintro rfl; exact hfc h
      · have := hgb1.size; simp at h; omega
    have hgo : ml.ownBlock = some g ∨ w.heap.size ≤ g := hat.imp id (fun h => by simp at h; omega)
    have hC3 := hC2.set6 (.slice (some ⟨g, off, none⟩) (n + 1) cap)
    have k5 := hC3.c5
    have k6 := hC3.c6
    have f6 := hC3.fz 6
    have hkb : Kb w (w1.setCell ⟨c, 6, none⟩ (.slice (some ⟨g, off, none⟩) (n + 1) cap)) (fun i => i = c ∨ ml.ownBlock = some i) :=
      ((hgb0.trans (Kb.of hgb1 (by simp))).trans (Kb.of hgrow (fun i _ h => .inr h))).trans (Kb.of (gb_set w1 c 6 _) (fun i _ h => .inl (Option.some.inj h).symm))
    have hrow2 : Row (w1.setCell ⟨c, 6, none⟩ (.slice (some ⟨g, off, none⟩) (n + 1) cap)) 2 (.slice (some ⟨g, off, none⟩) (n + 1) cap) (n + 1) (bcs bs ++ [.int .i64 m, .int .i64 d]) :=
      hrowA.kept (gb_set w1 c 6 _) (fun k h e => hgc (by simp [Value.ownBlock] at h; rw [h]; exact (Option.some.inj e).symm))
    generalize w1.setCell ⟨c, 6, none⟩ (.slice (some ⟨g, off, none⟩) (n + 1) cap) = w2 at hC3 k5 k6 f6 hkb hrow2 ⊢
    clear hC1 hC1' hC2 e6 e6a e6' g6' hgb0 hgb1 hgrow hrowA hrow1 hrow0 T0 t0 t1 hnews hone
    have htl : (bs ++ [(m, d)]).length = n + 1 := by simp [hbn]
    have hall : bcs (bs ++ [(m, d)]) = bcs bs ++ [.int .i64 m, .int .i64 d] := bcs_append _ _
    by_cases h4 : n + 1 ≤ 10
    · have ht : trim 10 (bs ++ [(m, d)]) = bs ++ [(m, d)] := by unfold trim; rw [if_pos (by omega)]
      go_wp2_with fail
      go_quiet (fail)
      go_wp2
      go_end0
      exact ⟨rfl, _, hC3.kept (gb_drew _ _ none) (by simp), by rw [ht, htl, hall]; exact hrow2.kept (gb_drew _ _ none) (by simp), by simpa [Value.ownBlock] using hgc, fun k h => by simp [Value.ownBlock] at h; rw [← h]; exact hgo, hkb.trans (Kb.of (gb_drew _ _ none) (by simp))⟩
    · have ht : trim 10 (bs ++ [(m, d)]) = (bs ++ [(m, d)]).drop 1 := by unfold trim; rw [if_neg (by omega)]
      have hcap : ¬cap = 1 := by
        obtain ⟨_, _, _, e, hc, _⟩ := hrow2.form
        simp only [Value.slice.injEq] at e
        omega
      have hT := hrow2.tail
      unfold sliced at hT
      rw [if_neg hcap] at hT
      simp only [Option.map_some, Addr.add_lit, Nat.add_sub_cancel, Nat.one_mul] at hT
      go_wp2_with fail
      go_quiet (fail)
      go_wp2
      go_end0
      have e1 : (trim 10 (bs ++ [(m, d)])).length = n := by rw [ht, List.length_drop, htl]; omega
      have e2 : bcs (trim 10 (bs ++ [(m, d)])) = (bcs bs ++ [Value.int .i64 m, Value.int .i64 d]).drop 2 := by rw [ht, bcs_tail, hall]
      rw [e1, e2]
      refine ⟨rfl, _, (hC3.kept (gb_drew w2 nq none) (by simp)).set6 _, ?_, by simpa [Value.ownBlock] using hgc, fun k h => by simp [Value.ownBlock] at h; rw [← h]; exact hgo, (hkb.trans (Kb.of (gb_drew w2 nq none) (by simp))).trans (Kb.of (gb_set _ c 6 _) (fun i _ h => .inl (Option.some.inj h).symm))⟩
      exact (hT.kept (gb_drew w2 nq none) (by simp)).kept (gb_set _ c 6 _) (fun k h e => hgc (by simp [Value.ownBlock] at h; rw [h]; exact (Option.some.inj e).symm))
end Go.Proofs.Ythjhbceepkoifaa.Fa
