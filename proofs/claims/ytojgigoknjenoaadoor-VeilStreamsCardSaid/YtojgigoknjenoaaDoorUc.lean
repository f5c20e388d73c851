/-
  Streams: the program's Stream.
-/
import Derived.Test.YtojgigoknjenoaaDoorUb
import Derived.Test.YtojgigoknjenoaaDoorHt
import Derived.Test.YtojgigoknjenoaaDoorRq
import Derived.Sort.QuietIn
import Derived.Lib.BufStepsIn
import Derived.Lib.UnsafeStr
namespace Go.Proofs.YtojgigoknjenoaaDoor.Hi
open Go Go.RowKit Go.Shelf Go.Proofs.YtojgigoknjenoaaDoor.Hh Go.Proofs.YtojgigoknjenoaaDoor.Sx
attribute [local go_sem] Oper.semAt_some

theorem byte_info : (Tryd.prog.info? 5).map (fun i => (i.zero, i.size, i.bytes)) = some (some (.int .u8 0), 1, 1) := by kernel_rfl
/-- a row of bytes of the call's own -/
abbrev RF (W : World) (base : Nat) (v : Value) (l : List UInt8) : Prop := W.ownsRowF base 5 1 v l.length (Lib.byteCells l)
theorem RF.own {W W' : World} {base : Nat} {v : Value} {l : List UInt8} {row : Option Nat} (h : RF W base v l) (hg : W.grownBy W' row) (hr : ∀ r, row = some r → ∃ o : Obj, W.heap[r]? = some o ∧ o.isCells = false) : RF W' base v l := by
  obtain ⟨h1, h2 | ⟨g, cap, cur, fz, e, hb, hh, rest⟩⟩ := h
  · exact ⟨h1, .inl h2⟩
  · exact ⟨h1, .inr ⟨g, cap, cur, fz, e, hb, gb_block hg hh (fun e' => by obtain ⟨o, ho, hc⟩ := hr g e'.symm; rw [hh] at ho; cases ho; cases hc), rest⟩⟩
theorem RF.box {W : World} {base B : Nat} {t : TypeId} {u v : Value} {l : List UInt8} (h : RF W base v l) (hb : Boxed W B t u) (ht : t ≠ 5) : some B ≠ v.ownBlock := by
  rcases h.2 with ⟨rfl, _⟩ | ⟨g, cap, cur, fz, rfl, _, hgb, _⟩
  · simp [Value.ownBlock]
  · intro e'
    obtain rfl : B = g := by simpa [Value.ownBlock] using e'
    have := (show W.heap[B]? = _ from hb).symm.trans hgb
    simp at this
    exact ht this.2.1
theorem RF.blk {W : World} {base : Nat} {v : Value} {l : List UInt8} (h : RF W base v l) : ∀ k, v.ownBlock = some k → base ≤ k ∧ ∃ o : Obj, W.heap[k]? = some o ∧ o.isCells = true := by
  intro k e
  rcases h.2 with ⟨rfl, _⟩ | ⟨g, cap, cur, fz, rfl, hb, hgb, _⟩
  · simp [Value.ownBlock] at e
  · obtain rfl : g = k := by simpa [Value.ownBlock] using e
    exact ⟨hb, _, hgb, rfl⟩
theorem RF.cells {W : World} {base : Nat} {v : Value} {l : List UInt8} (h : RF W base v l) (h0 : 0 < l.length) : ∃ g cap, v = .slice (some ⟨g, 0, none⟩) l.length cap ∧ l.length ≤ cap ∧ cap ≤ maxLen ∧ ∀ i, i < l.length → W.cell? ⟨g, i, none⟩ = some (.int .u8 ((l.getD i 0).toNat : Int)) := by
  rcases h.2 with ⟨_, h2⟩ | ⟨g, cap, cur, fz, rfl, hb, hgb, _, hn, hc, hz, ht⟩
  · omega
  · refine ⟨g, cap, rfl, hn, hc, fun i hi => ?_⟩
    rw [cell_of_row _ _ _ _ _ _ hgb]
    have e : cur.toList[i]? = (Lib.byteCells l)[i]? := by rw [← ht, List.getElem?_take_of_lt (by omega)]
    rw [← Array.getElem?_toList, e]
    simp [Lib.byteCells, List.getD, hi]
theorem str_seg (s : ByteArray) (a c : Nat) : strOfNums ((seg s a c).map fun b => (b.toNat : Int)) = sgB s a c := by
  apply ba_ext
  rw [strOfNums_data, sgB_data, List.map_map]
  conv => rhs; rw [← List.map_id (seg s a c)]
  apply List.map_congr_left
  intro b _
  simp

/-- how many bytes are out before round k -/
def Lk (F k : Nat) : Nat := 32 * k - F
/-- before round k -/
def JT (g0 bo : Nat) (w : World) (F K1 : Nat) (s : ByteArray) (k : Nat) (W : World) : Prop :=
  Below g0 w W ∧ Boxed W (bo + 1) 9 (.string s) ∧ Boxed W (bo + 1 + 1) 3 (.int .i64 (F : Int)) ∧ k < K1 ∧ ∃ v, Boxed W bo 36 v ∧ RF W g0 v (seg s F (Lk F k))
theorem box_own {W W' : World} {row : Option Nat} {b : Nat} {t : TypeId} {u : Value} (h : Boxed W b t u) (hg : W.grownBy W' row) (hr2 : ∀ r, row = some r → ∃ o : Obj, W.heap[r]? = some o ∧ o.isCells = false) : Boxed W' b t u :=
  h.kept hg (fun e => by obtain ⟨o, ho, hc⟩ := hr2 _ e.symm; rw [show W.heap[b]? = _ from h] at ho; cases ho; cases hc)
theorem own_JT {g0 bo F K1 : Nat} {w : World} {s : ByteArray} (hn : g0 ≤ w.heap.size) (B : Nat) (hB : g0 ≤ B) : OwnFrom B (JT g0 bo w F K1 s) := by
  intro x W W' row ⟨h1, h2, h3, h5, v, h6, h7⟩ hg hr
  have hr2 : ∀ r, row = some r → ∃ o : Obj, W.heap[r]? = some o ∧ o.isCells = false := fun r e => (hr r e).2
  exact ⟨h1.grown hg (Nat.le_trans hn h1.size) (fun r e => Nat.le_trans hB (hr r e).1), box_own h2 hg hr2, box_own h3 hg hr2, h5, v, box_own h6 hg hr2, h7.own hg hr2⟩
/-- all is out -/
def JE (id : Nat) (g0 bo : Nat) (w : World) (F K1 : Nat) (s : ByteArray) (c : Code) (W : World) : Prop :=
  c = .exit id ∧ Below g0 w W ∧ ∃ v, Boxed W bo 36 v ∧ RF W g0 v (seg s F (Lk F K1))
theorem own_JE {id g0 bo F K1 : Nat} {w : World} {s : ByteArray} (hn : g0 ≤ w.heap.size) (B : Nat) (hB : g0 ≤ B) : OwnFrom B (JE id g0 bo w F K1 s) := by
  intro x W W' row ⟨h0, h1, v, h6, h7⟩ hg hr
  have hr2 : ∀ r, row = some r → ∃ o : Obj, W.heap[r]? = some o ∧ o.isCells = false := fun r e => (hr r e).2
  exact ⟨h0, h1.grown hg (Nat.le_trans hn h1.size) (fun r e => Nat.le_trans hB (hr r e).1), v, box_own h6 hg hr2, h7.own hg hr2⟩
/-- one more part -/
theorem JT_push {g0 bo F x : Nat} {w W w1 : World} {s : ByteArray} {v v' : Value} {l l' : List UInt8} (hn : g0 ≤ w.heap.size) (hgo : g0 ≤ bo) (h1 : Below g0 w W) (h2 : Boxed W (bo + 1) 9 (.string s)) (h3 : Boxed W (bo + 1 + 1) 3 (.int .i64 (F : Int))) (h6 : Boxed W bo 36 v) (h7 : RF W g0 v l)
    (hl : l' = seg s F x) (hown : w1.ownsRowF g0 5 1 v' l'.length (Lib.byteCells l')) (hg : W.grownBy w1 v.ownBlock) :
    (Boxed w1 bo 36 v ∧ KeepsOthers W (w1.setCell ⟨bo, 0, none⟩ v')) ∧ Below g0 w (w1.setCell ⟨bo, 0, none⟩ v') ∧ Boxed (w1.setCell ⟨bo, 0, none⟩ v') (bo + 1) 9 (.string s) ∧ Boxed (w1.setCell ⟨bo, 0, none⟩ v') (bo + 1 + 1) 3 (.int .i64 (F : Int)) ∧ Boxed (w1.setCell ⟨bo, 0, none⟩ v') bo 36 v' ∧ RF (w1.setCell ⟨bo, 0, none⟩ v') g0 v' (seg s F x) := by
  subst hl
  have b6 : Boxed w1 bo 36 v := h6.kept hg (h7.box h6 (by decide))
  have b2 : Boxed w1 (bo + 1) 9 (.string s) := h2.kept hg (h7.box h2 (by decide))
  have b3 : Boxed w1 (bo + 1 + 1) 3 (.int .i64 (F : Int)) := h3.kept hg (h7.box h3 (by decide))
  have gs := gb_set w1 bo 0 v'
  refine ⟨⟨b6, (KeepsOthers.of_grownBy hg fun j o ej hj => ?_).trans (KeepsOthers.setCell _ _ _)⟩, (h1.grown hg (Nat.le_trans hn h1.size) (fun r e => (h7.blk r e).1)).setCell (p := ⟨bo, 0, none⟩) hgo _, b2.kept gs (by simp), b3.kept gs (by simp; omega), b6.set v', ?_⟩
  · obtain ⟨o', ho', hc'⟩ := (h7.blk j ej).2
    rw [hj] at ho'; cases ho'; exact hc'
  · obtain ⟨q1, q2 | ⟨g, cap, cur, fz, e, hb, hh, rest⟩⟩ := hown
    · exact ⟨q1, .inl q2⟩
    · refine ⟨q1, .inr ⟨g, cap, cur, fz, e, hb, gb_block gs hh (fun e' => ?_), rest⟩⟩
      obtain rfl : g = bo := by cases e'; rfl
      have := (show w1.heap[g]? = _ from b6).symm.trans hh
      simp at this

theorem row_next {W : World} {g0 : Nat} {v' : Value} {l l' : List UInt8} {p : ByteArray} (h : W.ownsRowF g0 5 1 v' (l.length + p.size) (Lib.byteCells l ++ Lib.strCells p)) (e : l ++ p.data.toList = l') : W.ownsRowF g0 5 1 v' l'.length (Lib.byteCells l') := by
  subst e
  rw [List.length_append, len_data, Lib.byteCells_append]
  exact h

set_option maxRecDepth 1000000 in
set_option maxHeartbeats 4000000 in
theorem Stream0_any (s : ByteArray) (F C : Nat) (cf cc ck : Nat) (w : World) (hcf : w.cell? ⟨cf, 0, none⟩ = some (.int .i64 (F : Int))) (hcc : w.cell? ⟨cc, 0, none⟩ = some (.int .i64 (C : Int))) (hck : w.cell? ⟨ck, 0, none⟩ = some (.string s)) (hF : F ≤ 65536) (hC1 : 1 ≤ C) (hC : C + F ≤ 65536) (hs : s.size ≤ 3000) (ht : Tab w) :
    Calls Tryd.prog 18 #[.pointer (some ⟨cf, 0, none⟩), .pointer (some ⟨cc, 0, none⟩), .pointer (some ⟨ck, 0, none⟩)] w fun e w' => e = .returned (.string (sgB s F C)) ∧ w.grownBy w' none := by
  obtain ⟨i0, hi, hz0, hz1, hz2⟩ := info_parts byte_info
  have HRN := Lib.hid (fun w => refuse_no 7 w)
  have d1 : decide ((F : Int) < 0) = false := by simp
  have d2 : decide ((C : Int) < 0) = false := by simp
  have d3 : decide ((65536 : Int) < (F : Int)) = false := by simp; omega
  have d4 : decide ((65536 : Int) - (F : Int) < (C : Int)) = false := by simp; omega
  have d5 : ((C : Int) == 0) = false := by rw [beq_eq_false_iff_ne]; omega
  have HT := Lib.hid ht
  have HCF := Lib.hid hcf
  have HCC := Lib.hid hcc
  have HCK := Lib.hid hck
  clear ht
  refine (callsIn_wide (n := 6)).1 ?_
  refine callsIn_of_wp_marks Tryd.func18 rfl trivial ?_ rfl
  simp only [Tryd.ntmps18, List.size_toArray, List.length_cons, List.length_nil, Nat.reduceAdd, Nat.reduceSub, Array.replicate_succ, Array.replicate_zero, List.push_toArray, List.append_toArray, List.nil_append, List.cons_append]
  gi_wp2_with fail
  refine ⟨trivial, ?_⟩
  refine (callsIn_wide.2 (HRN.out _)).mono ?_
  rintro e w1 ⟨rfl, rfl⟩
  gi_wp2_with (gi_at_make; refine wpListIn_make_own _ rfl _ _ 36 rfl w.heap.size 5 i0 (.int .u8 0) 1 Tryd.underlying36 hi hz0 hz1 _ _ _ (C + 32) rfl rfl (by omega) (by rw [hz2]; omega) (by unfold maxLen; omega) (Nat.le_refl _) ?_; intro w1 hrow1 hg1; have k0 := gb_cell (gb_trans hg1 (gb_alloc w1 (.cells #[.slice (some ⟨w.heap.size, 0, none⟩) 0 (C + 32)] 36) none)) HCF.out (by simp); have k1 := gb_cell (gb_trans hg1 (gb_alloc w1 (.cells #[.slice (some ⟨w.heap.size, 0, none⟩) 0 (C + 32)] 36) none)) HCC.out (by simp); have k2 := gb_cell (gb_trans hg1 (gb_alloc w1 (.cells #[.slice (some ⟨w.heap.size, 0, none⟩) 0 (C + 32)] 36) none)) HCK.out (by simp))
  refine ⟨trivial, ?_⟩
  refine (stream_in _ s _ _).mono ?_
  rintro e w2 ⟨rfl, rfl⟩
  gi_wp2_with fail
  obtain ⟨W0, hW0⟩ : ∃ W0, ((w1.alloc (.cells #[.slice (some ⟨w.heap.size, 0, none⟩) 0 (C + 32)] 36)).alloc (.cells #[.string s] 9)).alloc (.cells #[.int .i64 (F : Int)] 3) = W0 := ⟨_, rfl⟩
  obtain ⟨K0, hK0⟩ : ∃ K0, F / 32 = K0 := ⟨_, rfl⟩
  obtain ⟨K1, hK1⟩ : ∃ K1, (F + C + 31) / 32 = K1 := ⟨_, rfl⟩
  have hsz : W0.heap.size = w1.heap.size + 3 := by rw [← hW0]; simp
  have hg01 : w.heap.size ≤ w1.heap.size := hg1.size
  have gW : w.grownBy W0 none := by rw [← hW0]; exact gb_trans hg1 (gb_trans (gb_trans (gb_alloc _ _ _) (gb_alloc _ _ _)) (gb_alloc _ _ _))
  have hJ0 : JT w.heap.size w1.heap.size w F K1 s K0 W0 := by
    have s1 : (w1.alloc (.cells #[.slice (some ⟨w.heap.size, 0, none⟩) 0 (C + 32)] 36)).heap.size = w1.heap.size + 1 := by simp
    have s2 : ((w1.alloc (.cells #[.slice (some ⟨w.heap.size, 0, none⟩) 0 (C + 32)] 36)).alloc (.cells #[.string s] 9)).heap.size = w1.heap.size + 1 + 1 := by simp
    have e0 : seg s F (Lk F K0) = [] := by unfold Lk; rw [show 32 * K0 - F = 0 by omega]; rfl
    refine ⟨below_gb gW, ?_, ?_, by omega, .slice (some ⟨w.heap.size, 0, none⟩) 0 (C + 32), ?_, ?_⟩
    · rw [← hW0, ← s1]; exact (Boxed.new _ _ _).alloc _
    · rw [← hW0, ← s2]; exact Boxed.new _ _ _
    · rw [← hW0]; exact ((Boxed.new w1 _ _).alloc _).alloc _
    · rw [e0, ← hW0]; exact World.ownsRowF_of (World.ownsRow.alloc (World.ownsRow.alloc (World.ownsRow.alloc hrow1 _) _) _)
  have HTW : Hid (∀ W, Below w.heap.size w W → Tab W) := Lib.hid (fun W h => HT.out.below h)
  have lcf : cf < w.heap.size := World.block_lt_of_cell? _ _ hcf
  have lcc : cc < w.heap.size := World.block_lt_of_cell? _ _ hcc
  rw [hW0]
  clear hW0 gW k0 k1 k2
  obtain ⟨bo, hbo⟩ : ∃ bo, w1.heap.size = bo := ⟨_, rfl⟩
  obtain ⟨g0, hg0⟩ : ∃ g0, w.heap.size = g0 := ⟨_, rfl⟩
  have HG0 := Lib.hid hg0
  rw [hbo, hg0] at hJ0 hg01
  rw [hbo] at hsz ⊢
  rw [hg0] at lcf lcc HTW ⊢
  have hgw : g0 ≤ w.heap.size := by omega
  clear hbo hg0 hrow1 hg1 hcf hcc hck
  refine Rf.range_fn (F := Fence.wide) (n := 6) rfl (by omega) (gf := 25) (lb := #[.pointer (some ⟨bo + 1 + 1, 0, none⟩), .pointer (some ⟨bo + 1, 0, none⟩)]) rfl trivial (enters_of Tryd.func25 (by kernel_rfl) rfl)
    (fun k : Nat => #[.int .i64 ((k : Int) * 32), .string (pt s k)]) (fun _ => rfl) (JT g0 bo w F K1 s K0) (fun k W => K0 ≤ k ∧ JT g0 bo w F K1 s k W) (fun k => JT g0 bo w F K1 s (k + 1)) (JE 0 g0 bo w F K1 s) (JE 0 g0 bo w F K1 s) (fun _ => False)
    (fun _ W W' row h hg hr => own_JT hgw _ (by omega) K0 W W' row h hg hr) (fun k W W' row ⟨h1, h2⟩ hg hr => ⟨h1, own_JT hgw _ (by omega) k W W' row h2 hg hr⟩) (fun k W W' row h hg hr => own_JT hgw _ (by omega) (k + 1) W W' row h hg hr) (own_JE hgw _ (by omega)) (own_JE hgw _ (by omega)) (fun _ _ _ _ h _ _ => h) hJ0
    (fun k => { tmps := #[.pointer (some ⟨cf, 0, none⟩), .pointer (some ⟨cc, 0, none⟩), .pointer (some ⟨ck, 0, none⟩), .string { data := #[] }, .pointer (some ⟨bo, 0, none⟩), .int .i64 ((k : Int) * 32), .string (pt s k), .int .i64 (F : Int), .bool false, .bool false, .int .i64 (C : Int), .bool false, .bool false, .bool false, .int .i64 (F : Int), .bool false, .bool false, .bool false, .int .i64 (C : Int), .int .i64 (F : Int), .int .i64 (65536 - (F : Int)), .bool false, .bool false, .tuple #[], .int .i64 (C : Int), .int .i64 ((C : Int) + 32), .slice (some ⟨g0, 0, none⟩) 0 (C + 32), .int .i64 (C : Int), .bool false, .string s, .int .i64 (F : Int), .func (.func 25) #[] #[.pointer (some ⟨bo + 1 + 1, 0, none⟩), .pointer (some ⟨bo + 1, 0, none⟩)], .int .i64 ((k : Int) * 32), .string (pt s k), undef, undef, undef, undef, undef, undef, undef, undef, undef, undef, undef, undef, undef, undef, undef, undef, undef, undef, undef], defers := [] }) ?_ ?_ ?_ ?_ ?_
  · intro lp k W K hK
    rw [Rf.zip2]
    change Code.wpIn _ _ _ _ _ { tmps := #[.pointer (some ⟨cf, 0, none⟩), .pointer (some ⟨cc, 0, none⟩), .pointer (some ⟨ck, 0, none⟩), .string { data := #[] }, .pointer (some ⟨bo, 0, none⟩), undef, undef, .int .i64 (F : Int), .bool false, .bool false, .int .i64 (C : Int), .bool false, .bool false, .bool false, .int .i64 (F : Int), .bool false, .bool false, .bool false, .int .i64 (C : Int), .int .i64 (F : Int), .int .i64 (65536 - (F : Int)), .bool false, .bool false, .tuple #[], .int .i64 (C : Int), .int .i64 ((C : Int) + 32), .slice (some ⟨g0, 0, none⟩) 0 (C + 32), .int .i64 (C : Int), .bool false, .string s, .int .i64 (F : Int), .func (.func 25) #[] #[.pointer (some ⟨bo + 1 + 1, 0, none⟩), .pointer (some ⟨bo + 1, 0, none⟩)], .int .i64 ((k : Int) * 32), .string (pt s k), undef, undef, undef, undef, undef, undef, undef, undef, undef, undef, undef, undef, undef, undef, undef, undef, undef, undef, undef], defers := [] } W
    gi_wp2
    exact hK
  · rintro lp k W ⟨hkK, hbe, hb2, hb3, hk1, v, hb6, hrf⟩
    have kf := hbe.cell (p := ⟨cf, 0, none⟩) lcf
    rw [HCF.out] at kf
    have kc := hbe.cell (p := ⟨cc, 0, none⟩) lcc
    rw [HCC.out] at kc
    have c6 := hb6.cell
    have f6 := hb6.frozen
    have hps := pt_size s k
    have hk5 : k < 3000 := by omega
    have hWs : g0 ≤ W.heap.size := Nat.le_trans hgw hbe.size
    have hln : (seg s F (Lk F k)).length = Lk F k := seg_len _ _ _
    have hLk : Lk F k ≤ 70000 := by unfold Lk; omega
    have hL1 : Lk F (k + 1) = 32 * (k + 1) - F := rfl
    obtain ⟨X, hX⟩ : ∃ X, Lk F (k + 1) = X := ⟨_, rfl⟩
    have hXe : X = 32 * (k + 1) - F := by rw [← hX]; exact hL1
    by_cases hA : 32 * k < F
    · have hA' : decide ((k : Int) * 32 < (F : Int)) = true := by simp; omega
      have hseg : seg s F (Lk F k) ++ ((pt s k).extract (F - 32 * k) 32).data.toList = seg s F X := by
        rw [hXe, sgB_part, sgB_ext _ _ _ _ _ (by omega) (Nat.le_refl _), sgB_data, show Lk F k = 0 by unfold Lk; omega, show 32 * k + (F - 32 * k) = F by omega, show 32 - (F - 32 * k) = 32 * (k + 1) - F by omega]
        rfl
      have hqs : ((pt s k).extract (F - 32 * k) 32).size ≤ 32 := by rw [ByteArray.size_extract]; omega
      have hsub1 : (F : Int) - (k : Int) * 32 = ((F - 32 * k : Nat) : Int) := by omega
      have hsub2 : F - 32 * k ≤ 32 := by omega
      obtain ⟨p, hp⟩ : ∃ p, pt s k = p := ⟨_, rfl⟩
      rw [hp] at hps hseg hqs
      obtain ⟨f, hf⟩ : ∃ f, F - 32 * k = f := ⟨_, rfl⟩
      rw [hf] at hsub1 hsub2 hseg hqs
      have HQS := Lib.hid hqs
      have HSEG := Lib.hid hseg
      have HRF := Lib.hid hrf
      have HBE := Lib.hid hbe
      have HB2 := Lib.hid hb2
      have HB3 := Lib.hid hb3
      have HB6 := Lib.hid hb6
      obtain ⟨l, hl⟩ : ∃ l, seg s F (Lk F k) = l := ⟨_, rfl⟩
      rw [hl] at hln
      simp only [hl] at HRF HSEG
      have HLN := Lib.hid hln
      have HX := Lib.hid hX
      have hps1 : (p.size : Int) ≤ 32 := by omega
      have hps2 : (32 : Int) ≤ (p.size : Int) := by omega
      rw [hp]
      clear hp hseg hrf hbe hb2 hb3 hb6 hl hln hJ0 hL1 hX hf hqs hA
      by_cases hend : k + 1 = K1
      · have d6 : decide (C ≤ X) = true := by simp; omega
        have hX0 : 0 < X := by omega
        have HXE := Lib.hid hXe
        have HEND := Lib.hid hend
        clear hXe hend
        gi_wp2_with (gi_at_builtin; refine Lib.wpListIn_append_own_stringF _ rfl _ _ 36 9 rfl g0 5 i0 Tryd.underlying36 Tryd.underlying9 hi hz0 hz1 hz2 _ l.length (Lib.byteCells l) rfl HRF.out (p.extract f 32) rfl (by have := HQS.out; rw [HLN.out]; unfold maxLen; omega) (by have := HQS.out; rw [HLN.out]; omega) hWs ?_; intro v' w2 hown' hg2 _; obtain ⟨⟨jb, jk⟩, j1, j2, j3, j4, j5⟩ := JT_push hgw hg01 HBE.out HB2.out HB3.out HB6.out HRF.out rfl (row_next hown' HSEG.out) hg2; obtain ⟨g', cap', e', hcap', _, _⟩ := j5.cells (by rw [seg_len]; omega); rw [seg_len] at e' hcap'; subst e'; have cb1 := jb.cell; have fb1 := jb.frozen; have kc2 := j1.cell (p := ⟨cc, 0, none⟩) lcc; rw [HCC.out] at kc2; have HJK := Lib.hid jk; have H1 := Lib.hid j1; have H2 := Lib.hid j2; have H3 := Lib.hid j3; have H4 := Lib.hid j4; have H5 := Lib.hid j5; clear jb jk j1 j2 j3 j4 j5 hown' hg2)
        exact ⟨HJK.out, rfl, H1.out, _, H4.out, by rw [← HEND.out, HX.out]; exact H5.out⟩
      · have d6 : decide (C ≤ X) = false := by simp; omega
        have hX0 : 0 < X := by omega
        have HXE := Lib.hid hXe
        have HEND := Lib.hid hend
        clear hXe hend
        gi_wp2_with (gi_at_builtin; refine Lib.wpListIn_append_own_stringF _ rfl _ _ 36 9 rfl g0 5 i0 Tryd.underlying36 Tryd.underlying9 hi hz0 hz1 hz2 _ l.length (Lib.byteCells l) rfl HRF.out (p.extract f 32) rfl (by have := HQS.out; rw [HLN.out]; unfold maxLen; omega) (by have := HQS.out; rw [HLN.out]; omega) hWs ?_; intro v' w2 hown' hg2 _; obtain ⟨⟨jb, jk⟩, j1, j2, j3, j4, j5⟩ := JT_push hgw hg01 HBE.out HB2.out HB3.out HB6.out HRF.out rfl (row_next hown' HSEG.out) hg2; obtain ⟨g', cap', e', hcap', _, _⟩ := j5.cells (by rw [seg_len]; omega); rw [seg_len] at e' hcap'; subst e'; have cb1 := jb.cell; have fb1 := jb.frozen; have kc2 := j1.cell (p := ⟨cc, 0, none⟩) lcc; rw [HCC.out] at kc2; have HJK := Lib.hid jk; have H1 := Lib.hid j1; have H2 := Lib.hid j2; have H3 := Lib.hid j3; have H4 := Lib.hid j4; have H5 := Lib.hid j5; clear jb jk j1 j2 j3 j4 j5 hown' hg2)
        exact ⟨HJK.out, H1.out, H2.out, H3.out, by have := HEND.out; omega, _, H4.out, by rw [HX.out]; exact H5.out⟩
    · have hA' : decide ((k : Int) * 32 < (F : Int)) = false := by simp; omega
      have hseg : seg s F (Lk F k) ++ (pt s k).data.toList = seg s F X := by
        rw [← seg_part, hXe, show 32 * (k + 1) - F = Lk F k + 32 by unfold Lk; omega, seg_add, show F + Lk F k = 32 * k by unfold Lk; omega]
      obtain ⟨q, hp⟩ : ∃ q, pt s k = q := ⟨_, rfl⟩
      rw [hp] at hps hseg
      have HQS := Lib.hid (show q.size ≤ 32 by omega)
      have HSEG := Lib.hid hseg
      have HRF := Lib.hid hrf
      have HBE := Lib.hid hbe
      have HB2 := Lib.hid hb2
      have HB3 := Lib.hid hb3
      have HB6 := Lib.hid hb6
      obtain ⟨l, hl⟩ : ∃ l, seg s F (Lk F k) = l := ⟨_, rfl⟩
      rw [hl] at hln
      simp only [hl] at HRF HSEG
      have HLN := Lib.hid hln
      have HX := Lib.hid hX
      rw [hp]
      clear hp hps hseg hrf hbe hb2 hb3 hb6 hl hln hJ0 hL1 hX
      by_cases hend : k + 1 = K1
      · have d6 : decide (C ≤ X) = true := by simp; omega
        have hX0 : 0 < X := by omega
        have HXE := Lib.hid hXe
        have HEND := Lib.hid hend
        clear hXe hend
        gi_wp2_with (gi_at_builtin; refine Lib.wpListIn_append_own_stringF _ rfl _ _ 36 9 rfl g0 5 i0 Tryd.underlying36 Tryd.underlying9 hi hz0 hz1 hz2 _ l.length (Lib.byteCells l) rfl HRF.out q rfl (by have := HQS.out; rw [HLN.out]; unfold maxLen; omega) (by have := HQS.out; rw [HLN.out]; omega) hWs ?_; intro v' w2 hown' hg2 _; obtain ⟨⟨jb, jk⟩, j1, j2, j3, j4, j5⟩ := JT_push hgw hg01 HBE.out HB2.out HB3.out HB6.out HRF.out rfl (row_next hown' HSEG.out) hg2; obtain ⟨g', cap', e', hcap', _, _⟩ := j5.cells (by rw [seg_len]; omega); rw [seg_len] at e' hcap'; subst e'; have cb1 := jb.cell; have fb1 := jb.frozen; have kc2 := j1.cell (p := ⟨cc, 0, none⟩) lcc; rw [HCC.out] at kc2; have HJK := Lib.hid jk; have H1 := Lib.hid j1; have H2 := Lib.hid j2; have H3 := Lib.hid j3; have H4 := Lib.hid j4; have H5 := Lib.hid j5; clear jb jk j1 j2 j3 j4 j5 hown' hg2)
        exact ⟨HJK.out, rfl, H1.out, _, H4.out, by rw [← HEND.out, HX.out]; exact H5.out⟩
      · have d6 : decide (C ≤ X) = false := by simp; omega
        have hX0 : 0 < X := by omega
        have HXE := Lib.hid hXe
        have HEND := Lib.hid hend
        clear hXe hend
        gi_wp2_with (gi_at_builtin; refine Lib.wpListIn_append_own_stringF _ rfl _ _ 36 9 rfl g0 5 i0 Tryd.underlying36 Tryd.underlying9 hi hz0 hz1 hz2 _ l.length (Lib.byteCells l) rfl HRF.out q rfl (by have := HQS.out; rw [HLN.out]; unfold maxLen; omega) (by have := HQS.out; rw [HLN.out]; omega) hWs ?_; intro v' w2 hown' hg2 _; obtain ⟨⟨jb, jk⟩, j1, j2, j3, j4, j5⟩ := JT_push hgw hg01 HBE.out HB2.out HB3.out HB6.out HRF.out rfl (row_next hown' HSEG.out) hg2; obtain ⟨g', cap', e', hcap', _, _⟩ := j5.cells (by rw [seg_len]; omega); rw [seg_len] at e' hcap'; subst e'; have cb1 := jb.cell; have fb1 := jb.frozen; have kc2 := j1.cell (p := ⟨cc, 0, none⟩) lcc; rw [HCC.out] at kc2; have HJK := Lib.hid jk; have H1 := Lib.hid j1; have H2 := Lib.hid j2; have H3 := Lib.hid j3; have H4 := Lib.hid j4; have H5 := Lib.hid j5; clear jb jk j1 j2 j3 j4 j5 hown' hg2)
        exact ⟨HJK.out, H1.out, H2.out, H3.out, by have := HEND.out; omega, _, H4.out, by rw [HX.out]; exact H5.out⟩
  · intro lp B Bx hB hBx hY W hJ hBW _
    refine (stream1_in (6 - 1) lp (bo + 1 + 1) (bo + 1) K0 K1 F s (by omega) hK0 hF (by omega) hs (JT g0 bo w F K1 s) (JE 0 g0 bo w F K1 s) Bx B (fun k W h => ⟨h.2.2.1.cell, h.2.1.cell, HTW.out _ h.1, h.2.2.2.1⟩)
      (fun k W W' h hg => own_JT hgw g0 (Nat.le_refl _) k W W' none h hg (fun r e => by cases e)) hB (fun k W1 h1 h2 h3 => hY k W1 ⟨h1, h2⟩ h3) W hJ hBW).mono ?_
    rintro e W' ⟨hv, hx⟩
    exact ⟨hv, .inr hx⟩
  · intro D W hD h
    exact h.elim
  · rintro D c W hD ⟨rfl, hbe, v, hb6, hrf⟩ hK
    have kc := hbe.cell (p := ⟨cc, 0, none⟩) lcc
    rw [HCC.out] at kc
    have hL : (seg s F (Lk F K1)).length = Lk F K1 := seg_len _ _ _
    have hLC : C ≤ Lk F K1 := by unfold Lk; omega
    obtain ⟨g, cap, rfl, hcap, hcm, hcells⟩ := hrf.cells (by rw [hL]; omega)
    have c6 := hb6.cell
    rw [hL] at c6 hcap
    have HCV : (convert 36 9 (.slice (some ⟨g, 0, none⟩) C cap)).run Tryd.prog W = .ok (.string (sgB s F C)) W := by
      rw [← str_seg]
      refine run_convert_bytes_arg (P := Tryd.prog) _ 36 5 Tryd.underlying36 Tryd.underlying5 g 0 C cap _ (by simp [seg_len]) (fun i hi => ?_) 9 Tryd.underlying9
      rw [Nat.zero_add, hcells i (by rw [hL]; omega)]
      have e1 : (seg s F (Lk F K1)).getD i 0 = sby s (F + i) := by rw [List.getD, seg_at _ _ _ _ (by omega)]; rfl
      have e2 : ((seg s F C).map fun b => (b.toNat : Int)).getD i 0 = ((sby s (F + i)).toNat : Int) := by rw [List.getD, List.getElem?_map, seg_at _ _ _ _ hi]; rfl
      rw [e1, e2]
    have HBE := Lib.hid hbe
    have HK := Lib.hid hK
    have hcap2 : C ≤ cap := by omega
    unfold maxLen at hcm
    have hD0 : g0 ≤ D := by omega
    clear hbe hb6 hrf hcells hL hK hJ0
    gi_wp2_with fail
    refine ⟨by simp, .inl ⟨_, _, rfl, run_takeDeferred HK.out, ?_⟩⟩
    refine ⟨.string (sgB s F C), ?_, rfl, ?_⟩
    · simp [results, Tryd.results18, go_sem]
    · exact gb_below (by rw [HG0.out]; exact HBE.out.grown (grownBy_putObj' W D _) (Nat.le_trans hgw HBE.out.size) (fun k e => by cases e; exact hD0)) none

set_option maxRecDepth 100000 in
set_option maxHeartbeats 1600000 in
theorem Stream0_zero (s : ByteArray) (F : Nat) (cf cc ck : Nat) (w : World) (hcf : w.cell? ⟨cf, 0, none⟩ = some (.int .i64 (F : Int))) (hcc : w.cell? ⟨cc, 0, none⟩ = some (.int .i64 0)) (hF : F ≤ 65536) :
    Calls Tryd.prog 18 #[.pointer (some ⟨cf, 0, none⟩), .pointer (some ⟨cc, 0, none⟩), .pointer (some ⟨ck, 0, none⟩)] w fun e w' => e = .returned (.string ⟨#[]⟩) ∧ w.grownBy w' none := by
  obtain ⟨i0, hi, hz0, hz1, hz2⟩ := info_parts byte_info
  have HRN := Lib.hid (fun w => refuse_no 7 w)
  have d1 : decide ((F : Int) < 0) = false := by simp
  have d3 : decide ((65536 : Int) < (F : Int)) = false := by simp; omega
  have d4 : decide ((65536 : Int) - (F : Int) < 0) = false := by simp; omega
  have HCF := Lib.hid hcf
  have HCC := Lib.hid hcc
  go_enter Tryd.func18, Tryd.ntmps18
  go_wp2_with fail
  refine (HRN.out _).mono ?_
  rintro e w1 ⟨rfl, rfl⟩
  go_wp2_with (at_make; refine wpList_make_own _ rfl _ _ 36 rfl w.heap.size 5 i0 (.int .u8 0) 1 Tryd.underlying36 hi hz0 hz1 _ _ _ 32 rfl rfl (by omega) (by rw [hz2]; omega) (by unfold maxLen; omega) (Nat.le_refl _) ?_; intro w1 hrow1 hg1; have k1 := gb_cell (gb_trans hg1 (gb_alloc w1 (.cells #[.slice (some ⟨w.heap.size, 0, none⟩) 0 32] 36) none)) HCC.out (by simp))
  go_ret
  exact ⟨rfl, gb_trans hg1 (gb_alloc _ _ _)⟩

def badS (F C : Int) : Prop := F < 0 ∨ C < 0 ∨ 65536 < F ∨ 65536 - F < C
instance (F C : Int) : Decidable (badS F C) := inferInstanceAs (Decidable (_ ∨ _))
set_option maxRecDepth 100000 in
set_option maxHeartbeats 1600000 in
theorem Stream0_no (F C : Int) (cf cc ck : Nat) (w : World) (hcf : w.cell? ⟨cf, 0, none⟩ = some (.int .i64 F)) (hcc : w.cell? ⟨cc, 0, none⟩ = some (.int .i64 C)) (h : badS F C) :
    Calls Tryd.prog 18 #[.pointer (some ⟨cf, 0, none⟩), .pointer (some ⟨cc, 0, none⟩), .pointer (some ⟨ck, 0, none⟩)] w fun e w' => e = .panicked [{ v := .iface 23 (.int .i64 7), recovered := false }] ∧ w.grownBy w' none := by
  have HRN := Lib.hid (fun w => refuse_yes 7 w)
  have h4 : (F < 0) ∨ (0 ≤ F ∧ C < 0) ∨ (0 ≤ F ∧ 0 ≤ C ∧ 65536 < F) ∨ (0 ≤ F ∧ 0 ≤ C ∧ F ≤ 65536 ∧ 65536 - F < C) := by unfold badS at h; omega
  clear h
  rcases h4 with h | h | h | h
  · have d1 : decide (F < 0) = true := by simp; omega
    clear h
    go_enter Tryd.func18, Tryd.ntmps18
    go_wp2_with fail
    refine (HRN.out _).mono ?_
    rintro e w1 ⟨rfl, rfl⟩
    exact ⟨rfl, rfl, gb_refl _ _⟩
  · have d1 : decide (F < 0) = false := by simp; omega
    have d2 : decide (C < 0) = true := by simp; omega
    clear h
    go_enter Tryd.func18, Tryd.ntmps18
    go_wp2_with fail
    refine (HRN.out _).mono ?_
    rintro e w1 ⟨rfl, rfl⟩
    exact ⟨rfl, rfl, gb_refl _ _⟩
  · have d1 : decide (F < 0) = false := by simp; omega
    have d2 : decide (C < 0) = false := by simp; omega
    have d3 : decide (65536 < F) = true := by simp; omega
    clear h
    go_enter Tryd.func18, Tryd.ntmps18
    go_wp2_with fail
    refine (HRN.out _).mono ?_
    rintro e w1 ⟨rfl, rfl⟩
    exact ⟨rfl, rfl, gb_refl _ _⟩
  · have d1 : decide (F < 0) = false := by simp; omega
    have d2 : decide (C < 0) = false := by simp; omega
    have d3 : decide (65536 < F) = false := by simp; omega
    have d4 : decide (65536 - F < C) = true := by simp; omega
    have f0 : 0 ≤ F := by omega
    have f1 : F ≤ 65536 := by omega
    clear h
    go_enter Tryd.func18, Tryd.ntmps18
    go_wp2_with fail
    refine (HRN.out _).mono ?_
    rintro e w1 ⟨rfl, rfl⟩
    exact ⟨rfl, rfl, gb_refl _ _⟩

/-- what Stream returns -/
def stE (F C : Int) : Int := if badS F C then 7 else 0
def stS (s : ByteArray) (F C : Int) : ByteArray := if badS F C then ⟨#[]⟩ else sgB s F.toNat C.toNat
theorem enterStream (args : Array Value) (w : World) : (callFunc 18 args).run Tryd.prog w = .ok (.enter 18 args) w := by kernel_rfl

set_option maxRecDepth 100000 in
set_option maxHeartbeats 800000 in
theorem Stream_any (s : ByteArray) (F C : Int) (w : World) (hs : s.size ≤ 3000) (ht : Tab w) :
    Calls Tryd.prog 13 #[.string s, .int .i64 F, .int .i64 C] w fun e w' => e = .returned (.tuple #[.string (stS s F C), .int .i64 (stE F C)]) ∧ w.grownBy w' none := by
  have hmf : ∀ (fn : Fn) (first cap : Array Value) (w : World), (Instr.makeFunc fn first cap).run Tryd.prog w = .ok (.func fn first cap) w := fun _ _ _ _ => rfl
  obtain ⟨wb, hwb⟩ : ∃ wb, ((w.alloc (.cells #[.string s] 9)).alloc (.cells #[.int .i64 F] 3)).alloc (.cells #[.int .i64 C] 3) = wb := ⟨_, rfl⟩
  have g3 : w.grownBy wb none := by rw [← hwb]; exact gb_trans (gb_trans (gb_alloc _ _ _) (gb_alloc _ _ _)) (gb_alloc _ _ _)
  have ga : wb.grownBy (aw wb) none := gb_trans (gb_alloc _ _ _) (gb_alloc _ _ _)
  have k0 : (aw wb).cell? ⟨w.heap.size, 0, none⟩ = some (.string s) := gb_cell (gb_trans (by rw [← hwb]; exact gb_trans (gb_alloc _ _ _) (gb_alloc _ _ _)) ga) (cell_one_new w _ _ 0 _ rfl) (by simp)
  have k1 : (aw wb).cell? ⟨w.heap.size + 1, 0, none⟩ = some (.int .i64 F) := by
    have := cell_one_new (w.alloc (.cells #[.string s] 9)) (.int .i64 F) 3 0 _ rfl
    rw [World.size_alloc] at this
    exact gb_cell (gb_trans (by rw [← hwb]; exact gb_alloc _ _ none) ga) this (by simp)
  have k2 : (aw wb).cell? ⟨w.heap.size + 1 + 1, 0, none⟩ = some (.int .i64 C) := by
    have := cell_one_new ((w.alloc (.cells #[.string s] 9)).alloc (.cells #[.int .i64 F] 3)) (.int .i64 C) 3 0 _ rfl
    rw [World.size_alloc, World.size_alloc, hwb] at this
    exact gb_cell ga this (by simp)
  have hta : Tab (aw wb) := tab_gb ht (gb_trans g3 ga)
  have H : Hid (Calls Tryd.prog 17 #[.func (Fn.func 18) #[] #[.pointer (some ⟨w.heap.size + 1, 0, none⟩), .pointer (some ⟨w.heap.size + 1 + 1, 0, none⟩), .pointer (some ⟨w.heap.size, 0, none⟩)]] wb fun e w' => e = .returned (.tuple #[.string (stS s F C), .int .i64 (stE F C)]) ∧ wb.grownBy w' none) := by
    refine Lib.hid ?_
    by_cases h : badS F C
    · rw [show stS s F C = ⟨#[]⟩ from if_pos h, show stE F C = 7 from if_pos h]
      exact (attempt_err _ _ 7 wb enterStream ((Stream0_no F C _ _ _ _ k1 k2 h).mono fun e w' hh => ⟨hh.1, below_gb hh.2⟩)).mono fun e w' hh => ⟨hh.1, gb_below hh.2 none⟩
    · rw [show stS s F C = sgB s F.toNat C.toNat from if_neg h, show stE F C = 0 from if_neg h]
      unfold badS at h
      obtain ⟨f, rfl⟩ : ∃ f : Nat, F = f := ⟨F.toNat, by omega⟩
      obtain ⟨c, rfl⟩ : ∃ c : Nat, C = c := ⟨C.toNat, by omega⟩
      rw [Int.toNat_natCast, Int.toNat_natCast]
      by_cases h0 : c = 0
      · subst h0
        exact (attempt_ret _ _ _ wb enterStream ((Stream0_zero s f _ _ _ _ k1 k2 (by omega)).mono fun e w' hh => ⟨hh.1, below_gb hh.2⟩)).mono fun e w' hh => ⟨hh.1, gb_below hh.2 none⟩
      · exact (attempt_ret _ _ _ wb enterStream ((Stream0_any s f c _ _ _ _ k1 k2 k0 (by omega) (by omega) (by omega) hs hta).mono fun e w' hh => ⟨hh.1, below_gb hh.2⟩)).mono fun e w' hh => ⟨hh.1, gb_below hh.2 none⟩
  obtain ⟨x, hx⟩ : ∃ x, stS s F C = x := ⟨_, rfl⟩
  obtain ⟨y, hy⟩ : ∃ y, stE F C = y := ⟨_, rfl⟩
  rw [hx, hy] at H ⊢
  have HW := Lib.hid g3
  rw [← hwb] at H HW
  clear hx hy g3 ga k0 k1 k2 hta ht hwb
  go_enter Tryd.func13, Tryd.ntmps13
  go_wp2_with fail
  refine H.out.mono ?_
  rintro e w1 ⟨rfl, hg⟩
  have HG := Lib.hid (gb_trans HW.out hg)
  clear hg
  go_wp2
  go_ret2
  exact ⟨rfl, HG.out⟩
end Go.Proofs.YtojgigoknjenoaaDoor.Hi
