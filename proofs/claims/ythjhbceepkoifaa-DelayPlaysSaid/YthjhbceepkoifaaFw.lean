/-
  The program's Bases, Base, Target.
-/
import Derived.Test.YthjhbceepkoifaaFv
import Derived.OwnWalkIn
import Derived.RangeFuncBox
import Derived.TacticsInMore
import Derived.LoopNIn
import Derived.LoopIn
namespace Go.Proofs.Ythjhbceepkoifaa.Fw
open Go Go.RowKit Go.Shelf Go.Proofs.Ythjhbceepkoifaa.Ec Go.Proofs.Ythjhbceepkoifaa.Ee Go.Proofs.Ythjhbceepkoifaa.Rg Go.Proofs.Ythjhbceepkoifaa.Fa Go.Proofs.Ythjhbceepkoifaa.Fb Go.Proofs.Ythjhbceepkoifaa.Fc Go.Proofs.Ythjhbceepkoifaa.Fd Go.Proofs.Ythjhbceepkoifaa.Fe Go.Proofs.Ythjhbceepkoifaa.Fg Go.Proofs.Ythjhbceepkoifaa.Fh Go.Proofs.Ythjhbceepkoifaa.Fi Go.Proofs.Ythjhbceepkoifaa.Fj Go.Proofs.Ythjhbceepkoifaa.Fk Go.Proofs.Ythjhbceepkoifaa.Fl Go.Proofs.Ythjhbceepkoifaa.Fq Go.Proofs.Ythjhbceepkoifaa.Fr Go.Proofs.Ythjhbceepkoifaa.Fs Go.Proofs.Ythjhbceepkoifaa.Ft Go.Proofs.Ythjhbceepkoifaa.Or Go.Proofs.Ythjhbceepkoifaa.Rw Go.Proofs.Ythjhbceepkoifaa.Hz
attribute [local go_sem] Oper.semAt_some

set_option maxRecDepth 100000 in
set_option maxHeartbeats 2000000 in
/-- what a ring of bases yields, empty or not -/
theorem all1c_any (F : Fence) (n : Nat) (h7 : F.fn 68) (hro : F.round = none) (hn : 1 ≤ n) (l Bs n₀ cb co : Nat) (a : Option Addr) (len cap : Nat) (zs : List (Int × Int)) (hlz : zs.length = len) (hreach : len ≤ 1000000) (J Jx : List (Int × Int) → World → Prop) (W : World) (hnW : n₀ ≤ W.heap.size) (hJ : AbidesFrom W.heap.size J)
    (hY : ∀ pre x W, J pre W → pre.length < len → YieldAt F (n - 1) Try.prog l #[.agg #[.int .i64 x.1, .int .i64 x.2]] W fun e W' =>
      (e = .returned (.bool true) ∧ J (pre ++ [x]) W' ∧ Below n₀ W W') ∨ (e = .returned (.bool false) ∧ Jx (pre ++ [x]) W'))
    (hBs : W.cell? ⟨Bs, 0, none⟩ = some (.pointer (some ⟨cb, co, none⟩))) (hsl : W.cell? ⟨cb, co + 1, none⟩ = some (.slice a len cap)) (hc : 0 < len → ∃ b off, a = some ⟨b, off, none⟩ ∧ b < n₀ ∧ ∀ j, j < len → W.cell? ⟨b, off + j * 2, none⟩ = some (.int .i64 (zs[j]?.getD (0, 0)).1) ∧ W.cell? ⟨b, off + j * 2 + 1, none⟩ = some (.int .i64 (zs[j]?.getD (0, 0)).2)) (h0 : J [] W) :
    CallsIn F n Try.prog 68 #[.func (.yield l) #[] #[], .pointer (some ⟨Bs, 0, none⟩)] W fun e W' => (∃ v, e = .returned v) ∧
      ((∃ ys, ys = upto (fun j => zs[j]?.getD (0, 0)) len ∧ J ys W') ∨ (∃ pre, True ∧ Jx pre W')) := by
  refine callsIn_of_wp Try.func68 rfl h7 ?_ hro
  simp only [Try.ntmps68, List.size_toArray, List.length_cons, List.length_nil, Nat.reduceAdd, Nat.reduceSub, Array.replicate_succ, Array.replicate_zero, List.push_toArray, List.append_toArray, List.nil_append, List.cons_append]
  have HC := Lib.hid hc
  clear hc
  gi_wp2
  gi_loopw [4, 10] (fun _ i wr => ∃ k : Nat, k ≤ len ∧ i = .int .i64 k ∧ J (upto (fun j => zs[j]?.getD (0, 0)) k) wr ∧ Below n₀ W wr)
    (fun _ i _ => len - (intOf i).toNat)
  case atStart => exact ⟨0, Nat.zero_le _, rfl, h0, Below.refl _ _⟩
  case round =>
    obtain ⟨k, hk, rfl, hJs, hnx⟩ := hrel
    by_cases hlt : k < len
    · obtain ⟨b, off, rfl, hb, hcc⟩ := HC.out (by omega)
      obtain ⟨z, hz⟩ : ∃ z, zs[k]?.getD (0, 0) = z := ⟨_, rfl⟩
      have d0 : wr.cell? ⟨b, off + k * 2, none⟩ = some (.int .i64 z.1) := by rw [← hz]; exact (hnx.cell (p := ⟨b, off + k * 2, none⟩) hb).trans (hcc k hlt).1
      have d1 : wr.cell? ⟨b, off + k * 2 + 1, none⟩ = some (.int .i64 z.2) := by rw [← hz]; exact (hnx.cell (p := ⟨b, off + k * 2 + 1, none⟩) hb).trans (hcc k hlt).2
      have hJ1 : J (upto (fun j => zs[j]?.getD (0, 0)) k) (wr.alloc (.cells #[.int .i64 z.1, .int .i64 z.2] 81)) := hJ _ _ _ none hJs (World.grownBy_alloc _ _ _) (fun r e => by cases e)
      obtain ⟨fn, tmps, assign, body, hy, hR⟩ := hY _ z _ hJ1 (by rw [upto_length]; exact hlt)
      clear hcc
      gi_wp2
      refine hR.mono ?_
      rintro e W3 (⟨rfl, hJ3, hk3⟩ | ⟨rfl, hJx3⟩)
      · gi_wp2
        go_roundw
        case rel => exact ⟨k + 1, by omega, by simp, by rw [upto_succ, hz]; exact hJ3, (hnx.alloc (by have := hnx.size; omega) _).trans hk3⟩
        case measure => simp [intOf]; omega
      · gi_wp2
        refine bodyPost_ret (results_none rfl _ _ _) rfl ?_
        exact ⟨⟨_, rfl⟩, .inr ⟨_, trivial, hJx3⟩⟩
    · obtain rfl : k = len := by omega
      gi_wp2
      go_end0
      exact ⟨⟨_, rfl⟩, .inl ⟨_, rfl, hJs⟩⟩

theorem anyc_stops (F : Fence) (n : Nat) (h7 : F.fn 68) (hro : F.round = none) (hn : 1 ≤ n) (Bs n₀ cb co : Nat) (a : Option Addr) (len cap : Nat) (zs : List (Int × Int)) (hlz : zs.length = len) (hreach : len ≤ 1000000) (w : World) (hBs : Bs < w.heap.size) (hcb : cb < w.heap.size) (hn₀ : n₀ ≤ w.heap.size)
    (hc : w.cell? ⟨Bs, 0, none⟩ = some (.pointer (some ⟨cb, co, none⟩))) (hsl : w.cell? ⟨cb, co + 1, none⟩ = some (.slice a len cap)) (hz : 0 < len → ∃ b off, a = some ⟨b, off, none⟩ ∧ b < n₀ ∧ ∀ j, j < len → w.cell? ⟨b, off + j * 2, none⟩ = some (.int .i64 (zs[j]?.getD (0, 0)).1) ∧ w.cell? ⟨b, off + j * 2 + 1, none⟩ = some (.int .i64 (zs[j]?.getD (0, 0)).2)) :
    SeqStopsK F n Try.prog 68 #[.pointer (some ⟨Bs, 0, none⟩)] (fun x : Int × Int => #[.agg #[.int .i64 x.1, .int .i64 x.2]]) (Below n₀) (fun ys => ys = zs) (fun _ => True) len w := fun l J Jx W hW hJ _ hY h0 => by
  refine (all1c_any F n h7 hro hn l Bs n₀ cb co a len cap zs hlz hreach J Jx W (Nat.le_trans hn₀ hW.size) hJ hY ((hW.cell (p := ⟨Bs, 0, none⟩) hBs).trans hc) ((hW.cell (p := ⟨cb, co + 1, none⟩) hcb).trans hsl) (fun h => by
    obtain ⟨b, off, e, hb, hcc⟩ := hz h
    exact ⟨b, off, e, hb, fun j hj => ⟨(hW.cell (p := ⟨b, off + j * 2, none⟩) (show b < w.heap.size by omega)).trans (hcc j hj).1, (hW.cell (p := ⟨b, off + j * 2 + 1, none⟩) (show b < w.heap.size by omega)).trans (hcc j hj).2⟩⟩) h0).mono ?_
  rintro e W' ⟨he, ⟨ys, rfl, hj⟩ | h⟩
  · refine ⟨he, .inl ⟨_, ?_, hj⟩⟩
    subst hlz
    refine List.ext_getElem (by simp [upto]) fun i h1 h2 => ?_
    simp [upto, List.getElem?_eq_getElem h2]
  · exact ⟨he, .inr h⟩

theorem all_in (n : Nat) (p : Option Addr) (w : World) :
    CallsIn Fence.wide n Try.prog 57 #[.pointer p] w fun r w' => r = .returned (.func (.func 68) #[] #[.pointer (some ⟨w.heap.size, 0, none⟩)]) ∧ w' = w.alloc (.cells #[.pointer p] 95) := by
  refine callsIn_of_wp Try.func57 rfl trivial ?_ rfl
  simp only [Try.ntmps57, List.size_toArray, List.length_cons, List.length_nil, Nat.reduceAdd, Nat.reduceSub, Array.replicate_succ, Array.replicate_zero, List.push_toArray, List.append_toArray, List.nil_append, List.cons_append]
  gi_wp2
  go_ret
  exact ⟨rfl, rfl⟩

theorem row_cells {w : World} {ml : Value} {bs : List (Int × Int)} (h : Row w 2 ml bs.length (bcs bs)) : ∃ a cap, ml = .slice a bs.length cap ∧ (0 < bs.length → ∃ b off, a = some ⟨b, off, none⟩ ∧ b < w.heap.size ∧ ∀ j, j < bs.length → w.cell? ⟨b, off + j * 2, none⟩ = some (.int .i64 (bs[j]?.getD (0, 0)).1) ∧ w.cell? ⟨b, off + j * 2 + 1, none⟩ = some (.int .i64 (bs[j]?.getD (0, 0)).2)) := by
  rcases h.val with ⟨rfl, h0⟩ | ⟨g, off, cap, rfl, h1, h2, h3, h4⟩
  · exact ⟨none, 0, by rw [h0], fun h => absurd h (by omega)⟩
  · exact ⟨_, cap, rfl, fun _ => ⟨g, off, rfl, h3, row_bases rfl h⟩⟩

section
variable {w : World} {c : Nat} {s : St} {ml fl : Value}
set_option maxHeartbeats 400000 in
theorem Target_any (h : Ri w c s ml fl) :
    Calls Try.prog 28 #[.pointer (some ⟨c, 0, none⟩)] w fun e w' => e = .returned (.int .i64 s.target) ∧ w = w' := by
  have c3 := h.ctl.c3
  clear h
  go_enter Try.func28, Try.ntmps28
  go_wp2
  go_ret
  exact ⟨rfl, rfl⟩

/-- while Bases collects -/
def JB (bl : Nat) (w : World) (pre : List (Int × Int)) (W : World) : Prop := Below bl w W ∧ ∃ v, Boxed W bl 51 v ∧ OR W (bl + 1) v (pre.map Prod.snd)
theorem own_JB {bl : Nat} {w : World} (hn : bl ≤ w.heap.size) (B : Nat) (hB : bl ≤ B) : OwnFrom B (JB bl w) := by
  intro x W W' row ⟨h1, h4⟩ hg hr
  have hr2 : ∀ r, row = some r → ∃ o : Obj, W.heap[r]? = some o ∧ o.isCells = false := fun r e => (hr r e).2
  refine ⟨h1.grown hg (Nat.le_trans hn h1.size) (fun r e => Nat.le_trans hB (hr r e).1), ?_⟩
  obtain ⟨v, e1, e2, _⟩ := holdsRow_own (bl + 1) bl 51 3 1 (fun (_ : Unit) => (x.map Prod.snd).length) (fun _ => Or.cI (x.map Prod.snd)) (fun _ _ => True) () W W' row (by obtain ⟨v, e1, e2⟩ := h4; exact ⟨v, e1, e2, trivial⟩) hg hr2
  exact ⟨v, e1, e2⟩

theorem row_ne {W : World} {base size k B : Nat} {e : TypeId} {v : Value} {xs : List Value} (h : W.ownsRow base e size v k xs) (hb : B < base) : some B ≠ v.ownBlock := by
  rcases h.2 with ⟨rfl, _⟩ | ⟨g, cap, cur, rfl, hg, _⟩
  · simp [Value.ownBlock]
  · simp [Value.ownBlock]; omega
theorem row_weak {W : World} {base base' size k : Nat} {e : TypeId} {v : Value} {xs : List Value} (h : W.ownsRow base e size v k xs) (hb : base' ≤ base) : W.ownsRow base' e size v k xs := by
  obtain ⟨h1, h2 | ⟨g, cap, cur, e, hg, r⟩⟩ := h
  · exact ⟨h1, .inl h2⟩
  · exact ⟨h1, .inr ⟨g, cap, cur, e, Nat.le_trans hb hg, r⟩⟩
theorem own_mono {w : World} {base base' : Nat} {v : Value} {zs : List Int} (h : Or.OR w base v zs) (hb : base' ≤ base) : Or.OR w base' v zs := row_weak h hb
/-- one more number -/
theorem JB_push {W w w1 : World} {bl n : Nat} {v v' : Value} {tmp : Obj} {x : Int} {l' : List Int} (hbw : bl ≤ w.heap.size) (hbe : Below bl w W) (hbox : Boxed W bl 51 v) (hown : W.ownsRow (bl + 1) 3 1 v n (Or.cI l')) (hL : l'.length = n)
    (hown' : w1.ownsRow (bl + 1) 3 1 v' (n + 1) (Or.cI l' ++ [.int .i64 x])) (hgrow : (W.alloc tmp).grownBy w1 v.ownBlock) :
    Boxed w1 bl 51 v ∧ KeepsOthers W (w1.setCell ⟨bl, 0, none⟩ v') ∧ Below bl W (w1.setCell ⟨bl, 0, none⟩ v') ∧ Below bl w (w1.setCell ⟨bl, 0, none⟩ v') ∧ ∃ v2, Boxed (w1.setCell ⟨bl, 0, none⟩ v') bl 51 v2 ∧ OR (w1.setCell ⟨bl, 0, none⟩ v') (bl + 1) v2 (l' ++ [x]) := by
  have hsz : bl ≤ W.heap.size := Nat.le_trans hbw hbe.size
  obtain ⟨b1, b2, _, b4, b5⟩ := Boxed.appended hbox (by decide) (row_weak hown (show bl ≤ bl + 1 by omega)) hsz (Nat.le_refl _) (row_weak hown' (show bl ≤ bl + 1 by omega)) hgrow
  refine ⟨b1, b4, b5, hbe.trans b5, v', b2, ?_⟩
  have b3 := hown'.kept (grownBy_setCell' w1 bl v') (.inr (row_ne hown' (by omega)).symm)
  unfold Or.OR
  rw [List.length_append, hL, Or.cI_snoc]
  exact b3

set_option maxRecDepth 1000000 in
set_option maxHeartbeats 4000000 in
theorem PBases_any (h : Ri w c s ml fl) :
    Calls Try.prog 31 #[.pointer (some ⟨c, 0, none⟩)] w fun e w' => ∃ v, e = .returned v ∧ OR w' w.heap.size v (s.bs.map Prod.snd) ∧ Below w.heap.size w w' := by
  obtain ⟨i0, hi, hz0, hz1, hz2⟩ := info_parts Or.int_info
  obtain ⟨a, cap, hml, hcells⟩ := row_cells h.rm
  have c6 := h.ctl.c6
  rw [hml] at c6
  have hclt := h.ctl.lt
  have hlm := h.lm
  generalize s.bs = bs at *
  have HCE := Lib.hid hcells
  clear h hml hcells
  refine (callsIn_wide (n := 6)).1 ?_
  refine callsIn_of_wp_marks Try.func31 rfl trivial ?_ rfl
  simp only [Try.ntmps31, List.size_toArray, List.length_cons, List.length_nil, Nat.reduceAdd, Nat.reduceSub, Array.replicate_succ, Array.replicate_zero, List.push_toArray, List.append_toArray, List.nil_append, List.cons_append]
  gi_wp2_with fail
  refine ⟨trivial, ?_⟩
  refine (all_in _ _ _).mono ?_
  rintro e w2 ⟨rfl, rfl⟩
  gi_wp2_with fail
  obtain ⟨W0, hW0⟩ : ∃ W0, (w.alloc (.cells #[.slice none 0 0] 51)).alloc (.cells #[.pointer (some ⟨c, 5, none⟩)] 95) = W0 := ⟨_, rfl⟩
  have hsz : W0.heap.size = w.heap.size + 2 := by rw [← hW0]; simp
  have hB0 : Below w.heap.size w W0 := by rw [← hW0]; exact ((Below.refl _ w).alloc (Nat.le_refl _) _).alloc (by simp) _
  have hJ0 : JB w.heap.size w [] W0 := ⟨hB0, .slice none 0 0, by rw [← hW0]; exact (Boxed.new w _ _).alloc _, OR.nil_ _ _⟩
  have hbx : W0.cell? ⟨w.heap.size + 1, 0, none⟩ = some (.pointer (some ⟨c, 5, none⟩)) := by rw [← hW0]; simp [go_sem]
  rw [hW0]
  have HK6 : W0.cell? ⟨c, 5 + 1, none⟩ = some (.slice a bs.length cap) := (hB0.cell (p := ⟨c, 6, none⟩) hclt).trans c6
  have HCW : 0 < bs.length → ∃ b off, a = some ⟨b, off, none⟩ ∧ b < w.heap.size ∧ ∀ j, j < bs.length → W0.cell? ⟨b, off + j * 2, none⟩ = some (.int .i64 (bs[j]?.getD (0, 0)).1) ∧ W0.cell? ⟨b, off + j * 2 + 1, none⟩ = some (.int .i64 (bs[j]?.getD (0, 0)).2) := fun h => by
    obtain ⟨b, off, e, hb, hcc⟩ := HCE.out h
    exact ⟨b, off, e, hb, fun j hj => ⟨(hB0.cell (p := ⟨b, off + j * 2, none⟩) hb).trans (hcc j hj).1, (hB0.cell (p := ⟨b, off + j * 2 + 1, none⟩) hb).trans (hcc j hj).2⟩⟩
  clear hW0
  have hro : Fence.wide.round = none := rfl
  have h7 : Fence.wide.fn 68 := trivial
  refine wpIn_rangeFunc_ownH hro (by decide) (gf := 68) (lb := #[.pointer (some ⟨w.heap.size + 1, 0, none⟩)]) rfl h7 (enters_of Try.func68 (by kernel_rfl) rfl)
    (anyc_stops Fence.wide (6 - 1) h7 hro (by omega) (w.heap.size + 1) w.heap.size c 5 a bs.length cap bs rfl (by omega) W0 (by omega) (by omega) (by omega) hbx HK6 HCW) belowK_t (belowK_b (by omega)) (Below.refl _ _) (fun _ => rfl)
    (fun pre W => JB w.heap.size w pre W)
    (fun _ _ _ => False)
    (own_JB (Nat.le_refl _) _ (by omega))
    (fun _ _ _ _ _ hs _ _ => hs)
    hJ0
    (fun x a' W => ∃ Bx, w.heap.size < Bx ∧ Two W Bx x ∧ a' = { tmps := #[.pointer (some ⟨c, 0, none⟩), undef, .slice none 0 0, .pointer (some ⟨w.heap.size, 0, none⟩), .pointer (some ⟨Bx, 0, none⟩), .pointer (some ⟨c, 0, none⟩), .bool false, .pointer (some ⟨c, 0, none⟩), .pointer (some ⟨c, 0, none⟩), .pointer (some ⟨c, 5, none⟩),
      .func (.func 68) #[] #[.pointer (some ⟨w.heap.size + 1, 0, none⟩)], .agg #[.int .i64 x.1, .int .i64 x.2], undef, undef, undef, undef, undef, undef], defers := [] })
    (fun x a' _ X Y row hs hg hr => by obtain ⟨Bx, k1, k2, k3⟩ := hs; exact ⟨Bx, k1, Two.own Bx (fun (_ : Unit) => x) () X Y row k2 hg (fun r e => (hr r e).2), k3⟩)
    ?assign ?body ?done ?stop
  case assign =>
    rintro l pre x W K hJ hK
    have hsW := hJ.1.size
    gi_wp2
    exact hK _ _ ((KeepsOthers.alloc _ _).from _) ((Below.refl _ W).alloc hJ.1.size _) ⟨hJ.1.alloc hJ.1.size _, by obtain ⟨v, e1, e2⟩ := hJ.2; exact ⟨v, e1.alloc _, e2.alloc_ _⟩⟩ ⟨W.heap.size, by obtain ⟨v, e1, _⟩ := hJ.2; exact e1.lt, Two.new W x, rfl⟩
  case body =>
    rintro l pre x a' W hl _ ⟨hbe, v, hbox, hown⟩ ⟨Bx, hBx, bX, rfl⟩ hlt
    have x0 := bX.c0
    have x1 := bX.c1
    have cb := hbox.cell
    have fb := hbox.frozen
    have hWb : w.heap.size + 1 ≤ W.heap.size := hbox.lt
    obtain ⟨l', hl'⟩ : ∃ l', pre.map Prod.snd = l' := ⟨_, rfl⟩
    have hpx : (pre ++ [x]).map Prod.snd = l' ++ [x.2] := by rw [List.map_append, hl']; rfl
    have hln : l'.length ≤ 10 := by rw [← hl', List.length_map]; omega
    rw [hl'] at hown
    obtain ⟨ln, hlen'⟩ : ∃ ln, l'.length = ln := ⟨_, rfl⟩
    unfold Or.OR at hown
    rw [hlen'] at hown hln
    have HBE := Lib.hid hbe
    have HBX := Lib.hid hbox
    have HL := Lib.hid hlen'
    have HOU := Lib.hid hown
    have HPX := Lib.hid hpx
    have hown1 := World.ownsRow.alloc hown (.cells #[.int .i64 x.2] 3)
    have hs1 : w.heap.size + 1 ≤ (W.alloc (.cells #[.int .i64 x.2] 3)).heap.size := by simp; omega
    obtain ⟨a5, cap5, rfl⟩ : ∃ a cap, v = .slice a ln cap := by
      rcases hown.2 with ⟨rfl, h0⟩ | ⟨g, cap, _, rfl, _⟩
      · exact ⟨none, 0, by rw [h0]⟩
      · exact ⟨_, cap, rfl⟩
    clear hJ0 hbe hbox hl' hown hlen' hpx HCW HK6 hbx
    gi_wp2_with (gi_at_builtin; refine wpListIn_append_own _ rfl _ _ 51 rfl (w.heap.size + 1) 3 i0 (.int .i64 0) 1 8 Try.underlying51 hi hz0 hz1 hz2 rfl (by decide) _ _ _ rfl hown1 ⟨W.heap.size, 0, none⟩ 1 1 [.int .i64 x.2] rfl rfl (cell_one_new _ _ _) (by simp [Value.oneCell']) (by unfold maxLen; omega) (by omega) hs1 ?_; intro v' w2 hown' hgrow _; obtain ⟨jb, jk, jl, jr⟩ := JB_push (Nat.le_refl _) HBE.out HBX.out HOU.out HL.out hown' hgrow; have cb1 := jb.cell; have fb1 := jb.frozen; have HJK := Lib.hid jk; have HJL := Lib.hid jl; have HJR := Lib.hid jr; obtain ⟨g', cap', rfl⟩ := ownsRow_succ hown'; clear jb jk jl jr hown' hgrow)
    refine ⟨HJK.out.from _, HJL.out, ?_⟩
    have hfin := HJR.out
    rw [← HPX.out] at hfin
    exact hfin
  case done =>
    rintro D ys W hD rfl ⟨hbe, v, hbox, hou⟩ hK
    have cb := hbox.cell
    have HBE := Lib.hid hbe
    have HOU := Lib.hid hou
    have HK := Lib.hid hK
    obtain ⟨a5, cap5, rfl⟩ := Or.OR.slice_ hou
    clear hbe hou hK hbox hJ0 HCW HK6 hbx
    gi_wp2_with fail
    refine ⟨by simp, .inl ⟨_, _, rfl, run_takeDeferred HK.out, ?_⟩⟩
    refine ⟨.slice a5 (ys.map Prod.snd).length cap5, ?_, _, rfl, ?_, ?_⟩
    · simp [results, Try.results31, go_sem]
    · exact own_mono (ownsRow_putObj HOU.out _ HK.out rfl) (by omega)
    · exact HBE.out.trans (belowK_b (w := w) (Nat.le_refl _) W D _ _ (by omega) HK.out rfl rfl)
  case stop =>
    rintro D c pre W _ _ h _
    exact h.elim
end

theorem enterBas (args : Array Value) (w : World) : (callFunc 54 args).run Try.prog w = .ok (.enter 54 args) w := by kernel_rfl
/-- the base that is told -/
def pba (s : St) : Int := if s.zs = [] then 0 else ((lstb s.bs).getD (0, 0)).2
section
variable {w : World} {c : Nat} {s : St} {ml fl : Value} {po : Nat}
set_option maxHeartbeats 800000 in
theorem BasF_yes (h : Ri w c s ml fl) (hI : Inv s) (hz : s.zs ≠ []) (cp : w.cell? ⟨po, 0, none⟩ = some (.pointer (some ⟨c, 0, none⟩))) :
    Calls Try.prog 54 #[.pointer (some ⟨po, 0, none⟩)] w fun e w' => e = .returned (.int .i64 (((lstb s.bs).getD (0, 0)).2)) ∧ Below w.heap.size w w' := by
  obtain ⟨a, cap, hfl⟩ := row_len h.rf
  have c8 := h.ctl.c8
  rw [hfl] at c8
  have hn : 0 < s.zs.length := List.length_pos_iff.2 hz
  have HA := Lib.hid (ask_any h hI.t1)
  have HQ := Lib.hid (base_any h (hI.ne hz))
  obtain ⟨q, hq⟩ : ∃ q, ((lstb s.bs).getD (0, 0)).2 = q := ⟨_, rfl⟩
  rw [hq] at HQ ⊢
  clear h hI hz hfl hq
  generalize s.zs.length = n at hn c8
  have hb : ((n : Int) == 0) = false := by simp; omega
  go_enter Try.func54, Try.ntmps54
  go_wp2_with fail
  refine HA.out.mono ?_
  rintro e w1 ⟨rfl, rfl⟩
  go_wp2_with fail
  refine (Eb.refuse_no _ _).mono ?_
  rintro e w1 ⟨rfl, rfl⟩
  go_wp2_with fail
  refine HQ.out.mono ?_
  rintro e w1 ⟨rfl, hb1⟩
  go_wp2
  go_ret
  exact ⟨rfl, hb1⟩
set_option maxHeartbeats 800000 in
theorem BasF_no (h : Ri w c s ml fl) (hI : Inv s) (hz : s.zs = []) (cp : w.cell? ⟨po, 0, none⟩ = some (.pointer (some ⟨c, 0, none⟩))) :
    Calls Try.prog 54 #[.pointer (some ⟨po, 0, none⟩)] w fun e w' => e = .panicked [{ v := .iface 26 (.int .i64 8), recovered := false }] ∧ Below w.heap.size w w' := by
  have h2 := h.rf
  rw [hz] at h2
  obtain ⟨a, cap, hfl⟩ := row_len h2
  have c8 := h.ctl.c8
  rw [hfl] at c8
  simp only [List.length_nil] at c8
  have HA := Lib.hid (ask_any h hI.t1)
  clear h hI hz hfl h2
  go_enter Try.func54, Try.ntmps54
  go_wp2_with fail
  refine HA.out.mono ?_
  rintro e w1 ⟨rfl, rfl⟩
  go_wp2_with fail
  refine (Eb.refuse_yes _ _).mono ?_
  rintro e w1 ⟨rfl, rfl⟩
  go_wp2_with fail
  simp [bodyPost]
  exact Below.refl w.heap.size w

set_option maxHeartbeats 2000000 in
theorem Base_any (h : Ri w c s ml fl) (hI : Inv s) :
    Calls Try.prog 24 #[.pointer (some ⟨c, 0, none⟩)] w fun e w' => e = .returned (.tuple #[.int .i64 (pba s), .int .i64 (queE s)]) ∧ Below w.heap.size w w' := by
  have hmf : ∀ (fn : Fn) (first cap : Array Value) (w : World), (Instr.makeFunc fn first cap).run Try.prog w = .ok (.func fn first cap) w := fun _ _ _ _ => rfl
  obtain ⟨wA, hwA⟩ : ∃ wA, w.alloc (.cells #[.pointer (some ⟨c, 0, none⟩)] 25) = wA := ⟨_, rfl⟩
  have hbA : Below w.heap.size w wA := by rw [← hwA]; exact (Below.refl _ _).alloc (Nat.le_refl _) _
  have hRA : Ri wA c s ml fl := h.below hbA
  have hbW : Below wA.heap.size wA (Fp.aw wA) := by unfold Fp.aw; exact ((Below.refl _ _).alloc (Nat.le_refl _) _).alloc (by simp) _
  have hRW : Ri (Fp.aw wA) c s ml fl := hRA.below hbW
  have k1 : wA.cell? ⟨w.heap.size, 0, none⟩ = some (.pointer (some ⟨c, 0, none⟩)) := by rw [← hwA]; simp [go_sem]
  have k2 : (Fp.aw wA).cell? ⟨w.heap.size, 0, none⟩ = some (.pointer (some ⟨c, 0, none⟩)) := (hbW.cell (p := ⟨w.heap.size, 0, none⟩) (by rw [← hwA]; simp)).trans k1
  by_cases hz : s.zs = []
  · have hA := Fp.attempt_err 54 #[.pointer (some ⟨w.heap.size, 0, none⟩)] 8 wA enterBas (BasF_no hRW hI hz k2)
    have HE : Hid (pba s = 0 ∧ queE s = 8) := Lib.hid ⟨if_pos hz, if_pos hz⟩
    have HA := Lib.hid hA
    have HB := Lib.hid hbA
    have HW := Lib.hid hwA
    clear hA hRW hRA k1 k2 hbW hbA h hI hz
    rw [HE.out.1, HE.out.2]
    go_enter Try.func24, Try.ntmps24
    go_wp2_with fail
    refine HA.out.mono ?_
    rintro e w2 ⟨rfl, hb2⟩
    go_wp2
    go_ret2
    exact ⟨rfl, Hz.blw HB.out hb2⟩
  · have hA := Fp.attempt_ret 54 #[.pointer (some ⟨w.heap.size, 0, none⟩)] (((lstb s.bs).getD (0, 0)).2) wA enterBas (BasF_yes hRW hI hz k2)
    have HE : Hid (pba s = ((lstb s.bs).getD (0, 0)).2 ∧ queE s = 0) := Lib.hid ⟨if_neg hz, if_neg hz⟩
    have HA := Lib.hid hA
    have HB := Lib.hid hbA
    have HW := Lib.hid hwA
    clear hA hRW hRA k1 k2 hbW hbA h hI hz
    rw [HE.out.1, HE.out.2]
    generalize ((lstb s.bs).getD (0, 0)).2 = q at HA ⊢
    go_enter Try.func24, Try.ntmps24
    go_wp2_with fail
    refine HA.out.mono ?_
    rintro e w2 ⟨rfl, hb2⟩
    go_wp2
    go_ret2
    exact ⟨rfl, Hz.blw HB.out hb2⟩
end
end Go.Proofs.Ythjhbceepkoifaa.Fw
