/-
  node: the bits of an identifier, and Common.
-/
import Derived.Test.YthlkpbpcfkgljaaNf
import Derived.RangeFuncNested
import Derived.RangeFuncBound
import Derived.RangeFuncCalls
import Derived.RangeFuncLeaves
import Derived.RangeFuncFrom
import Derived.RangeFuncBox
import Derived.Shelf.Abstract
import Derived.Shelf.RegionOpen
import Derived.WalkKit
import Derived.OwnWalkIn
import Derived.TacticsInMore
import Derived.LoopNIn
import Derived.LoopIn
import Derived.Stop.RegionWithIn
namespace Go.Proofs.Ythlkpbpcfkgljaa.Ng
open Go Go.RowKit Go.Shelf Go.Proofs.Ythlkpbpcfkgljaa.Hz Go.Proofs.Ythlkpbpcfkgljaa.Na Go.Proofs.Ythlkpbpcfkgljaa.Nb Go.Proofs.Ythlkpbpcfkgljaa.Nf
attribute [local go_sem] Oper.semAt_some

def upto {α : Type} (f : Nat → α) (k : Nat) : List α := (List.range k).map f
theorem upto_succ {α : Type} (f : Nat → α) (k : Nat) : upto f (k + 1) = upto f k ++ [f k] := by simp [upto, List.range_succ]
theorem upto_length {α : Type} (f : Nat → α) (k : Nat) : (upto f k).length = k := by simp [upto]
def bp (s : ByteArray) (i : Nat) : Nat × Bool := (i, bt s i)

/-- what a loop body must keep: the iterator's own box -/
def KB (b : Nat) (W W' : World) : Prop := W'.cell? ⟨b, 0, none⟩ = W.cell? ⟨b, 0, none⟩
theorem KB.trans_ {b : Nat} {A B C : World} (h : KB b A B) (k : KB b B C) : KB b A C := Eq.trans k h
theorem KB.put_ {b : Nat} {w : World} (hb : b < w.heap.size) (W : World) (l : Nat) (o o' : Obj) (hl : w.heap.size ≤ l) (h : W.heap[l]? = some o) (_ : o.isCells = false) (_ : o.isWalk = false) : KB b W (W.putObj l o') :=
  World.cell?_of_block ((grownBy_putObj' W l o').block b (by have := (Array.getElem?_eq_some_iff.1 h).1; omega) (fun e => by have := Option.some.inj e; omega))
theorem KB.set_ {b : Nat} (W : World) (n : Nat) (p : Addr) (v : Value) (hp : b ≠ p.block) : KB b W ((W.drewN n).setCell p v) :=
  World.cell?_setCell_other (W.drewN n) p ⟨b, 0, none⟩ v (fun e => hp (by rw [e]))

theorem and8 (a b : Nat) (ha : a < 256) (hb : b < 256) : bits .and .u8 (a : Int) (b : Int) = ((a &&& b : Nat) : Int) := by
  have h1 : (BitVec.ofInt 8 (a : Int)).toNat = a := by rw [BitVec.ofInt_natCast, BitVec.toNat_ofNat]; exact Nat.mod_eq_of_lt ha
  have h2 : (BitVec.ofInt 8 (b : Int)).toNat = b := by rw [BitVec.ofInt_natCast, BitVec.toNat_ofNat]; exact Nat.mod_eq_of_lt hb
  show IntKind.u8.wrap ((BitVec.ofInt 8 (a : Int) &&& BitVec.ofInt 8 (b : Int)).toNat : Int) = _
  rw [BitVec.toNat_and, h1, h2, IntKind.wrap_u8]
  have : a &&& b < 256 := Nat.lt_of_le_of_lt Nat.and_le_left ha
  omega
theorem shr128 (j : Nat) (h : j < 8) : (128 : Int) / 2 ^ j = ((2 ^ (7 - j) : Nat) : Int) := by
  obtain rfl | rfl | rfl | rfl | rfl | rfl | rfl | rfl : j = 0 ∨ j = 1 ∨ j = 2 ∨ j = 3 ∨ j = 4 ∨ j = 5 ∨ j = 6 ∨ j = 7 := by omega
  all_goals decide
theorem and_bit (x t : Nat) : (x &&& 2 ^ t != 0) = x.testBit t := by
  cases h : x.testBit t
  · have : x &&& 2 ^ t = 0 := by
      apply Nat.eq_of_testBit_eq
      intro i
      rw [Nat.testBit_and, Nat.testBit_two_pow, Nat.zero_testBit]
      by_cases e : t = i
      · subst e; rw [h]; rfl
      · simp [e]
    rw [this]; rfl
  · rw [bne_iff_ne]
    intro e
    have := congrArg (fun z => z.testBit t) e
    simp [Nat.testBit_and, h] at this
theorem gb_drewN (w : World) (n : Nat) (c : Option Nat) : w.grownBy (w.drewN n) c := ⟨rfl, rfl, rfl, Nat.le_refl _, fun _ _ _ => rfl⟩
theorem bit_at (s : ByteArray) (k : Nat) (x : Nat) (hx : by_ s (k / 8) = x) : ((bits .and .u8 (x : Int) ((128 : Int) / 2 ^ (k % 8))) != 0) = bt s k := by
  have hb := by_lt s (k / 8)
  have hp : 2 ^ (7 - k % 8) < 256 := by
    have : 2 ^ (7 - k % 8) ≤ 2 ^ 7 := Nat.pow_le_pow_right (by omega) (by omega)
    omega
  rw [hx] at hb
  rw [shr128 _ (by omega), and8 _ _ hb hp]
  unfold bt
  rw [hx, ← and_bit]
  generalize x &&& 2 ^ (7 - k % 8) = z
  rw [Bool.eq_iff_iff]
  simp

set_option maxRecDepth 100000 in
set_option maxHeartbeats 2000000 in
/-- what bitsOf yields -/
theorem bits1_in (n : Nat) (hn : 1 ≤ n) (l Bs : Nat) (s : ByteArray) (hs : s.size = 20) (J Jx : List (Nat × Bool) → World → Prop) (hJ : ∀ pre W n, J pre W → J pre (W.drewN n))
    (hY : ∀ pre x W, J pre W → pre.length < 160 → YieldAt Fence.wide (n - 1) Try.prog l #[.int .i64 (x : Nat × Bool).1, .bool x.2] W fun e W' =>
      (e = .returned (.bool true) ∧ J (pre ++ [x]) W' ∧ KB Bs W W') ∨ (e = .returned (.bool false) ∧ Jx (pre ++ [x]) W'))
    (W : World) (hBs : W.cell? ⟨Bs, 0, none⟩ = some (.string s)) (h0 : J [] W) :
    CallsIn Fence.wide n Try.prog 54 #[.func (.yield l) #[] #[], .pointer (some ⟨Bs, 0, none⟩)] W fun r W' => (∃ v, r = .returned v) ∧
      ((∃ ys, ys = upto (bp s) 160 ∧ J ys W') ∨ (∃ pre, (∃ k, k ≤ 160 ∧ pre = upto (bp s) k) ∧ Jx pre W')) := by
  have hz1 : (160 : Int) ≤ 8 * (s.size : Int) := by omega
  have hz2 : 8 * (s.size : Int) ≤ 160 := by omega
  have HZ := Lib.hid hs
  clear hs
  refine callsIn_of_wp Try.func54 rfl trivial ?_ rfl
  simp only [Try.ntmps54, List.size_toArray, List.length_cons, List.length_nil, Nat.reduceAdd, Nat.reduceSub, Array.replicate_succ, Array.replicate_zero, List.push_toArray, List.append_toArray, List.nil_append, List.cons_append]
  gi_wp2
  gi_loopw [7, 3] (fun i _ wr => ∃ k : Nat, k ≤ 160 ∧ i = .int .i64 (k : Int) ∧ J (upto (bp s) k) wr ∧ KB Bs W wr)
    (fun i _ _ => (160 - intOf i).toNat)
  case atStart => exact ⟨0, Nat.zero_le _, by simp, h0, rfl⟩
  case round =>
    obtain ⟨k, hk, rfl, hJs, hnx⟩ := hrel
    have hcx : wr.cell? ⟨Bs, 0, none⟩ = some (.string s) := Eq.trans hnx hBs
    by_cases hlt : k < 160
    · obtain ⟨fn, tmps, assign, body, hy, hR⟩ := hY _ (bp s k) wr.drew (hJ _ wr 1 hJs) (by rw [upto_length]; omega)
      clear hY
      have hk8 : k / 8 < s.size := by have := HZ.out; omega
      have hw1 : IntKind.i64.wrap ((k : Int) / 8) = ((k / 8 : Nat) : Int) := by rw [IntKind.wrap_i64]; omega
      have hw2 : ((k : Int).tmod 8) = ((k % 8 : Nat) : Int) := by rw [Int.tmod_eq_emod_of_nonneg (by omega)]; omega
      have hba := bit_at s k (by_ s (k / 8)) rfl
      have ht8 : k % 8 < 8 := by omega
      obtain ⟨q, hq⟩ : ∃ q, k / 8 = q := ⟨_, rfl⟩
      obtain ⟨t, ht⟩ : ∃ t, k % 8 = t := ⟨_, rfl⟩
      rw [hq] at hw1 hba hk8
      rw [ht] at hw2 hba ht8
      have hw3 : (q : Int) < (s.size : Int) := by omega
      have hb := by_at s q hk8
      have hbl := by_lt s q
      clear hq ht
      obtain ⟨x, hx⟩ : ∃ x, by_ s q = x := ⟨_, rfl⟩
      rw [hx] at hb hbl hba
      simp only [bp] at hy hR
      obtain ⟨c, hc⟩ : ∃ c, bt s k = c := ⟨_, rfl⟩
      rw [hc] at hy hba hR
      have HC := Lib.hid (show bp s k = (k, c) by rw [bp, hc])
      clear hx hc
      have hR2 := hR.mono (R' := fun e W' => ∃ b, e = .returned (.bool b) ∧ (b = true ∧ J (upto (bp s) (k + 1)) W' ∧ KB Bs W W' ∨ b = false ∧ Jx (upto (bp s) (k + 1)) W')) (by
        rintro e W' (⟨rfl, h1, h2⟩ | ⟨rfl, h1⟩)
        · exact ⟨true, rfl, .inl ⟨rfl, by rw [upto_succ, HC.out]; exact h1, hnx.trans_ h2⟩⟩
        · exact ⟨false, rfl, .inr ⟨rfl, by rw [upto_succ, HC.out]; exact h1⟩⟩)
      clear hR
      gi_wp2
      gi_region_with (refine hR2.mono ?_; rintro r W3 ⟨b, rfl, HH⟩; have HHH := Lib.hid HH; clear HH)
      all_goals
        cases b
        · have hx : Jx (upto (bp s) (k + 1)) W3 := by
            rcases HHH.out with ⟨h, _⟩ | ⟨_, h⟩
            · cases h
            · exact h
          gi_wp2
          refine bodyPost_ret (results_none rfl _ _ _) rfl ?_
          exact ⟨⟨_, rfl⟩, .inr ⟨_, ⟨k + 1, by omega, rfl⟩, hx⟩⟩
        · have hx : J (upto (bp s) (k + 1)) W3 ∧ KB Bs W W3 := by
            rcases HHH.out with ⟨_, h⟩ | ⟨h, _⟩
            · exact h
            · cases h
          have HX := Lib.hid hx
          clear hx
          gi_wp2
          go_roundw
          case rel => exact ⟨k + 1, by omega, by go_num, HX.out.1, HX.out.2⟩
          case measure => simp [intOf]; omega
    · obtain rfl : k = 160 := by omega
      gi_wp2
      go_end0
      exact ⟨⟨_, rfl⟩, .inl ⟨_, rfl, hJs⟩⟩

theorem bits_stops (n : Nat) (hn : 1 ≤ n) (Bs : Nat) (s : ByteArray) (hs : s.size = 20) (w : World) (hB : Bs < w.heap.size) (hc : w.cell? ⟨Bs, 0, none⟩ = some (.string s)) :
    SeqStopsK Fence.wide n Try.prog 54 #[.pointer (some ⟨Bs, 0, none⟩)] (fun x : Nat × Bool => #[Value.int .i64 x.1, .bool x.2]) (KB Bs) (fun ys => ys = upto (bp s) 160) (fun pre => ∃ k, k ≤ 160 ∧ pre = upto (bp s) k) 160 w := fun l J Jx W hW hJ _ hY h0 => by
  refine (bits1_in n hn l Bs s hs J Jx (fun pre W n h => hJ pre W _ none h (gb_drewN W n none) (fun r e => by cases e)) hY W ((hW.cell (p := ⟨Bs, 0, none⟩) hB).trans hc) h0).mono ?_
  rintro r W' ⟨hr, ⟨ys, rfl, hj⟩ | ⟨pre, hp, hj⟩⟩
  · exact ⟨hr, .inl ⟨_, rfl, hj⟩⟩
  · exact ⟨hr, .inr ⟨_, hp, hj⟩⟩

theorem bitsOf_in (n : Nat) (s : ByteArray) (w : World) :
    CallsIn Fence.wide n Try.prog 31 #[.string s] w fun r w' => r = .returned (.func (.func 54) #[] #[.pointer (some ⟨w.heap.size, 0, none⟩)]) ∧ w' = w.alloc (.cells #[.string s] 9) := by
  refine callsIn_of_wp Try.func31 rfl trivial ?_ rfl
  simp only [Try.ntmps31, List.size_toArray, List.length_cons, List.length_nil, Nat.reduceAdd, Nat.reduceSub, Array.replicate_succ, Array.replicate_zero, List.push_toArray, List.append_toArray, List.nil_append, List.cons_append]
  gi_wp2
  go_ret
  exact ⟨rfl, rfl⟩
theorem keepc {W : World} {a : Addr} {v : Value} (o : Obj) (h : W.cell? a = some v) : (W.alloc o).cell? a = some v :=
  (((Below.refl W.heap.size W).alloc (Nat.le_refl _) o).cell (World.block_lt_of_cell? W _ h)).trans h
theorem keepf {W : World} {a : Addr} {v : Value} (o : Obj) (h : W.cell? a = some v) (hf : W.frozen? a = false) : (W.alloc o).frozen? a = false :=
  (((Below.refl W.heap.size W).alloc (Nat.le_refl _) o).frozen (World.block_lt_of_cell? W _ h)).trans hf

set_option maxRecDepth 100000 in
set_option maxHeartbeats 1000000 in
/-- with how many equal bits two identifiers begin -/
theorem CommonF_yes (pa pb : Nat) (a b : ByteArray) (w : World) (h : (vd a && vd b) = true) (ca : w.cell? ⟨pa, 0, none⟩ = some (.string a)) (cb : w.cell? ⟨pb, 0, none⟩ = some (.string b)) :
    Calls Try.prog 30 #[.pointer (some ⟨pa, 0, none⟩), .pointer (some ⟨pb, 0, none⟩)] w fun e W' => e = .returned (.int .i64 (cmn a b)) ∧ Below w.heap.size w W' := by
  have hak := ask2_yes a b 9 (w.alloc (.cells #[.int .i64 0] 3)) h
  rw [World.size_alloc] at hak
  have HAsk := Lib.hid hak
  clear hak
  have hva := vd_yes (by simp at h; exact h.1 : vd a = true)
  have hvb := vd_yes (by simp at h; exact h.2 : vd b = true)
  have HD := Lib.hid (fun w => distance_any a b w hva hvb)
  have hD20 := ds_size a b
  have HC := Lib.hid (cmn_ds a b)
  clear h hva hvb
  obtain ⟨d, hd⟩ : ∃ d, ds a b = d := ⟨_, rfl⟩
  simp only [hd] at HD hD20 HC
  clear hd
  have la : pa < w.heap.size := World.block_lt_of_cell? w _ ca
  have lb : pb < w.heap.size := World.block_lt_of_cell? w _ cb
  refine (callsIn_wide (n := 3)).1 ?_
  refine callsIn_of_wp_marks Try.func30 rfl trivial ?_ rfl
  simp only [Try.ntmps30, List.size_toArray, List.length_cons, List.length_nil, Nat.reduceAdd, Nat.reduceSub, Array.replicate_succ, Array.replicate_zero, List.push_toArray, List.append_toArray, List.nil_append, List.cons_append]
  gi_wp2_with fail
  refine ⟨trivial, ?_⟩
  refine (callsIn_wide.2 HAsk.out).mono ?_
  rintro r w1 ⟨rfl, rfl⟩
  gi_wp2_with fail
  refine ⟨trivial, ?_⟩
  refine (callsIn_wide.2 (HD.out _)).mono ?_
  rintro r w2 ⟨rfl, hb2⟩
  gi_wp2_with fail
  refine ⟨trivial, ?_⟩
  refine (bitsOf_in (3 - 1) _ _).mono ?_
  rintro r w1 ⟨rfl, rfl⟩
  gi_wp2_with fail
  have hz2 : w.heap.size + 2 ≤ w2.heap.size := by have := hb2.size; simp at this; omega
  have hB2 : Below w.heap.size w w2 := (((Below.refl _ w).alloc (Nat.le_refl _) _).alloc (by simp) _).trans (hb2.mono (by simp; omega))
  have cR : w2.cell? ⟨w.heap.size, 0, none⟩ = some (.int .i64 0) := by rw [hb2.cell (by simp; omega)]; simp [go_sem]
  have fR : w2.frozen? ⟨w.heap.size, 0, none⟩ = false := by rw [hb2.frozen (by simp; omega)]; simp [go_sem]
  have hn3 := new1 w2 (.string d) 9
  refine wpIn_rangeFunc_ownF rfl (by omega) (gf := 54) (lb := #[.pointer (some ⟨w2.heap.size, 0, none⟩)]) rfl trivial (enters_of Try.func54 (by kernel_rfl) rfl)
    (bits_stops (3 - 1) (by omega) w2.heap.size d hD20 _ (by simp) hn3.1) KB.trans_ (KB.put_ (by simp)) (Below.refl _ _) (fun _ => rfl)
    (fun pre W => ((∀ y ∈ pre, y.2 = false) ∧ W.cell? ⟨w.heap.size, 0, none⟩ = some (.int .i64 0) ∧ W.frozen? ⟨w.heap.size, 0, none⟩ = false) ∧ Below w.heap.size w W)
    (fun c pre W => (c = .ret ∧ (∃ q x, pre = q ++ [x] ∧ (∀ y ∈ q, y.2 = false) ∧ x.2 = true ∧ W.cell? ⟨w.heap.size, 0, none⟩ = some (.int .i64 x.1))) ∧ Below w.heap.size w W)
    (OwnFrom.and (Own.from (fun s A B row hs hg hr => ⟨hs.1, cell_kept hs.2.1 hg hr, (frozen_kept hs.2.1 hg hr).trans hs.2.2⟩) _) (ownFrom_below (Nat.le_refl _) (by simp; omega)))
    (fun c => OwnFrom.and (Own.from (fun s A B row hs hg hr => ⟨hs.1, by obtain ⟨_, q, x, e1, e2, e3, e4⟩ := hs; exact ⟨q, x, e1, e2, e3, cell_kept e4 hg hr⟩⟩) _) (ownFrom_below (Nat.le_refl _) (by simp; omega)))
    ⟨⟨by simp, keepc _ cR, keepf _ cR fR⟩, hB2.alloc (by omega) _⟩
    (fun x => { tmps := #[Value.pointer (some { block := pa, off := 0 }), Value.pointer (some { block := pb, off := 0 }), Value.pointer (some { block := w.heap.size, off := 0 }), .int .i64 x.1, .bool x.2, Value.string a, Value.string b,
          Value.slice (some { block := w.heap.size + 1, off := 0 }) 2 2, Value.tuple #[], Value.string a, Value.string b, Value.string d,
          Value.func (Fn.func 54) #[] #[Value.pointer (some { block := w2.heap.size, off := 0 })], .int .i64 x.1, .bool x.2, undef, undef], defers := [] }) ?assign ?body ?done ?stop
  case assign =>
    intro l x W K hK
    gi_wp2
    exact hK
  case body =>
    rintro l pre ⟨xi, xb⟩ W ⟨⟨hp, hcr, hfr⟩, hB⟩ _
    cases xb
    · gi_wp2
      exact ⟨KeepsOthers.refl _, rfl, ⟨fun y hy => (List.mem_append.1 hy).elim (hp y) (fun e => by simp at e; rw [e]), hcr, hfr⟩, hB⟩
    · gi_wp2
      exact ⟨KeepsOthers.setCell _ _ _, ⟨rfl, pre, (xi, true), rfl, hp, rfl, World.cell?_setCell_same' _ _ _ (by rw [hcr]; rfl)⟩, hB.setCell (p := ⟨w.heap.size, 0, none⟩) (Nat.le_refl _) _⟩
  case done =>
    rintro D ys W hD rfl ⟨⟨hne, hcr, hfr⟩, hB⟩ hK
    have hc160 : cmn a b = 160 := by
      rw [← HC.out]
      refine fst_of _ _ (fun j hj => ?_) (.inl rfl)
      exact hne (bp d j) (List.mem_map.2 ⟨j, List.mem_range.2 hj, rfl⟩)
    gi_wp2
    have hK' := (KeepsOthers.setCell W ⟨w.heap.size, 0, none⟩ (.int .i64 160)).same D _ hK rfl
    refine ⟨by simp, .inl ⟨_, _, rfl, run_takeDeferred hK', ?_⟩⟩
    have hc5 := cell_kept (World.cell?_setCell_same' W ⟨w.heap.size, 0, none⟩ (.int .i64 160) (by rw [hcr]; rfl)) (grownBy_putObj' _ D (.deferred none)) (fun r e => by cases e; exact ⟨_, hK', rfl⟩)
    refine ⟨.int .i64 160, ?_, by rw [hc160]; rfl, (hB.setCell (p := ⟨w.heap.size, 0, none⟩) (Nat.le_refl _) _).trans (belowK_b (w := w) (Nat.le_refl _) _ D _ _ (by simp at hD; omega) hK' rfl rfl)⟩
    simp [results, Try.results30, go_sem, hc5]
  case stop =>
    rintro D c pre W hD ⟨k, hk, hpre⟩ ⟨⟨rfl, q, x, hq, hqf, hx, hcr⟩, hB⟩ hK
    have hcx : cmn a b = x.1 := by
      rw [hpre] at hq
      cases k with
      | zero => simp [upto] at hq
      | succ j =>
        rw [upto_succ] at hq
        obtain ⟨e1, e2⟩ := List.append_inj' hq rfl
        simp only [List.cons.injEq, and_true] at e2
        rw [← e2] at hx ⊢
        rw [← HC.out]
        show fst (bt d) = j
        refine fst_of _ _ (fun i hi => ?_) (.inr ⟨by omega, hx⟩)
        exact hqf (bp d i) (by rw [← e1]; exact List.mem_map.2 ⟨i, List.mem_range.2 hi, rfl⟩)
    gi_wp2
    refine ⟨by simp, .inl ⟨_, _, rfl, run_takeDeferred hK, ?_⟩⟩
    have hc5 := cell_kept hcr (grownBy_putObj' _ D (.deferred none)) (fun r e => by cases e; exact ⟨_, hK, rfl⟩)
    refine ⟨.int .i64 x.1, ?_, by rw [hcx], hB.trans (belowK_b (w := w) (Nat.le_refl _) W D _ _ (by simp at hD; omega) hK rfl rfl)⟩
    simp [results, Try.results30, go_sem, hc5]
end Go.Proofs.Ythlkpbpcfkgljaa.Ng
