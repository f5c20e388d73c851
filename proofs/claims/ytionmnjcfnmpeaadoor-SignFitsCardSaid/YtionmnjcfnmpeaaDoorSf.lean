/-
  power: a power modulo the prime (a range over the bits of the exponent).
-/
import Derived.Test.YtionmnjcfnmpeaaDoorSe
import Derived.Test.YtionmnjcfnmpeaaDoorHz
import Derived.RangeFuncNested
import Derived.RangeFuncBound
import Derived.RangeFuncCalls
import Derived.RangeFuncLeaves
import Derived.RangeFuncFrom
import Derived.RangeFuncBox
import Derived.Shelf.Abstract
import Derived.Shelf.RegionOpen
import Derived.WalkKit
import Derived.OwnWalkIn
import Derived.TacticsInMore
import Derived.LoopNIn
import Derived.LoopIn
import Derived.Lib.ItoaNum
namespace Go.Proofs.YtionmnjcfnmpeaaDoor.Sg
open Go Go.RowKit Go.Shelf Go.Proofs.YtionmnjcfnmpeaaDoor.Hz
attribute [local go_sem] Oper.semAt_some

def upto {α : Type} (f : Nat → α) (k : Nat) : List α := (List.range k).map f
theorem upto_succ {α : Type} (f : Nat → α) (k : Nat) : upto f (k + 1) = upto f k ++ [f k] := by simp [upto, List.range_succ]
theorem upto_length {α : Type} (f : Nat → α) (k : Nat) : (upto f k).length = k := by simp [upto]

/-- the number that bits from the top make -/
def vb (l : List Bool) : Nat := l.foldl (fun a x => 2 * a + x.toNat) 0
theorem vb_snoc (l : List Bool) (x : Bool) : vb (l ++ [x]) = 2 * vb l + x.toNat := by unfold vb; rw [List.foldl_append]; rfl
/-- the bit number L - 1 - j -/
def bt (n L j : Nat) : Bool := decide (n / 2 ^ (L - 1 - j) % 2 = 1)
theorem vb_upto (n L : Nat) (h : n < 2 ^ L) : ∀ k, k ≤ L → vb (upto (bt n L) k) = n / 2 ^ (L - k)
  | 0, _ => by
    rw [Nat.sub_zero, Nat.div_eq_of_lt h]; rfl
  | k + 1, hk => by
    rw [upto_succ, vb_snoc, vb_upto n L h k (by omega)]
    have e : L - k = (L - (k + 1)) + 1 := by omega
    have e2 : L - 1 - k = L - (k + 1) := by omega
    have hb := half_bit n (L - (k + 1))
    rw [e]
    unfold bt
    rw [e2]
    by_cases h1 : n / 2 ^ (L - (k + 1)) % 2 = 1
    · simp only [h1, decide_true, Bool.toNat_true]; omega
    · simp only [h1, decide_false, Bool.toNat_false]; omega
theorem bitLen_lt (n : Nat) (h : n < 18446744073709551616) : n < 2 ^ Lib.bitLen n ∧ Lib.bitLen n ≤ 64 := by
  refine ⟨?_, Lib.bitLen_le n 64 (by omega) h⟩
  by_cases h0 : n = 0
  · subst h0; exact Nat.pow_pos (by omega)
  · exact (Lib.bitLenAux_bounds 64 n h h0).2.2

theorem bit_eq (n k : Nat) (hn : n < 18446744073709551616) : ((bits .and .u64 ((n : Int) / 2 ^ k) 1) == 1) = decide (n / 2 ^ k % 2 = 1) := by
  have h1 : n / 2 ^ k < 18446744073709551616 := Nat.lt_of_le_of_lt (Nat.div_le_self _ _) hn
  have h := bits_and_u64_nat (n / 2 ^ k) 1 h1 (by omega)
  rw [Nat.and_one_is_mod] at h
  have e : (((n / 2 ^ k : Nat) : Int)) = (n : Int) / 2 ^ k := by rw [Int.natCast_ediv, Int.natCast_pow]; rfl
  rw [e] at h
  rw [show ((1 : Nat) : Int) = 1 from rfl] at h
  rw [h, Bool.eq_iff_iff]
  simp
  omega

/-- what a loop body must keep: the iterator's own box -/
def KB (b : Nat) (W W' : World) : Prop := W'.cell? ⟨b, 0, none⟩ = W.cell? ⟨b, 0, none⟩
theorem KB.trans_ {b : Nat} {A B C : World} (h : KB b A B) (k : KB b B C) : KB b A C := Eq.trans k h
theorem KB.put_ {b : Nat} {w : World} (hb : b < w.heap.size) (W : World) (l : Nat) (o o' : Obj) (hl : w.heap.size ≤ l) (h : W.heap[l]? = some o) (_ : o.isCells = false) (_ : o.isWalk = false) : KB b W (W.putObj l o') :=
  World.cell?_of_block ((grownBy_putObj' W l o').block b (by have := (Array.getElem?_eq_some_iff.1 h).1; omega) (fun e => by have := Option.some.inj e; omega))
theorem KB.set_ {b : Nat} (W : World) (n : Nat) (p : Addr) (v : Value) (hp : b ≠ p.block) : KB b W ((W.drewN n).setCell p v) :=
  World.cell?_setCell_other (W.drewN n) p ⟨b, 0, none⟩ v (fun e => hp (by rw [e]))

set_option maxRecDepth 100000 in
set_option maxHeartbeats 2000000 in
/-- what bitsOf yields -/
theorem bits1_in (n : Nat) (hn : 1 ≤ n) (l Bs e : Nat) (he : e < 18446744073709551616) (J Jx : List Bool → World → Prop)
    (hY : ∀ pre x W, J pre W → pre.length < 64 → YieldAt Fence.wide (n - 1) Tryd.prog l #[.bool x] W fun e W' =>
      (e = .returned (.bool true) ∧ J (pre ++ [x]) W' ∧ KB Bs W W') ∨ (e = .returned (.bool false) ∧ Jx (pre ++ [x]) W'))
    (W : World) (hBs : W.cell? ⟨Bs, 0, none⟩ = some (.int .u64 e)) (h0 : J [] W) :
    CallsIn Fence.wide n Tryd.prog 116 #[.func (.yield l) #[] #[], .pointer (some ⟨Bs, 0, none⟩)] W fun r W' => (∃ v, r = .returned v) ∧
      ((∃ ys, ys = upto (bt e (Lib.bitLen e)) (Lib.bitLen e) ∧ J ys W') ∨ (∃ pre, Jx pre W')) := by
  obtain ⟨hl1, hl2⟩ := bitLen_lt e he
  have HL := Lib.hid (callsIn_wide (n := n - 1).2 (Len64_any e he W))
  have HE := Lib.hid he
  have HL1 := Lib.hid hl1
  clear hl1 he
  generalize Lib.bitLen e = L at *
  refine callsIn_of_wp Tryd.func116 rfl trivial ?_ rfl
  simp only [Tryd.ntmps116, List.size_toArray, List.length_cons, List.length_nil, Nat.reduceAdd, Nat.reduceSub, Array.replicate_succ, Array.replicate_zero, List.push_toArray, List.append_toArray, List.nil_append, List.cons_append]
  gi_wp2_with (refine ⟨trivial, ?_⟩; gi_at_call 117; refine HL.out.mono ?_; rintro r w1 ⟨rfl, rfl⟩)
  gi_loopw [3] (fun i wr => ∃ k : Nat, k ≤ L ∧ i = .int .i64 ((L : Int) - 1 - (k : Int)) ∧ J (upto (bt e L) k) wr ∧ KB Bs W wr)
    (fun i _ => (intOf i + 1).toNat)
  case atStart => exact ⟨0, Nat.zero_le _, by simp, h0, rfl⟩
  case round =>
    obtain ⟨k, hk, rfl, hJs, hnx⟩ := hrel
    have hcx : wr.cell? ⟨Bs, 0, none⟩ = some (.int .u64 e) := Eq.trans hnx hBs
    by_cases hlt : k < L
    · obtain ⟨fn, tmps, assign, body, hy, hR⟩ := hY _ (bt e L k) wr hJs (by rw [upto_length]; omega)
      clear hY
      have hb1 := bit_eq e (L - 1 - k) HE.out
      have hc : (L : Int) - 1 - (k : Int) = ((L - 1 - k : Nat) : Int) := by omega
      have hbt : bt e L k = decide (e / 2 ^ (L - 1 - k) % 2 = 1) := rfl
      rw [← hbt] at hb1
      obtain ⟨d, hd⟩ : ∃ d, L - 1 - k = d := ⟨_, rfl⟩
      rw [hd] at hb1 hc
      have HC := Lib.hid hc
      have HD := Lib.hid hd
      have hd64 : d ≤ 63 := by omega
      rw [hc]
      clear hc hd hbt
      obtain ⟨x, hx⟩ : ∃ x, bt e L k = x := ⟨_, rfl⟩
      rw [hx] at hb1 hy hR
      have HX := Lib.hid hx
      clear hx
      gi_wp2
      refine hR.mono ?_
      rintro r W3 (⟨rfl, hJ3, hk3⟩ | ⟨rfl, hJx3⟩)
      · have hd0 : (0 : Int) ≤ d := by omega
        gi_wp2
        go_roundw
        case rel => exact ⟨k + 1, by omega, by have := HC.out; first | (congr 1; omega) | congr 1, by rw [upto_succ, HX.out]; exact hJ3, hnx.trans_ hk3⟩
        case measure => have := HC.out; simp [intOf]
      · gi_wp2
        refine bodyPost_ret (results_none rfl _ _ _) rfl ?_
        exact ⟨⟨_, rfl⟩, .inr ⟨_, hJx3⟩⟩
    · have hk' : k = L := by omega
      subst hk'
      gi_wp2
      go_end0
      exact ⟨⟨_, rfl⟩, .inl ⟨_, rfl, hJs⟩⟩

/-- one cell was written -/
def St (c : Nat) (v : Value) (W W' : World) : Prop :=
  KeepsOthers W W' ∧ W'.cell? ⟨c, 0, none⟩ = some v ∧ W'.frozen? ⟨c, 0, none⟩ = W.frozen? ⟨c, 0, none⟩ ∧ (∀ b, b ≠ c → W'.cell? ⟨b, 0, none⟩ = W.cell? ⟨b, 0, none⟩) ∧ (∀ B, B ≤ c → Below B W W')
theorem keeps_drewN (W : World) (n : Nat) : KeepsOthers W (W.drewN n) := ⟨Nat.le_refl _, fun _ _ h _ => h⟩
theorem St.one {W : World} {c : Nat} {u : Value} (n : Nat) (v : Value) (h : W.cell? ⟨c, 0, none⟩ = some u) : St c v W ((W.drewN n).setCell ⟨c, 0, none⟩ v) :=
  ⟨(keeps_drewN W n).trans (KeepsOthers.setCell _ _ _), World.cell?_setCell_same _ _ _ (u := u) h, World.frozen?_setCell _ _ _ _,
   fun b hb => World.cell?_setCell_other (W.drewN n) ⟨c, 0, none⟩ ⟨b, 0, none⟩ v (fun e => hb (congrArg Addr.block e.symm)),
   fun _ hB => (show Below _ W (W.drewN n) from ⟨rfl, rfl, rfl, Nat.le_refl _, fun _ _ => rfl⟩).setCell (p := ⟨c, 0, none⟩) hB v⟩
theorem St.trans_ {c : Nat} {u v : Value} {A B C : World} (h : St c u A B) (k : St c v B C) : St c v A C :=
  ⟨h.1.trans k.1, k.2.1, k.2.2.1.trans h.2.2.1, fun b hb => (k.2.2.2.1 b hb).trans (h.2.2.2.1 b hb), fun b hb => (h.2.2.2.2 b hb).trans (k.2.2.2.2 b hb)⟩

/-- bitsOf's bits, for any loop body that keeps what lay below a mark -/
theorem bits_stops (n : Nat) (hn : 1 ≤ n) (Bs e : Nat) (w : World) (he : e < 18446744073709551616) (hB : Bs < w.heap.size)
    (hc : w.cell? ⟨Bs, 0, none⟩ = some (.int .u64 e)) :
    SeqStopsK Fence.wide n Tryd.prog 116 #[.pointer (some ⟨Bs, 0, none⟩)] (fun x : Bool => #[Value.bool x]) (KB Bs) (fun ys => ys = upto (bt e (Lib.bitLen e)) (Lib.bitLen e)) (fun _ => True) 64 w := fun l J Jx W hW _ _ hY h0 => by
  refine (bits1_in n hn l Bs e he J Jx hY W ((hW.cell (p := ⟨Bs, 0, none⟩) hB).trans hc) h0).mono ?_
  rintro r W' ⟨hr, ⟨ys, rfl, hj⟩ | ⟨pre, hj⟩⟩
  · exact ⟨hr, .inl ⟨_, rfl, hj⟩⟩
  · exact ⟨hr, .inr ⟨_, trivial, hj⟩⟩

theorem bitsOf_in (n : Nat) (e : Int) (w : World) :
    CallsIn Fence.wide n Tryd.prog 92 #[.int .u64 e] w fun r w' => r = .returned (.func (.func 116) #[] #[.pointer (some ⟨w.heap.size, 0, none⟩)]) ∧ w' = w.alloc (.cells #[.int .u64 e] 58) := by
  refine callsIn_of_wp Tryd.func92 rfl trivial ?_ rfl
  simp only [Tryd.ntmps92, List.size_toArray, List.length_cons, List.length_nil, Nat.reduceAdd, Nat.reduceSub, Array.replicate_succ, Array.replicate_zero, List.push_toArray, List.append_toArray, List.nil_append, List.cons_append]
  gi_wp2
  go_ret
  exact ⟨rfl, rfl⟩

theorem keepc {W : World} {a : Addr} {v : Value} (o : Obj) (h : W.cell? a = some v) : (W.alloc o).cell? a = some v :=
  (((Below.refl W.heap.size W).alloc (Nat.le_refl _) o).cell (World.block_lt_of_cell? W _ h)).trans h
theorem keepf {W : World} {a : Addr} {v : Value} (o : Obj) (h : W.cell? a = some v) (hf : W.frozen? a = false) : (W.alloc o).frozen? a = false :=
  (((Below.refl W.heap.size W).alloc (Nat.le_refl _) o).frozen (World.block_lt_of_cell? W _ h)).trans hf

theorem castP : ((P : Nat) : Int) = 2305843009213693951 := by decide +kernel
theorem prodP (a b : Nat) (ha : a < P) (hb : b < P) (w : World) :
    Calls Tryd.prog 46 #[.int .u64 a, .int .u64 b, .int .u64 2305843009213693951] w fun e w' => e = .returned (.int .u64 ((a * b % P : Nat) : Int)) ∧ ∃ n, w' = w.drewN n := by
  rw [← castP]; exact product_any P a b rfl ha hb w

set_option maxRecDepth 100000 in
set_option maxHeartbeats 2000000 in
/-- a power modulo the prime -/
theorem power_any (b e : Nat) (hb : b < P) (he : e < 18446744073709551616) (w : World) :
    Calls Tryd.prog 45 #[.int .u64 b, .int .u64 e] w fun r W' => r = .returned (.int .u64 ((b ^ e % P : Nat) : Int)) ∧ Below w.heap.size w W' := by
  refine (callsIn_wide (n := 3)).1 ?_
  refine callsIn_of_wp_marks Tryd.func45 rfl trivial ?_ rfl
  simp only [Tryd.ntmps45, List.size_toArray, List.length_cons, List.length_nil, Nat.reduceAdd, Nat.reduceSub, Array.replicate_succ, Array.replicate_zero, List.push_toArray, List.append_toArray, List.nil_append, List.cons_append]
  gi_wp2_with (refine ⟨trivial, ?_⟩; gi_at_call 92; refine (bitsOf_in (3 - 1) _ _).mono ?_; rintro r w1 ⟨rfl, rfl⟩)
  obtain ⟨w3, hw3⟩ : ∃ w3, (w.alloc (.cells #[.int .u64 b] 58)).alloc (.cells #[.int .u64 1] 58) = w3 := ⟨_, rfl⟩
  have hz3 : w3.heap.size = w.heap.size + 2 := by rw [← hw3]; simp
  have hB3 : Below w.heap.size w w3 := by rw [← hw3]; exact ((Below.refl _ w).alloc (Nat.le_refl _) _).alloc (by simp) _
  have hc1 : w3.cell? ⟨w.heap.size + 1, 0, none⟩ = some (.int .u64 1) ∧ w3.frozen? ⟨w.heap.size + 1, 0, none⟩ = false := by rw [← hw3]; simp [go_sem]
  have hc0 : w3.cell? ⟨w.heap.size, 0, none⟩ = some (.int .u64 b) := by rw [← hw3]; simp [go_sem]
  rw [hw3]
  have hn3 := new1 w3 (.int .u64 e) 58
  rw [hz3] at hn3
  clear hw3
  refine wpIn_rangeFunc_ownF rfl (by omega) (gf := 116) (lb := #[.pointer (some ⟨w.heap.size + 1 + 1, 0, none⟩)]) rfl trivial (enters_of Tryd.func116 (by kernel_rfl) rfl)
    (bits_stops (3 - 1) (by omega) (w.heap.size + 2) e _ he (by simp; omega) hn3.1) KB.trans_ (KB.put_ (by simp; omega)) (Below.refl _ _) (fun _ => rfl)
    (fun pre W => (W.cell? ⟨w.heap.size + 1, 0, none⟩ = some (.int .u64 ((b ^ vb pre % P : Nat) : Int)) ∧ W.frozen? ⟨w.heap.size + 1, 0, none⟩ = false ∧ W.cell? ⟨w.heap.size, 0, none⟩ = some (.int .u64 b)) ∧ Below w.heap.size w W)
    (fun _ _ _ => False)
    (OwnFrom.and (Own.from (fun s A B row hs hg hr => ⟨cell_kept hs.1 hg hr, (frozen_kept hs.1 hg hr).trans hs.2.1, cell_kept hs.2.2 hg hr⟩) _) (ownFrom_below (Nat.le_refl _) (by simp; omega)))
    (fun _ _ _ _ _ hs _ _ => hs)
    ⟨⟨keepc _ hc1.1, keepf _ hc1.1 hc1.2, keepc _ hc0⟩, hB3.alloc (by omega) _⟩
    (fun x => { tmps := #[.int .u64 b, .int .u64 e, .pointer (some ⟨w.heap.size, 0, none⟩), undef, .int .u64 0, .pointer (some ⟨w.heap.size + 1, 0, none⟩), .bool x, .int .u64 e,
      .func (.func 116) #[] #[.pointer (some ⟨w.heap.size + 1 + 1, 0, none⟩)], .bool x, undef, undef, undef, undef, undef, undef, undef, undef], defers := [] }) ?assign ?body ?done ?stop
  case assign =>
    intro l x W K hK
    gi_wp2
    exact hK
  case body =>
    rintro l pre x W ⟨⟨k1, f1, k2⟩, hB⟩ hlt
    have hP0 : 0 < P := by decide +kernel
    obtain ⟨o, ho⟩ : ∃ o, b ^ vb pre % P = o := ⟨_, rfl⟩
    have hoP : o < P := by rw [← ho]; exact Nat.mod_lt _ hP0
    rw [ho] at k1
    have hs := vb_snoc pre x
    have hq : o * o % P = b ^ (2 * vb pre) % P := by rw [← ho]; exact pw_sq b (vb pre) _ rfl
    have hqP : o * o % P < P := Nat.mod_lt _ hP0
    have hm := pw_mul b (2 * vb pre)
    rw [← hq] at hm
    generalize hqq : o * o % P = q at *
    have HP : ∀ w, Calls Tryd.prog 46 #[.int .u64 o, .int .u64 o, .int .u64 2305843009213693951] w fun e w' => e = .returned (.int .u64 (q : Int)) ∧ ∃ n, w' = w.drewN n := by
      intro w; have := prodP o o hoP hoP w; rwa [hqq] at this
    have HP := Lib.hid HP
    cases x
    · have HR := Lib.hid (show b ^ vb (pre ++ [false]) % P = q by rw [hs]; simp; exact hq.symm)
      clear hs hq hm ho hoP hqP hP0 hqq
      gi_wp2_with (refine ⟨trivial, ?_⟩; gi_at_call 46; refine (CallsIn.inRound l (callsIn_wide.2 (HP.out _))).mono ?_; rintro r w1 ⟨rfl, nn, rfl⟩)
      have hS := St.one (W := W) (c := w.heap.size + 1) nn (.int .u64 (q : Int)) k1
      exact ⟨hS.1, hS.2.2.2.1 _ (by omega), ⟨by rw [HR.out]; exact hS.2.1, hS.2.2.1.trans f1, (hS.2.2.2.1 _ (by omega)).trans k2⟩, hB.trans (hS.2.2.2.2 _ (by omega))⟩
    · obtain ⟨q2, hq2⟩ : ∃ q2, q * b % P = q2 := ⟨_, rfl⟩
      have HP2 : ∀ w, Calls Tryd.prog 46 #[.int .u64 q, .int .u64 b, .int .u64 2305843009213693951] w fun e w' => e = .returned (.int .u64 (q2 : Int)) ∧ ∃ n, w' = w.drewN n := by
        intro w; have := prodP q b hqP hb w; rwa [hq2] at this
      have HP2 := Lib.hid HP2
      have HR := Lib.hid (show b ^ vb (pre ++ [true]) % P = q2 by rw [hs, ← hq2, hm]; rfl)
      clear hs hq hm ho hoP hqP hP0 hqq hq2
      gi_wp2_with (first
        | (refine ⟨trivial, ?_⟩; gi_at_call 46; ((with_reducible refine (CallsIn.inRound l (callsIn_wide.2 (HP.out _))).mono ?_); rintro r w1 ⟨rfl, nn, rfl⟩))
        | (refine ⟨trivial, ?_⟩; gi_at_call 46; ((with_reducible refine (CallsIn.inRound l (callsIn_wide.2 (HP2.out _))).mono ?_); rintro r w1 ⟨rfl, nn2, rfl⟩)))
      have hS1 := St.one (W := W) (c := w.heap.size + 1) nn (.int .u64 (q : Int)) k1
      have hS := hS1.trans_ (St.one nn2 (.int .u64 (q2 : Int)) hS1.2.1)
      exact ⟨hS.1, hS.2.2.2.1 _ (by omega), ⟨by rw [HR.out]; exact hS.2.1, hS.2.2.1.trans f1, (hS.2.2.2.1 _ (by omega)).trans k2⟩, hB.trans (hS.2.2.2.2 _ (by omega))⟩
  case done =>
    rintro D ys W hD rfl ⟨⟨k1, f1, k2⟩, hB⟩ hK
    obtain ⟨hl1, hl2⟩ := bitLen_lt e he
    have hv := vb_upto e (Lib.bitLen e) hl1 (Lib.bitLen e) (Nat.le_refl _)
    rw [Nat.sub_self, Nat.pow_zero, Nat.div_one] at hv
    rw [hv] at k1
    clear hv hl1 hl2
    gi_wp2
    refine ⟨by simp, .inl ⟨_, _, rfl, run_takeDeferred hK, ?_⟩⟩
    exact ⟨_, results_tmp rfl _ _ _, rfl, hB.trans (belowK_b (w := w) (Nat.le_refl _) W D _ _ (by simp at hD; omega) hK rfl rfl)⟩
  case stop =>
    rintro D c pre W _ _ h _
    exact h.elim
end Go.Proofs.YtionmnjcfnmpeaaDoor.Sg
