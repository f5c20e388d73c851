/-
  Fields of bits: the program's iterator set, as a range over it wants it.
-/
import Derived.Test.YtbeaohnjifcgaaaDoorBn
import Derived.Test.YtbeaohnjifcgaaaDoorRf
import Derived.RangeFuncBox
import Derived.Shelf.Abstract
import Derived.Shelf.RegionOpen
import Derived.OwnWalkIn
import Derived.TacticsInMore
import Derived.LoopNIn
import Derived.LoopIn
namespace Go.Proofs.YtbeaohnjifcgaaaDoor.Bh
open Go Go.RowKit Go.Shelf Go.Proofs.YtbeaohnjifcgaaaDoor.Sx Go.Proofs.YtbeaohnjifcgaaaDoor.Na Go.Proofs.YtbeaohnjifcgaaaDoor.Ba
attribute [local go_sem] Oper.semAt_some

theorem keeps_none {W W' : World} (hg : W.grownBy W' none) : KeepsOthers W W' := KeepsOthers.of_grownBy hg (fun j o' e _ => by cases e)

theorem set_in (n N : Nat) (s : ByteArray) (w : World) :
    CallsIn Fence.wide n Tryd.prog 75 #[.int .i64 (N : Int), .string s] w fun r w' => r = .returned (.func (.func 106) #[] #[.pointer (some ⟨w.heap.size, 0, none⟩), .pointer (some ⟨w.heap.size + 1, 0, none⟩)]) ∧ w' = (w.alloc (.cells #[.int .i64 (N : Int)] 3)).alloc (.cells #[.string s] 9) := by
  refine callsIn_of_wp Tryd.func75 rfl trivial ?_ rfl
  simp only [Tryd.ntmps75, List.size_toArray, List.length_cons, List.length_nil, Nat.reduceAdd, Nat.reduceSub, Array.replicate_succ, Array.replicate_zero, List.push_toArray, List.append_toArray, List.nil_append, List.cons_append]
  gi_wp2
  go_ret
  exact ⟨rfl, rfl⟩

set_option maxRecDepth 100000 in
set_option maxHeartbeats 2000000 in
theorem set1_in (n l pn ps N : Nat) (s : ByteArray) (hn : 2 ≤ n) (hN : N ≤ 8 * s.size) (hs : s.size ≤ 600) (J : Nat → World → Prop) (Jx Bx : Code → World → Prop) (B : World → Prop)
    (hc : ∀ i W, J i W → W.cell? ⟨pn, 0, none⟩ = some (.int .i64 (N : Int)) ∧ W.cell? ⟨ps, 0, none⟩ = some (.string s))
    (hg : ∀ i W W', J i W → W.grownBy W' none → J i W')
    (hno : ∀ i W, i < N → bt s i = false → J i W → J (i + 1) W)
    (hB : ∀ W W', B W → KeepsOthers W W' → B W')
    (hY : ∀ i W1, (i < N ∧ bt s i = true ∧ J i W1) → B W1 → YieldAt Fence.wide (n - 1) Tryd.prog l #[.int .i64 (i : Int)] W1 fun e W' => (e = .returned (.bool true) ∧ J (i + 1) W' ∧ B W') ∨ (e = .returned (.bool false) ∧ ∃ c, Jx c W' ∧ Bx c W'))
    (W : World) (hJ : J 0 W) (hBW : B W) :
    CallsIn Fence.wide n Tryd.prog 106 #[.func (.yield l) #[] #[], .pointer (some ⟨pn, 0, none⟩), .pointer (some ⟨ps, 0, none⟩)] W fun e W' => (∃ v, e = .returned v) ∧ ((J N W' ∧ B W') ∨ ∃ c, Jx c W' ∧ Bx c W') := by
  refine callsIn_of_wp Tryd.func106 rfl trivial ?_ rfl
  simp only [Tryd.ntmps106, List.size_toArray, List.length_cons, List.length_nil, Nat.reduceAdd, Nat.reduceSub, Array.replicate_succ, Array.replicate_zero, List.push_toArray, List.append_toArray, List.nil_append, List.cons_append]
  have HY := Lib.hid hY
  have HJ := Lib.hid hJ
  have HBW := Lib.hid hBW
  have HBB := Lib.hid hB
  have HC := Lib.hid hc
  have HGr := Lib.hid hg
  have HNo := Lib.hid hno
  have HNN := Lib.hid hN
  have c0 := (hc _ _ hJ).1
  have hN5 : N ≤ 5000 := by omega
  clear hY hJ hBW hB hc hg hno hN
  gi_wp2
  gi_loopw [4, 6] (fun _ i wr => ∃ k : Nat, k ≤ N ∧ i = .int .i64 k ∧ Hid (J k wr) ∧ Hid (B wr)) (fun _ i _ => N - (intOf i).toNat)
  case atStart => exact ⟨0, Nat.zero_le _, rfl, HJ, HBW⟩
  case round =>
    obtain ⟨k, hk, rfl, HJk, HBk⟩ := hrel
    by_cases hlt : k < N
    · have hlt' : (k : Int) < (N : Int) := by omega
      have cs := (HC.out _ _ HJk.out).2
      cases hb : bt s k
      · have HS := Lib.hid (isSet_w s k wr (by have := HNN.out; omega) (by omega) _ hb)
        have HJ1 := Lib.hid (HNo.out k wr hlt hb HJk.out)
        clear hb
        gi_wp2_with fail
        refine ⟨trivial, fun _ => by omega, ?_⟩
        refine (callsIn_wide.2 HS.out).mono ?_
        rintro e w2 ⟨rfl, g2⟩
        have HJ2 := Lib.hid (HGr.out _ _ _ HJ1.out g2)
        have HB2 := Lib.hid (HBB.out _ _ HBk.out (keeps_none g2))
        clear g2
        gi_wp2
        refine ⟨fun _ h => (by cases h), ?_⟩
        gi_wp2
        exact ⟨⟨k + 1, by omega, by go_num, HJ2, HB2⟩, by simp [intOf]; omega⟩
      · have HS := Lib.hid (isSet_w s k wr (by have := HNN.out; omega) (by omega) _ hb)
        have HBt := Lib.hid hb
        clear hb
        gi_wp2_with fail
        refine ⟨trivial, fun _ => by omega, ?_⟩
        refine (callsIn_wide.2 HS.out).mono ?_
        rintro e w2 ⟨rfl, g2⟩
        have HJ2 := Lib.hid (HGr.out _ _ _ HJk.out g2)
        have HB2 := Lib.hid (HBB.out _ _ HBk.out (keeps_none g2))
        clear g2
        obtain ⟨fn, tmps, assign, body, hy, hR⟩ := HY.out k w2 ⟨hlt, HBt.out, HJ2.out⟩ HB2.out
        have hy' : (Instr.yield l #[.int .i64 (k : Int)]).run Tryd.prog w2 = .ok (.round l fn tmps assign body) w2 := hy
        have HR := Lib.hid hR
        clear hy hR
        gi_wp2
        refine ⟨fun _ => by omega, HR.out.mono ?_⟩
        rintro e w3 (⟨rfl, hj, hb⟩ | ⟨rfl, c, hx, hbx⟩)
        · have HJ3 := Lib.hid hj
          have HB3 := Lib.hid hb
          clear hj hb HR hy'
          gi_wp2
          exact ⟨⟨k + 1, by omega, by go_num, HJ3, HB3⟩, by simp [intOf]; omega⟩
        · have HX := Lib.hid hx
          have HBX := Lib.hid hbx
          clear hx hbx HR hy'
          gi_wp2
          refine bodyPost_ret (results_none rfl _ _ _) rfl ?_
          exact ⟨⟨_, rfl⟩, .inr ⟨c, HX.out, HBX.out⟩⟩
    · obtain rfl : k = N := by omega
      gi_wp2_with fail
      go_end0
      exact ⟨⟨_, rfl⟩, .inl ⟨HJk.out, HBk.out⟩⟩
end Go.Proofs.YtbeaohnjifcgaaaDoor.Bh
