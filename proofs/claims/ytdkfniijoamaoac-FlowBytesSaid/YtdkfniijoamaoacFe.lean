/-
  Numbers on the circle; Before; mark, named.
-/
import Derived.Test.YtdkfniijoamaoacFa
import Derived.Test.YtdkfniijoamaoacFb
import Derived.Test.YtdkfniijoamaoacFc
import Derived.Test.YtdkfniijoamaoacRw
import Derived.WalkKit
import Derived.WalkSpells
import Derived.WalkLawsBesides
import Derived.LoopTactic
import Derived.Outline
import Derived.OwnWalk
import Derived.Deep.QuietTactic
import Derived.BigQuiet
import Derived.BigRegion
import Derived.RegionTactic
import Derived.Deep.RegionWith
import Derived.Laws.Rows
import Derived.Maps.AppendAt
namespace Go.Proofs.Ytdkfniijoamaoac.Fl
open Go Go.RowKit Go.Proofs.Ytdkfniijoamaoac.Hz Go.Proofs.Ytdkfniijoamaoac.Rw

/-- a number on the circle -/
def num (n : Int) : Bool := decide (0 ≤ n) && decide (n ≤ 65535)
/-- before on the circle -/
def bf (a b : Int) : Bool := decide (1 ≤ (b - a) % 65536) && decide ((b - a) % 65536 ≤ 32767)
theorem and16 (n : Int) : bits .and .i64 n 65535 = n % 65536 := andm 16 n (by omega)

set_option maxHeartbeats 400000 in
theorem within_any (n a b : Int) (w : World) : Calls Try.prog 23 #[.int .i64 n, .int .i64 a, .int .i64 b] w fun e w' => e = .returned (.bool (decide (a ≤ n) && decide (n ≤ b))) ∧ w = w' := by
  by_cases h1 : a ≤ n
  · go_enter Try.func23, Try.ntmps23
    go_wp2
    all_goals
      go_ret
      exact ⟨by simp [h1], rfl⟩
  · go_enter Try.func23, Try.ntmps23
    go_wp2
    go_ret
    exact ⟨by simp; omega, rfl⟩
theorem isNumber_any (n : Int) (w : World) : Calls Try.prog 24 #[.int .i64 n] w fun e w' => e = .returned (.bool (num n)) ∧ w = w' := by
  have H := Lib.hid (within_any n 0 65535 w)
  rw [show (decide (0 ≤ n) && decide (n ≤ 65535)) = num n from rfl] at H
  go_enter Try.func24, Try.ntmps24
  go_wp2_with fail
  refine H.out.mono ?_
  rintro e w1 ⟨rfl, rfl⟩
  go_wp2
  go_ret
  exact ⟨rfl, rfl⟩
theorem turn_any (n : Int) (w : World) : Calls Try.prog 34 #[.int .i64 n] w fun e w' => e = .returned (.int .i64 (n % 65536)) ∧ w = w' := by
  have h := and16 n
  go_enter Try.func34, Try.ntmps34
  go_wp2
  go_ret
  exact ⟨rfl, rfl⟩
theorem before_any (a b : Int) (w : World) (ha : num a = true) (hb : num b = true) : Calls Try.prog 32 #[.int .i64 a, .int .i64 b] w fun e w' => e = .returned (.bool (bf a b)) ∧ w = w' := by
  unfold num at ha hb
  simp at ha hb
  have hw : IntKind.i64.wrap (b - a) = b - a := by rw [IntKind.wrap_i64]; omega
  have H := Lib.hid (within_any ((b - a) % 65536) 1 32767 w)
  rw [show (decide (1 ≤ (b - a) % 65536) && decide ((b - a) % 65536 ≤ 32767)) = bf a b from rfl] at H
  have T := Lib.hid (turn_any (b - a) w)
  obtain ⟨ha0, ha1⟩ := ha
  obtain ⟨hb0, hb1⟩ := hb
  go_enter Try.func32, Try.ntmps32
  go_wp2_with fail
  refine T.out.mono ?_
  rintro e w1 ⟨rfl, rfl⟩
  go_wp2_with fail
  refine H.out.mono ?_
  rintro e w1 ⟨rfl, rfl⟩
  go_wp2
  go_ret
  exact ⟨rfl, rfl⟩

theorem enterBefore (args : Array Value) (w : World) : (callFunc 31 args).run Try.prog w = .ok (.enter 31 args) w := by kernel_rfl
def bfV (a b : Int) : Bool := if num a && num b then bf a b else false
def bfE (a b : Int) : Int := if num a && num b then 0 else 7

set_option maxHeartbeats 800000 in
theorem Before_any (a b : Int) (w : World) :
    Calls Try.prog 13 #[.int .i64 a, .int .i64 b] w fun e w' => e = .returned (.tuple #[.bool (bfV a b), .int .i64 (bfE a b)]) ∧ Below w.heap.size w w' := by
  have hmf : ∀ (fn : Fn) (first cap : Array Value) (w : World), (Instr.makeFunc fn first cap).run Try.prog w = .ok (.func fn first cap) w := fun _ _ _ _ => rfl
  have h1 : (Fc.aw ((w.alloc (.cells #[.int .i64 a] 3)).alloc (.cells #[.int .i64 b] 3))).cell? ⟨w.heap.size, 0, none⟩ = some (.int .i64 a) := by simp [Fc.aw, go_sem]
  have h2 : (Fc.aw ((w.alloc (.cells #[.int .i64 a] 3)).alloc (.cells #[.int .i64 b] 3))).cell? ⟨w.heap.size + 1, 0, none⟩ = some (.int .i64 b) := by simp [Fc.aw, go_sem]
  generalize hW : Fc.aw ((w.alloc (.cells #[.int .i64 a] 3)).alloc (.cells #[.int .i64 b] 3)) = W at h1 h2
  have HN := Lib.hid isNumber_any
  unfold bfV bfE
  by_cases hab : num a = true ∧ num b = true
  · rw [hab.1, hab.2]
    have hF : Calls Try.prog 31 #[.pointer (some ⟨w.heap.size, 0, none⟩), .pointer (some ⟨w.heap.size + 1, 0, none⟩)] W fun e w1 => e = .returned (.bool (bf a b)) ∧ Below W.heap.size W w1 := by
      have q1 := HN.out a
      have q2 := HN.out b
      rw [hab.1] at q1
      rw [hab.2] at q2
      have Q1 := Lib.hid q1
      have Q2 := Lib.hid q2
      have HB := Lib.hid (before_any a b W hab.1 hab.2)
      clear hab q1 q2 hW
      go_enter Try.func31, Try.ntmps31
      go_wp2_with fail
      refine (Q1.out _).mono ?_
      rintro e w1 ⟨rfl, rfl⟩
      go_wp2_with fail
      refine (Q2.out _).mono ?_
      rintro e w1 ⟨rfl, rfl⟩
      go_wp2_with fail
      refine (Fb.refuse_no _ _).mono ?_
      rintro e w1 ⟨rfl, rfl⟩
      go_wp2_with fail
      refine HB.out.mono ?_
      rintro e w1 ⟨rfl, rfl⟩
      go_wp2
      go_ret
      exact ⟨rfl, Below.refl _ _⟩
    rw [← hW] at hF
    have HF := Lib.hid (Fc.attempt_ret _ _ _ _ enterBefore hF)
    clear hF hab h1 h2 hW
    go_enter Try.func13, Try.ntmps13
    go_wp2_with fail
    refine HF.out.mono ?_
    rintro e w1 ⟨rfl, hb1⟩
    go_wp2
    go_ret2
    exact ⟨rfl, below_alloc _ (below_alloc _ hb1)⟩
  · have hn : (num a && num b) = false := by
      cases h1 : num a <;> cases h2 : num b <;> simp_all
    rw [hn]
    have hF : Calls Try.prog 31 #[.pointer (some ⟨w.heap.size, 0, none⟩), .pointer (some ⟨w.heap.size + 1, 0, none⟩)] W fun e w1 => e = .panicked [{ v := .iface 25 (.int .i64 7), recovered := false }] ∧ Below W.heap.size W w1 := by
      cases ha : num a
      · have q1 := HN.out a
        rw [ha] at q1
        have Q1 := Lib.hid q1
        clear hab q1 hW hn ha
        go_enter Try.func31, Try.ntmps31
        go_wp2_with fail
        refine (Q1.out _).mono ?_
        rintro e w1 ⟨rfl, rfl⟩
        go_wp2_with fail
        refine (Fb.refuse_yes _ _).mono ?_
        rintro e w1 ⟨rfl, rfl⟩
        go_wp2_with fail
        simp [bodyPost]
        exact Below.refl _ _
      · have hb : num b = false := by rw [ha] at hn; simpa using hn
        have q1 := HN.out a
        have q2 := HN.out b
        rw [ha] at q1
        rw [hb] at q2
        have Q1 := Lib.hid q1
        have Q2 := Lib.hid q2
        clear hab q1 q2 hW hn ha hb
        go_enter Try.func31, Try.ntmps31
        go_wp2_with fail
        refine (Q1.out _).mono ?_
        rintro e w1 ⟨rfl, rfl⟩
        go_wp2_with fail
        refine (Q2.out _).mono ?_
        rintro e w1 ⟨rfl, rfl⟩
        go_wp2_with fail
        refine (Fb.refuse_yes _ _).mono ?_
        rintro e w1 ⟨rfl, rfl⟩
        go_wp2_with fail
        simp [bodyPost]
        exact Below.refl _ _
    rw [← hW] at hF
    have HF := Lib.hid (Fc.attempt_err _ _ 7 _ enterBefore hF)
    clear hF hab h1 h2 hW hn
    go_enter Try.func13, Try.ntmps13
    go_wp2_with fail
    refine HF.out.mono ?_
    rintro e w1 ⟨rfl, hb1⟩
    go_wp2
    go_ret2
    exact ⟨rfl, below_alloc _ (below_alloc _ hb1)⟩
end Go.Proofs.Ytdkfniijoamaoac.Fl
