/-
  Times, Power: the program's and the reference's; the laws' check.
-/
import Derived.Test.YtionmnjcfnmpeaaDoorSj
namespace Go.Proofs.YtionmnjcfnmpeaaDoor.Sg
open Go Go.RowKit Go.Proofs.YtionmnjcfnmpeaaDoor.Hz

def both (x y : Int) : Bool := nok x && nok y
def pwV (x y : Int) : Int := if both x y then ((x.toNat ^ y.toNat % P : Nat) : Int) else 0
def tmV (x y : Int) : Int := if both x y then ((x.toNat * y.toNat % P : Nat) : Int) else 0
def bE (x y : Int) : Int := if both x y then 0 else 7

set_option maxRecDepth 1000000 in
set_option maxHeartbeats 800000 in
theorem PowerF_yes (pa pb : Nat) (a b : Nat) (w : World) (h : both a b = true) (ca : w.cell? ⟨pa, 0, none⟩ = some (.int .i64 (a : Int))) (cb : w.cell? ⟨pb, 0, none⟩ = some (.int .i64 (b : Int))) :
    Calls Tryd.prog 84 #[.pointer (some ⟨pa, 0, none⟩), .pointer (some ⟨pb, 0, none⟩)] w fun e w' => e = .returned (.int .i64 ((a ^ b % P : Nat) : Int)) ∧ Below w.heap.size w w' := by
  unfold both at h
  simp only [Bool.and_eq_true] at h
  obtain ⟨hx, hy⟩ := h
  have HA := Lib.hid (askNumbers_yes w.heap.size (a : Int) (b : Int) (w.alloc (.cells #[.int .i64 (a : Int), .int .i64 (b : Int)] 3)) hx hy (by simp [go_sem]) (by simp [go_sem]))
  have ca' := acell (.cells #[.int .i64 (a : Int), .int .i64 (b : Int)] 3) ca
  have cb' := acell (.cells #[.int .i64 (a : Int), .int .i64 (b : Int)] 3) cb
  obtain ⟨a', ha, ha2⟩ := nok_nat _ hx
  obtain rfl : a = a' := by omega
  obtain ⟨b', hb, hb2⟩ := nok_nat _ hy
  obtain rfl : b = b' := by omega
  have hP := power_any a b ha2 (by rw [P_eq] at hb2; omega) (w.alloc (.cells #[.int .i64 (a : Int), .int .i64 (b : Int)] 3))
  have hlt : a ^ b % P < P := Nat.mod_lt _ (by decide +kernel)
  rw [P_eq] at ha2 hb2
  generalize a ^ b % P = p at *
  rw [P_eq] at hlt
  have w1 : IntKind.u64.wrap (a : Int) = (a : Int) := by rw [IntKind.wrap_u64]; omega
  have w2 : IntKind.u64.wrap (b : Int) = (b : Int) := by rw [IntKind.wrap_u64]; omega
  have w3 : IntKind.i64.wrap (p : Int) = (p : Int) := by rw [IntKind.wrap_i64]; omega
  have w0 : (0 : Int) ≤ a := by omega
  have w00 : (0 : Int) ≤ b := by omega
  have HP := Lib.hid hP
  clear hx hy hP hlt ha hb ha2 hb2
  go_enter Tryd.func84, Tryd.ntmps84
  go_wp2_with fail
  refine HA.out.mono ?_
  rintro e w1 ⟨rfl, rfl⟩
  go_wp2_with fail
  refine HP.out.mono ?_
  rintro e w1 ⟨rfl, hb1⟩
  go_wp2
  go_ret
  exact ⟨rfl, below_alloc _ hb1⟩

set_option maxRecDepth 1000000 in
set_option maxHeartbeats 800000 in
theorem PowerF_no (pa pb : Nat) (a b : Int) (w : World) (h : both a b = false) (ca : w.cell? ⟨pa, 0, none⟩ = some (.int .i64 a)) (cb : w.cell? ⟨pb, 0, none⟩ = some (.int .i64 b)) :
    Calls Tryd.prog 84 #[.pointer (some ⟨pa, 0, none⟩), .pointer (some ⟨pb, 0, none⟩)] w fun e w' => e = .panicked [{ v := .iface 23 (.int .i64 7), recovered := false }] ∧ Below w.heap.size w w' := by
  have HA := Lib.hid (askNumbers_no w.heap.size a b (w.alloc (.cells #[.int .i64 a, .int .i64 b] 3)) h (by simp [go_sem]) (by simp [go_sem]))
  clear h
  go_enter Tryd.func84, Tryd.ntmps84
  go_wp2_with fail
  refine HA.out.mono ?_
  rintro e w1 ⟨rfl, rfl⟩
  go_wp2_with fail
  simp [bodyPost]
  exact (Below.refl _ _).alloc (Nat.le_refl _) _

theorem enterPower (args : Array Value) (w : World) : (callFunc 84 args).run Tryd.prog w = .ok (.enter 84 args) w := by kernel_rfl
theorem both_nat (x y : Int) (h : both x y = true) : ∃ a b : Nat, x = a ∧ y = b ∧ a < P ∧ b < P := by
  unfold both at h
  simp only [Bool.and_eq_true] at h
  obtain ⟨a, ha, ha2⟩ := nok_nat _ h.1
  obtain ⟨b, hb, hb2⟩ := nok_nat _ h.2
  exact ⟨a, b, ha, hb, ha2, hb2⟩

set_option maxRecDepth 1000000 in
set_option maxHeartbeats 800000 in
theorem Power_any (x y : Int) (w : World) :
    Calls Tryd.prog 34 #[.int .i64 x, .int .i64 y] w fun e w' => e = .returned (.tuple #[.int .i64 (pwV x y), .int .i64 (bE x y)]) ∧ Below w.heap.size w w' := by
  have hmf : ∀ (fn : Fn) (first cap : Array Value) (w : World), (Instr.makeFunc fn first cap).run Tryd.prog w = .ok (.func fn first cap) w := fun _ _ _ _ => rfl
  have h1 : (Sc.aw ((w.alloc (.cells #[.int .i64 x] 3)).alloc (.cells #[.int .i64 y] 3))).cell? ⟨w.heap.size, 0, none⟩ = some (.int .i64 x) := by simp [Sc.aw, go_sem]
  have h2 : (Sc.aw ((w.alloc (.cells #[.int .i64 x] 3)).alloc (.cells #[.int .i64 y] 3))).cell? ⟨w.heap.size + 1, 0, none⟩ = some (.int .i64 y) := by simp [Sc.aw, go_sem]
  unfold pwV bE
  cases hv : both x y
  · have HF := Lib.hid (Sc.attempt_err _ _ 7 _ enterPower (PowerF_no w.heap.size (w.heap.size + 1) x y _ hv h1 h2))
    clear hv h1 h2
    go_enter Tryd.func34, Tryd.ntmps34
    go_wp2_with fail
    refine HF.out.mono ?_
    rintro e w1 ⟨rfl, hb1⟩
    go_wp2
    go_ret2
    exact ⟨rfl, below_alloc _ (below_alloc _ hb1)⟩
  · obtain ⟨a, b, rfl, rfl, _, _⟩ := both_nat x y hv
    have HF := Lib.hid (Sc.attempt_ret _ _ _ _ enterPower (PowerF_yes w.heap.size (w.heap.size + 1) a b _ hv h1 h2))
    have hn : (a : Int).toNat = a := by omega
    have hm : (b : Int).toNat = b := by omega
    rw [hn, hm]
    generalize a ^ b % P = p at *
    clear hv h1 h2 hn hm
    go_enter Tryd.func34, Tryd.ntmps34
    go_wp2_with fail
    refine HF.out.mono ?_
    rintro e w1 ⟨rfl, hb1⟩
    go_wp2
    go_ret2
    exact ⟨rfl, below_alloc _ (below_alloc _ hb1)⟩

theorem both_facts (x y : Int) (h : both x y = true) : decide (x < 0) = false ∧ decide (2305843009213693951 ≤ x) = false ∧ decide (y < 0) = false ∧ decide (2305843009213693951 ≤ y) = false := by
  unfold both nok at h
  simp at h
  simp
  omega
theorem both_not (x y : Int) (h : both x y = false) : decide (x < 0) = true ∨ (decide (x < 0) = false ∧ decide (2305843009213693951 ≤ x) = true) ∨ (decide (x < 0) = false ∧ decide (2305843009213693951 ≤ x) = false ∧ decide (y < 0) = true) ∨ (decide (x < 0) = false ∧ decide (2305843009213693951 ≤ x) = false ∧ decide (y < 0) = false ∧ decide (2305843009213693951 ≤ y) = true) := by
  unfold both nok at h
  by_cases h1 : 0 ≤ x <;> by_cases h2 : x ≤ 2305843009213693950 <;> by_cases h3 : 0 ≤ y <;> simp [h1, h2, h3] at h ⊢ <;> omega

theorem ky1 : kyT 1 = ⟨#[0, 0, 0, 0, 0, 0, 0, 37]⟩ := by
  have h : kyT 1 = e8 ((37 ^ 1 % P : Nat) : Int) := rfl
  rw [h, show (37 ^ 1 % P : Nat) = 37 by decide +kernel]
  rfl
set_option maxRecDepth 1000000 in
set_option maxHeartbeats 800000 in
theorem awake_any (w : World) :
    Calls Tryd.prog 6 #[] w fun e w' => e = .returned (.bool true) ∧ Below w.heap.size w w' := by
  have HK := Lib.hid (Key_any 1 w)
  rw [ky1, show kyE 1 = 0 from rfl] at HK
  have HP := Lib.hid (Power_any 37 2)
  rw [show pwV 37 2 = 1369 by decide +kernel, show bE 37 2 = 0 by decide +kernel] at HP
  go_enter Tryd.func6, Tryd.ntmps6
  go_wp2_with fail
  refine HK.out.mono ?_
  rintro e w1 ⟨rfl, hb1⟩
  go_wp2_with fail
  refine (HP.out _).mono ?_
  rintro e w2 ⟨rfl, hb2⟩
  go_wp2
  go_ret
  exact ⟨rfl, blw hb1 hb2⟩
end Go.Proofs.YtionmnjcfnmpeaaDoor.Sg
