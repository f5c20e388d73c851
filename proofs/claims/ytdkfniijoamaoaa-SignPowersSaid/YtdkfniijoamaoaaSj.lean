/-
  Shared, Power; the law's check.
-/
import Derived.Test.YtdkfniijoamaoaaSi
import Derived.Test.YtdkfniijoamaoaaSc
import Derived.Deep.RegionWith
import Derived.RegionTactic
import Derived.BigRegion
namespace Go.Proofs.Ytdkfniijoamaoaa.Sg
open Go Go.RowKit Go.Proofs.Ytdkfniijoamaoaa.Hz

set_option maxHeartbeats 1600000 in
theorem SharedF_yes (pk ps : Nat) (n : Nat) (s : ByteArray) (w : World) (hz : s.size ≤ 140737488351232) (hv : vk s = true) (hs : sec (n : Int) = true) (ck : w.cell? ⟨pk, 0, none⟩ = some (.string s)) (cs : w.cell? ⟨ps, 0, none⟩ = some (.int .i64 (n : Int))) :
    Calls Try.prog 33 #[.pointer (some ⟨pk, 0, none⟩), .pointer (some ⟨ps, 0, none⟩)] w fun e w' => e = .returned (.string (e8 ((pre s 8 ^ n % P : Nat) : Int))) ∧ Below w.heap.size w w' := by
  have HV := Lib.hid (ValidKey_any s w hz)
  have HA := Lib.hid (askSecret_yes (n : Int) w hs)
  rw [hv] at HV
  have hlt : pre s 8 < P := by unfold vk at hv; simp at hv; exact hv.2.2
  have h8 : s.size = 8 := by unfold vk at hv; simp at hv; exact hv.1
  have hn : n ≤ 2305843009213693949 := by unfold sec at hs; simp at hs; omega
  have hu := fun w => unpack_any s w (by omega)
  have hp := fun w => power_any (pre s 8) n hlt (by omega) w
  have hq := pw_lt (pre s 8) n
  generalize pre s 8 = k at *
  have hk := fun w => pack_any ((k ^ n % P : Nat) : Int) w (by omega) (by omega)
  generalize k ^ n % P = p at *
  have HU := Lib.hid hu
  have HP := Lib.hid hp
  have HK := Lib.hid hk
  have hw : IntKind.u64.wrap (n : Int) = (n : Int) := by rw [IntKind.wrap_u64]; omega
  have h0 : (0 : Int) ≤ (n : Int) := by omega
  clear hv hs hlt h8 hn hu hp hq hk
  go_enter Try.func33, Try.ntmps33
  go_wp2_with fail
  refine HV.out.mono ?_
  rintro e w1 ⟨rfl, rfl⟩
  go_wp2_with fail
  refine (Sb.refuse_no _ _).mono ?_
  rintro e w1 ⟨rfl, rfl⟩
  go_wp2_with fail
  refine HA.out.mono ?_
  rintro e w1 ⟨rfl, rfl⟩
  go_wp2_with fail
  go_region_with (first
    | (go_at_call 37; refine (HU.out _).mono ?_; rintro e w1 ⟨rfl, rfl⟩)
    | (go_at_call 36; refine (HP.out _).mono ?_; rintro e w1 ⟨rfl, hb1⟩)
    | (go_at_call 35; refine (HK.out _).mono ?_; rintro e w2 ⟨rfl, hb2⟩))
  all_goals
    go_wp2
    go_ret
    exact ⟨rfl, blw (show Below w.heap.size w _ from ⟨hb1.os, hb1.tape, hb1.output, hb1.size, hb1.block⟩) hb2⟩

set_option maxHeartbeats 800000 in
theorem SharedF_key (pk ps : Nat) (s : ByteArray) (w : World) (hz : s.size ≤ 140737488351232) (hv : vk s = false) (ck : w.cell? ⟨pk, 0, none⟩ = some (.string s)) :
    Calls Try.prog 33 #[.pointer (some ⟨pk, 0, none⟩), .pointer (some ⟨ps, 0, none⟩)] w fun e w' => e = .panicked [{ v := .iface 23 (.int .i64 1), recovered := false }] ∧ Below w.heap.size w w' := by
  have HV := Lib.hid (ValidKey_any s w hz)
  rw [hv] at HV
  clear hv
  go_enter Try.func33, Try.ntmps33
  go_wp2_with fail
  refine HV.out.mono ?_
  rintro e w1 ⟨rfl, rfl⟩
  go_wp2_with fail
  refine (Sb.refuse_yes _ _).mono ?_
  rintro e w1 ⟨rfl, rfl⟩
  go_wp2_with fail
  simp [bodyPost]
  exact Below.refl _ _

set_option maxHeartbeats 800000 in
theorem SharedF_sec (pk ps : Nat) (x : Int) (s : ByteArray) (w : World) (hz : s.size ≤ 140737488351232) (hv : vk s = true) (hs : sec x = false) (ck : w.cell? ⟨pk, 0, none⟩ = some (.string s)) (cs : w.cell? ⟨ps, 0, none⟩ = some (.int .i64 x)) :
    Calls Try.prog 33 #[.pointer (some ⟨pk, 0, none⟩), .pointer (some ⟨ps, 0, none⟩)] w fun e w' => e = .panicked [{ v := .iface 23 (.int .i64 7), recovered := false }] ∧ Below w.heap.size w w' := by
  have HV := Lib.hid (ValidKey_any s w hz)
  have HA := Lib.hid (askSecret_no x w hs)
  rw [hv] at HV
  clear hv hs
  go_enter Try.func33, Try.ntmps33
  go_wp2_with fail
  refine HV.out.mono ?_
  rintro e w1 ⟨rfl, rfl⟩
  go_wp2_with fail
  refine (Sb.refuse_no _ _).mono ?_
  rintro e w1 ⟨rfl, rfl⟩
  go_wp2_with fail
  refine HA.out.mono ?_
  rintro e w1 ⟨rfl, rfl⟩
  go_wp2_with fail
  simp [bodyPost]
  exact Below.refl _ _

set_option maxHeartbeats 800000 in
theorem Shared_any (x : Int) (s : ByteArray) (w : World) (hz : s.size ≤ 140737488351232) :
    Calls Try.prog 9 #[.int .i64 x, .string s] w fun e w' => e = .returned (.tuple #[.string (shT x s), .int .i64 (shE x s)]) ∧ Below w.heap.size w w' := by
  have hmf : ∀ (fn : Fn) (first cap : Array Value) (w : World), (Instr.makeFunc fn first cap).run Try.prog w = .ok (.func fn first cap) w := fun _ _ _ _ => rfl
  have h1 : (Sb.aw ((w.alloc (.cells #[.int .i64 x] 3)).alloc (.cells #[.string s] 9))).cell? ⟨w.heap.size, 0, none⟩ = some (.int .i64 x) := by simp [Sb.aw, go_sem]
  have h2 : (Sb.aw ((w.alloc (.cells #[.int .i64 x] 3)).alloc (.cells #[.string s] 9))).cell? ⟨w.heap.size + 1, 0, none⟩ = some (.string s) := by simp [Sb.aw, go_sem]
  unfold shT shE
  cases hv : vk s
  · have HF := Lib.hid (Sb.attempt_err _ _ 1 _ enterShared (SharedF_key (w.heap.size + 1) w.heap.size s _ hz hv h2))
    clear hv h1 h2
    go_enter Try.func9, Try.ntmps9
    go_wp2_with fail
    refine HF.out.mono ?_
    rintro e w1 ⟨rfl, hb1⟩
    go_wp2
    go_ret2
    exact ⟨rfl, below_alloc _ (below_alloc _ hb1)⟩
  · cases hs : sec x
    · have HF := Lib.hid (Sb.attempt_err _ _ 7 _ enterShared (SharedF_sec (w.heap.size + 1) w.heap.size x s _ hz hv hs h2 h1))
      clear hv hs h1 h2
      go_enter Try.func9, Try.ntmps9
      go_wp2_with fail
      refine HF.out.mono ?_
      rintro e w1 ⟨rfl, hb1⟩
      go_wp2
      go_ret2
      exact ⟨rfl, below_alloc _ (below_alloc _ hb1)⟩
    · obtain ⟨n, rfl, _, _⟩ := sec_nat x hs
      have HF := Lib.hid (Sb.attempt_ret _ _ _ _ enterShared (SharedF_yes (w.heap.size + 1) w.heap.size n s _ hz hv hs h2 h1))
      have hn : (n : Int).toNat = n := by omega
      rw [hn]
      generalize e8 ((pre s 8 ^ n % P : Nat) : Int) = t at *
      clear hv hs h1 h2 hn
      go_enter Try.func9, Try.ntmps9
      go_wp2_with fail
      refine HF.out.mono ?_
      rintro e w1 ⟨rfl, hb1⟩
      go_wp2
      go_ret2
      exact ⟨rfl, below_alloc _ (below_alloc _ hb1)⟩

/-- a number below the prime -/
def nok (x : Int) : Bool := decide (0 ≤ x) && decide (x ≤ 2305843009213693950)
theorem nok_nat (x : Int) (h : nok x = true) : ∃ n : Nat, x = n ∧ n < P := by
  unfold nok at h
  simp at h
  rw [P_eq]
  exact ⟨x.toNat, by omega, by omega⟩

set_option maxHeartbeats 800000 in
theorem askNumbers_yes (b : Nat) (x y : Int) (w : World) (hx : nok x = true) (hy : nok y = true) (cx : w.cell? ⟨b, 0, none⟩ = some (.int .i64 x)) (cy : w.cell? ⟨b, 1, none⟩ = some (.int .i64 y)) :
    Calls Try.prog 41 #[.slice (some ⟨b, 0, none⟩) 2 2] w fun e w' => e = .returned (.tuple #[]) ∧ w = w' := by
  unfold nok at hx hy
  simp at hx hy
  have k1 : decide (x < 0) = false := by simp; omega
  have k2 : decide (2305843009213693950 < x) = false := by simp; omega
  have k3 : decide (y < 0) = false := by simp; omega
  have k4 : decide (2305843009213693950 < y) = false := by simp; omega
  clear hx hy
  go_enter Try.func41, Try.ntmps41
  go_wp2_with fail
  refine wp_loop_rounds 3 ?_
  rw [rounds_succ]
  go_wp2_with fail
  refine (Sb.refuse_no _ _).mono ?_
  rintro e w1 ⟨rfl, rfl⟩
  go_wp2_with fail
  rw [rounds_succ]
  go_wp2_with fail
  refine (Sb.refuse_no _ _).mono ?_
  rintro e w1 ⟨rfl, rfl⟩
  go_wp2_with fail
  rw [rounds_succ]
  go_wp2_with fail
  go_end0
  exact ⟨rfl, rfl⟩

set_option maxHeartbeats 800000 in
theorem askNumbers_no (b : Nat) (x y : Int) (w : World) (h : (nok x && nok y) = false) (cx : w.cell? ⟨b, 0, none⟩ = some (.int .i64 x)) (cy : w.cell? ⟨b, 1, none⟩ = some (.int .i64 y)) :
    Calls Try.prog 41 #[.slice (some ⟨b, 0, none⟩) 2 2] w fun e w' => e = .panicked [{ v := .iface 23 (.int .i64 7), recovered := false }] ∧ w = w' := by
  by_cases h1 : 0 ≤ x
  · have k1 : decide (x < 0) = false := by simp; omega
    by_cases h2 : x ≤ 2305843009213693950
    · have k2 : decide (2305843009213693950 < x) = false := by simp; omega
      by_cases h3 : 0 ≤ y
      · have k3 : decide (y < 0) = false := by simp; omega
        have k4 : decide (2305843009213693950 < y) = true := by
          unfold nok at h; simp [h1, h2, h3] at h; simp; omega
        clear h h1 h2 h3
        go_enter Try.func41, Try.ntmps41
        go_wp2_with fail
        refine wp_loop_rounds 3 ?_
        rw [rounds_succ]
        go_wp2_with fail
        refine (Sb.refuse_no _ _).mono ?_
        rintro e w1 ⟨rfl, rfl⟩
        go_wp2_with fail
        rw [rounds_succ]
        go_wp2_with fail
        refine (Sb.refuse_yes _ _).mono ?_
        rintro e w1 ⟨rfl, rfl⟩
        go_wp2_with fail
        simp [bodyPost]
      · have k3 : decide (y < 0) = true := by simp; omega
        clear h h1 h2 h3
        go_enter Try.func41, Try.ntmps41
        go_wp2_with fail
        refine wp_loop_rounds 3 ?_
        rw [rounds_succ]
        go_wp2_with fail
        refine (Sb.refuse_no _ _).mono ?_
        rintro e w1 ⟨rfl, rfl⟩
        go_wp2_with fail
        rw [rounds_succ]
        go_wp2_with fail
        refine (Sb.refuse_yes _ _).mono ?_
        rintro e w1 ⟨rfl, rfl⟩
        go_wp2_with fail
        simp [bodyPost]
    · have k2 : decide (2305843009213693950 < x) = true := by simp; omega
      clear h h1 h2
      go_enter Try.func41, Try.ntmps41
      go_wp2_with fail
      refine wp_loop_rounds 3 ?_
      rw [rounds_succ]
      go_wp2_with fail
      refine (Sb.refuse_yes _ _).mono ?_
      rintro e w1 ⟨rfl, rfl⟩
      go_wp2_with fail
      simp [bodyPost]
  · have k1 : decide (x < 0) = true := by simp; omega
    clear h h1
    go_enter Try.func41, Try.ntmps41
    go_wp2_with fail
    refine wp_loop_rounds 3 ?_
    rw [rounds_succ]
    go_wp2_with fail
    refine (Sb.refuse_yes _ _).mono ?_
    rintro e w1 ⟨rfl, rfl⟩
    go_wp2_with fail
    simp [bodyPost]
end Go.Proofs.Ytdkfniijoamaoaa.Sg
