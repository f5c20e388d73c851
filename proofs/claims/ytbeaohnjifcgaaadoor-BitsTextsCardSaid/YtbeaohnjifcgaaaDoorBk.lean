/-
  Fields of bits: the program's Valid, the asking, mask, build, New, Full.
-/
import Derived.Test.YtbeaohnjifcgaaaDoorBj
namespace Go.Proofs.YtbeaohnjifcgaaaDoor.Bh
open Go Go.RowKit Go.Proofs.YtbeaohnjifcgaaaDoor.Sx Go.Proofs.YtbeaohnjifcgaaaDoor.Na Go.Proofs.YtbeaohnjifcgaaaDoor.Ba

set_option maxHeartbeats 800000 in
theorem Valid_any (n : Int) (s : ByteArray) (w : World) (hs : s.size ≤ 140737488351232) :
    Calls Tryd.prog 18 #[.int .i64 n, .string s] w fun e w' => e = .returned (.bool (vd n s)) ∧ w.grownBy w' none := by
  have HW := Lib.hid (Wrong_any n s w hs)
  have HV := Lib.hid (show (wer n s == 0) = vd n s from by unfold vd; rw [Bool.eq_iff_iff]; simp)
  obtain ⟨x, hx⟩ : ∃ x, wer n s = x := ⟨_, rfl⟩
  rw [hx] at HW HV
  clear hx
  go_enter Tryd.func18, Tryd.ntmps18
  go_wp2_with fail
  refine HW.out.mono ?_
  rintro e w1 ⟨rfl, hg⟩
  go_wp2
  go_ret
  exact ⟨by rw [← HV.out]; rfl, hg⟩
theorem Valid_w (n : Int) (s : ByteArray) (w : World) (hs : s.size ≤ 140737488351232) (b : Bool) (h : vd n s = b) :
    Calls Tryd.prog 18 #[.int .i64 n, .string s] w fun e w' => e = .returned (.bool b) ∧ w.grownBy w' none := h ▸ Valid_any n s w hs

set_option maxHeartbeats 800000 in
theorem askSize_ok (n : Int) (w : World) (h : rgt n = true) : Calls Tryd.prog 58 #[.int .i64 n] w fun e w' => e = .returned (.tuple #[]) ∧ w = w' := by
  obtain ⟨h1, h2⟩ := rgt_t h
  have d1 : decide (n < 0) = false := by simpa using h1
  have d2 : decide (4096 < n) = false := by simpa using h2
  have HR := Lib.hid (fun w => Bc.refuse_no 7 w)
  clear h
  go_enter Tryd.func58, Tryd.ntmps58
  go_wp2_with fail
  refine (HR.out _).mono ?_
  rintro e w1 ⟨rfl, rfl⟩
  go_wp2
  go_end0
  exact ⟨rfl, rfl⟩
set_option maxHeartbeats 800000 in
theorem askSize_no (n : Int) (w : World) (h : rgt n = false) : Calls Tryd.prog 58 #[.int .i64 n] w fun e w' => e = .panicked [{ v := .iface 24 (.int .i64 7), recovered := false }] ∧ w = w' := by
  have h0 := rgt_f h
  have HR := Lib.hid (fun w => Bc.refuse_yes 7 w)
  clear h
  by_cases h1 : n < 0
  · have d1 : decide (n < 0) = true := by simpa using h1
    clear h0
    go_enter Tryd.func58, Tryd.ntmps58
    go_wp2_with fail
    refine (HR.out _).mono ?_
    rintro e w1 ⟨rfl, rfl⟩
    exact ⟨rfl, rfl, rfl⟩
  · have h2 : 4096 < n := by omega
    have d1 : decide (n < 0) = false := by simp; omega
    have d2 : decide (4096 < n) = true := by simpa using h2
    clear h0
    go_enter Tryd.func58, Tryd.ntmps58
    go_wp2_with fail
    refine (HR.out _).mono ?_
    rintro e w1 ⟨rfl, rfl⟩
    exact ⟨rfl, rfl, rfl⟩
set_option maxHeartbeats 800000 in
theorem askField_ok (n : Int) (s : ByteArray) (w : World) (hs : s.size ≤ 140737488351232) (h : chk n s = 0) : Calls Tryd.prog 67 #[.int .i64 n, .string s] w fun e w' => e = .returned (.tuple #[]) ∧ w.grownBy w' none := by
  have hv := chk_t h
  have hr : rgt n = true := by obtain ⟨N, rfl, h1, _⟩ := vd_t hv; exact rgt_of h1
  have HA := Lib.hid (fun w => askSize_ok n w hr)
  have HV := Lib.hid (fun w => Valid_w n s w hs _ hv)
  have HR := Lib.hid (fun w => Bc.refuse_no 1 w)
  clear h hv hr
  go_enter Tryd.func67, Tryd.ntmps67
  go_wp2_with fail
  refine (HA.out _).mono ?_
  rintro e w1 ⟨rfl, rfl⟩
  go_wp2_with fail
  refine (HV.out _).mono ?_
  rintro e w1 ⟨rfl, hg⟩
  go_wp2_with fail
  refine (HR.out _).mono ?_
  rintro e w2 ⟨rfl, rfl⟩
  go_wp2
  go_end0
  exact ⟨rfl, hg⟩
set_option maxHeartbeats 800000 in
theorem askField_no (n : Int) (s : ByteArray) (w : World) (hs : s.size ≤ 140737488351232) (h : chk n s ≠ 0) : Calls Tryd.prog 67 #[.int .i64 n, .string s] w fun e w' => e = .panicked [{ v := .iface 24 (.int .i64 (chk n s)), recovered := false }] ∧ w.grownBy w' none := by
  cases hr : rgt n
  · rw [show chk n s = 7 from if_neg (by rw [hr]; decide)]
    have HA := Lib.hid (fun w => askSize_no n w hr)
    clear h hr
    go_enter Tryd.func67, Tryd.ntmps67
    go_wp2_with fail
    refine (HA.out _).mono ?_
    rintro e w1 ⟨rfl, rfl⟩
    exact ⟨rfl, rfl, gb_refl _ _⟩
  · have hv : vd n s = false := by
      cases e : vd n s
      · rfl
      · exact absurd (show chk n s = 0 from by unfold chk; rw [if_pos hr, if_pos e]) h
    rw [show chk n s = 1 from by unfold chk; rw [if_pos hr, if_neg (by rw [hv]; decide)]]
    have HA := Lib.hid (fun w => askSize_ok n w hr)
    have HV := Lib.hid (fun w => Valid_w n s w hs _ hv)
    have HR := Lib.hid (fun w => Bc.refuse_yes 1 w)
    clear h hv hr
    go_enter Tryd.func67, Tryd.ntmps67
    go_wp2_with fail
    refine (HA.out _).mono ?_
    rintro e w1 ⟨rfl, rfl⟩
    go_wp2_with fail
    refine (HV.out _).mono ?_
    rintro e w1 ⟨rfl, hg⟩
    go_wp2_with fail
    refine (HR.out _).mono ?_
    rintro e w2 ⟨rfl, rfl⟩
    exact ⟨rfl, rfl, hg⟩

theorem two_shl (t : Nat) : 255 * 2 ^ t / 2 ^ t = 255 := Nat.mul_div_cancel _ (Nat.two_pow_pos t)
/-- the bits of byte number k that are not spare -/
def mk (N k : Nat) : Nat := bN (fun i => decide (i < N)) k
theorem mk_full {N k : Nat} (h : 8 * k + 8 ≤ N) : mk N k = 255 := by
  symm
  refine bN_of _ _ _ (by omega) fun b hb => ?_
  rw [show decide (8 * k + (7 - b) < N) = true from by simp; omega]
  obtain rfl | rfl | rfl | rfl | rfl | rfl | rfl | rfl : b = 0 ∨ b = 1 ∨ b = 2 ∨ b = 3 ∨ b = 4 ∨ b = 5 ∨ b = 6 ∨ b = 7 := by omega
  all_goals decide
theorem mk_part {N k d : Nat} (hd : d ≤ 8) (h : 8 * k + (8 - d) = N) : mk N k = 255 * 2 ^ d % 256 := by
  symm
  refine bN_of _ _ _ (Nat.mod_lt _ (by omega)) fun b hb => ?_
  have e : decide (8 * k + (7 - b) < N) = decide (d ≤ b) := by rw [decide_eq_decide]; omega
  rw [e]
  clear e h
  obtain rfl | rfl | rfl | rfl | rfl | rfl | rfl | rfl | rfl : d = 0 ∨ d = 1 ∨ d = 2 ∨ d = 3 ∨ d = 4 ∨ d = 5 ∨ d = 6 ∨ d = 7 ∨ d = 8 := by omega
  all_goals
    obtain rfl | rfl | rfl | rfl | rfl | rfl | rfl | rfl : b = 0 ∨ b = 1 ∨ b = 2 ∨ b = 3 ∨ b = 4 ∨ b = 5 ∨ b = 6 ∨ b = 7 := by omega
  all_goals decide
theorem shl_mask (d : Nat) (hd : d ≤ 8) : IntKind.u8.wrap (255 * 2 ^ d : Int) = ((255 * 2 ^ d % 256 : Nat) : Int) := by
  rw [IntKind.wrap_u8]
  obtain rfl | rfl | rfl | rfl | rfl | rfl | rfl | rfl | rfl : d = 0 ∨ d = 1 ∨ d = 2 ∨ d = 3 ∨ d = 4 ∨ d = 5 ∨ d = 6 ∨ d = 7 ∨ d = 8 := by omega
  all_goals decide

set_option maxRecDepth 100000 in
set_option maxHeartbeats 800000 in
theorem mask_any (N k : Nat) (w : World) (hN : N ≤ 5000) (hk : 8 * k < N) : Calls Tryd.prog 64 #[.int .i64 N, .int .i64 k] w fun e w' => e = .returned (.int .u8 (mk N k)) ∧ w = w' := by
  by_cases h : 8 * k + 8 ≤ N
  · rw [mk_full h]
    have h8 : (8 : Int) ≤ (N : Int) - 8 * (k : Int) := by omega
    go_enter Tryd.func64, Tryd.ntmps64
    go_wp2
    go_ret
    exact ⟨rfl, rfl⟩
  · obtain ⟨d, hd⟩ : ∃ d : Nat, 8 * k + (8 - d) = N ∧ d ≤ 8 := ⟨8 * k + 8 - N, by omega⟩
    obtain ⟨hd1, hd2⟩ := hd
    rw [mk_part hd2 hd1]
    have h8 : (N : Int) - 8 * (k : Int) < 8 := by omega
    have h9 : (8 : Int) - ((N : Int) - 8 * (k : Int)) = (d : Int) := by omega
    have HS := shl_mask d hd2
    obtain ⟨x, hx⟩ : ∃ x, 255 * 2 ^ d % 256 = x := ⟨_, rfl⟩
    rw [hx] at HS ⊢
    have HD := Lib.hid hd1
    clear hx hd1
    go_enter Tryd.func64, Tryd.ntmps64
    go_wp2
    go_ret
    exact ⟨rfl, rfl⟩
end Go.Proofs.YtbeaohnjifcgaaaDoor.Bh
