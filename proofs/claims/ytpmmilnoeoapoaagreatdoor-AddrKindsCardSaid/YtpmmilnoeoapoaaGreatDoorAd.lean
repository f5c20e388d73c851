/-
  Addresses: the program's Valid. (made by mk_ad.py)
-/
import Derived.Test.YtpmmilnoeoapoaaGreatDoorAc
import Derived.Deep.RegionHeld3
set_option linter.unusedVariables false
namespace Go.Proofs.YtpmmilnoeoapoaaGreatDoor.Ac
open Go Go.RowKit Go.Proofs.YtpmmilnoeoapoaaGreatDoor.Hz

abbrev ag (f : Int) (ip : ByteArray) (p : Int) : Value := .agg #[.int .i64 f, .string ip, .int .i64 p]

set_option maxRecDepth 100000 in
set_option maxHeartbeats 2000000 in
theorem Valid4_ok (ip : ByteArray) (p : Int) (w : World) (hz : ip.size = 4) (p1 : 1 ≤ p) (p2 : p ≤ 65535) : Calls Tryz.prog 81 #[.agg #[.int .i64 4, .string ip, .int .i64 p]] w fun e w' => e = .returned (.bool true) ∧ Below w.heap.size w w' := by
  have hm := meth4
  obtain ⟨w1, hw1⟩ : ∃ w1, w.alloc (.cells #[.int .i64 4, .string ip, .int .i64 p] 26) = w1 := ⟨_, rfl⟩
  have hB1 : Below w.heap.size w w1 := by rw [← hw1]; exact (Below.refl _ _).alloc (Nat.le_refl _) _
  have k1 : w1.cell? ⟨w.heap.size, 1, none⟩ = some (.string ip) := by rw [← hw1]; simp [go_sem]
  have k2 : w1.cell? ⟨w.heap.size, 2, none⟩ = some (.int .i64 p) := by rw [← hw1]; simp [go_sem]
  have HW1 := Lib.hid hw1
  have HB1 := Lib.hid hB1
  clear hw1
  have hf := familyOf_4
  rw [show fam 4 = .iface 108 (.agg #[]) from if_pos rfl] at hf
  have HF := Lib.hid hf
  clear hf
  have hzb : ((ip.size : Int) == 4) = true := by simp [hz]
  clear hz
  go_enter Tryz.func81, Tryz.ntmps81
  go_wp2_with fail
  refine (HF.out _).mono ?_
  rintro e w2 ⟨rfl, rfl⟩
  rw [HW1.out]
  go_wp2_with fail
  have hS0 : w1.drew.cell? ⟨w.heap.size, 1, none⟩ = some (.string ip) ∧ w1.drew.cell? ⟨w.heap.size, 2, none⟩ = some (.int .i64 p) ∧ Below w.heap.size w w1.drew := ⟨k1, k2, hB1.drew⟩
  go_region_held3 (fun w' => w'.cell? ⟨w.heap.size, 1, none⟩ = some (.string ip) ∧ w'.cell? ⟨w.heap.size, 2, none⟩ = some (.int .i64 p) ∧ Below w.heap.size w w')
    (first
      | exact hS0
      | assumption
      | (go_split_ands; exact ⟨kcell hbx (by assumption), kcell hbx (by assumption), blw (by assumption) hbx⟩))
    (first
      | (go_at_call 179; refine (size4 _ _ rfl).mono ?_; rintro e w2 ⟨rfl, hbx⟩))
  all_goals
    go_split_ands
    go_wp2
    go_ret
    exact ⟨by first | rfl | (show Ending.returned (Value.bool (decide (p ≤ 65535))) = _; rw [decide_eq_false (by omega)]), by assumption⟩

set_option maxRecDepth 100000 in
set_option maxHeartbeats 2000000 in
theorem Valid4_len (ip : ByteArray) (p : Int) (w : World) (hz : ip.size ≠ 4) : Calls Tryz.prog 81 #[.agg #[.int .i64 4, .string ip, .int .i64 p]] w fun e w' => e = .returned (.bool false) ∧ Below w.heap.size w w' := by
  have hm := meth4
  obtain ⟨w1, hw1⟩ : ∃ w1, w.alloc (.cells #[.int .i64 4, .string ip, .int .i64 p] 26) = w1 := ⟨_, rfl⟩
  have hB1 : Below w.heap.size w w1 := by rw [← hw1]; exact (Below.refl _ _).alloc (Nat.le_refl _) _
  have k1 : w1.cell? ⟨w.heap.size, 1, none⟩ = some (.string ip) := by rw [← hw1]; simp [go_sem]
  have k2 : w1.cell? ⟨w.heap.size, 2, none⟩ = some (.int .i64 p) := by rw [← hw1]; simp [go_sem]
  have HW1 := Lib.hid hw1
  have HB1 := Lib.hid hB1
  clear hw1
  have hf := familyOf_4
  rw [show fam 4 = .iface 108 (.agg #[]) from if_pos rfl] at hf
  have HF := Lib.hid hf
  clear hf
  have hzb : ((ip.size : Int) == 4) = false := by simp; omega
  have hzc : (ip.size == 4) = false := by simpa using hz
  have hzd : ¬ ((ip.size : Int) = 4) := by omega
  go_enter Tryz.func81, Tryz.ntmps81
  go_wp2_with fail
  refine (HF.out _).mono ?_
  rintro e w2 ⟨rfl, rfl⟩
  rw [HW1.out]
  go_wp2_with fail
  first
  | (go_region_with (go_at_call 179; refine (size4 _ _ rfl).mono ?_; rintro e w2 ⟨rfl, hbx⟩; have q1 : w2.cell? ⟨w.heap.size, 1, none⟩ = some (.string ip) := kcell hbx k1; have q2 : w2.cell? ⟨w.heap.size, 2, none⟩ = some (.int .i64 p) := kcell hbx k2; have q3 : Below w.heap.size w w2 := blw hB1.drew hbx))
  | fail "with"
  all_goals
    go_wp2
    go_ret
    exact ⟨rfl, by assumption⟩

set_option maxRecDepth 100000 in
set_option maxHeartbeats 2000000 in
theorem Valid4_lo (ip : ByteArray) (p : Int) (w : World) (hz : ip.size = 4) (p1 : p < 1) : Calls Tryz.prog 81 #[.agg #[.int .i64 4, .string ip, .int .i64 p]] w fun e w' => e = .returned (.bool false) ∧ Below w.heap.size w w' := by
  have hm := meth4
  obtain ⟨w1, hw1⟩ : ∃ w1, w.alloc (.cells #[.int .i64 4, .string ip, .int .i64 p] 26) = w1 := ⟨_, rfl⟩
  have hB1 : Below w.heap.size w w1 := by rw [← hw1]; exact (Below.refl _ _).alloc (Nat.le_refl _) _
  have k1 : w1.cell? ⟨w.heap.size, 1, none⟩ = some (.string ip) := by rw [← hw1]; simp [go_sem]
  have k2 : w1.cell? ⟨w.heap.size, 2, none⟩ = some (.int .i64 p) := by rw [← hw1]; simp [go_sem]
  have HW1 := Lib.hid hw1
  have HB1 := Lib.hid hB1
  clear hw1
  have hf := familyOf_4
  rw [show fam 4 = .iface 108 (.agg #[]) from if_pos rfl] at hf
  have HF := Lib.hid hf
  clear hf
  have hzb : ((ip.size : Int) == 4) = true := by simp [hz]
  clear hz
  go_enter Tryz.func81, Tryz.ntmps81
  go_wp2_with fail
  refine (HF.out _).mono ?_
  rintro e w2 ⟨rfl, rfl⟩
  rw [HW1.out]
  go_wp2_with fail
  first
  | (go_region_with (go_at_call 179; refine (size4 _ _ rfl).mono ?_; rintro e w2 ⟨rfl, hbx⟩; have q1 : w2.cell? ⟨w.heap.size, 1, none⟩ = some (.string ip) := kcell hbx k1; have q2 : w2.cell? ⟨w.heap.size, 2, none⟩ = some (.int .i64 p) := kcell hbx k2; have q3 : Below w.heap.size w w2 := blw hB1.drew hbx))
  | fail "with"
  all_goals
    go_wp2
    go_ret
    exact ⟨rfl, by assumption⟩

set_option maxRecDepth 100000 in
set_option maxHeartbeats 2000000 in
theorem Valid4_hi (ip : ByteArray) (p : Int) (w : World) (hz : ip.size = 4) (p1 : 1 ≤ p) (p2 : 65535 < p) : Calls Tryz.prog 81 #[.agg #[.int .i64 4, .string ip, .int .i64 p]] w fun e w' => e = .returned (.bool false) ∧ Below w.heap.size w w' := by
  have hm := meth4
  obtain ⟨w1, hw1⟩ : ∃ w1, w.alloc (.cells #[.int .i64 4, .string ip, .int .i64 p] 26) = w1 := ⟨_, rfl⟩
  have hB1 : Below w.heap.size w w1 := by rw [← hw1]; exact (Below.refl _ _).alloc (Nat.le_refl _) _
  have k1 : w1.cell? ⟨w.heap.size, 1, none⟩ = some (.string ip) := by rw [← hw1]; simp [go_sem]
  have k2 : w1.cell? ⟨w.heap.size, 2, none⟩ = some (.int .i64 p) := by rw [← hw1]; simp [go_sem]
  have HW1 := Lib.hid hw1
  have HB1 := Lib.hid hB1
  clear hw1
  have hf := familyOf_4
  rw [show fam 4 = .iface 108 (.agg #[]) from if_pos rfl] at hf
  have HF := Lib.hid hf
  clear hf
  have hzb : ((ip.size : Int) == 4) = true := by simp [hz]
  clear hz
  go_enter Tryz.func81, Tryz.ntmps81
  go_wp2_with fail
  refine (HF.out _).mono ?_
  rintro e w2 ⟨rfl, rfl⟩
  rw [HW1.out]
  go_wp2_with fail
  have hS0 : w1.drew.cell? ⟨w.heap.size, 1, none⟩ = some (.string ip) ∧ w1.drew.cell? ⟨w.heap.size, 2, none⟩ = some (.int .i64 p) ∧ Below w.heap.size w w1.drew := ⟨k1, k2, hB1.drew⟩
  go_region_held3 (fun w' => w'.cell? ⟨w.heap.size, 1, none⟩ = some (.string ip) ∧ w'.cell? ⟨w.heap.size, 2, none⟩ = some (.int .i64 p) ∧ Below w.heap.size w w')
    (first
      | exact hS0
      | assumption
      | (go_split_ands; exact ⟨kcell hbx (by assumption), kcell hbx (by assumption), blw (by assumption) hbx⟩))
    (first
      | (go_at_call 179; refine (size4 _ _ rfl).mono ?_; rintro e w2 ⟨rfl, hbx⟩))
  all_goals
    go_split_ands
    go_wp2
    go_ret
    exact ⟨by first | rfl | (show Ending.returned (Value.bool (decide (p ≤ 65535))) = _; rw [decide_eq_false (by omega)]), by assumption⟩

set_option maxRecDepth 100000 in
set_option maxHeartbeats 2000000 in
theorem Valid6_ok (ip : ByteArray) (p : Int) (w : World) (hz : ip.size = 16) (p1 : 1 ≤ p) (p2 : p ≤ 65535) : Calls Tryz.prog 81 #[.agg #[.int .i64 6, .string ip, .int .i64 p]] w fun e w' => e = .returned (.bool true) ∧ Below w.heap.size w w' := by
  have hm := meth6
  obtain ⟨w1, hw1⟩ : ∃ w1, w.alloc (.cells #[.int .i64 6, .string ip, .int .i64 p] 26) = w1 := ⟨_, rfl⟩
  have hB1 : Below w.heap.size w w1 := by rw [← hw1]; exact (Below.refl _ _).alloc (Nat.le_refl _) _
  have k1 : w1.cell? ⟨w.heap.size, 1, none⟩ = some (.string ip) := by rw [← hw1]; simp [go_sem]
  have k2 : w1.cell? ⟨w.heap.size, 2, none⟩ = some (.int .i64 p) := by rw [← hw1]; simp [go_sem]
  have HW1 := Lib.hid hw1
  have HB1 := Lib.hid hB1
  clear hw1
  have hf := familyOf_6
  rw [show fam 6 = .iface 109 (.agg #[]) from if_neg (by decide)] at hf
  have HF := Lib.hid hf
  clear hf
  have hzb : ((ip.size : Int) == 16) = true := by simp [hz]
  clear hz
  go_enter Tryz.func81, Tryz.ntmps81
  go_wp2_with fail
  refine (HF.out _).mono ?_
  rintro e w2 ⟨rfl, rfl⟩
  rw [HW1.out]
  go_wp2_with fail
  have hS0 : w1.drew.cell? ⟨w.heap.size, 1, none⟩ = some (.string ip) ∧ w1.drew.cell? ⟨w.heap.size, 2, none⟩ = some (.int .i64 p) ∧ Below w.heap.size w w1.drew := ⟨k1, k2, hB1.drew⟩
  go_region_held3 (fun w' => w'.cell? ⟨w.heap.size, 1, none⟩ = some (.string ip) ∧ w'.cell? ⟨w.heap.size, 2, none⟩ = some (.int .i64 p) ∧ Below w.heap.size w w')
    (first
      | exact hS0
      | assumption
      | (go_split_ands; exact ⟨kcell hbx (by assumption), kcell hbx (by assumption), blw (by assumption) hbx⟩))
    (first
      | (go_at_call 190; refine (size6 _ _ rfl).mono ?_; rintro e w2 ⟨rfl, hbx⟩))
  all_goals
    go_split_ands
    go_wp2
    go_ret
    exact ⟨by first | rfl | (show Ending.returned (Value.bool (decide (p ≤ 65535))) = _; rw [decide_eq_false (by omega)]), by assumption⟩

set_option maxRecDepth 100000 in
set_option maxHeartbeats 2000000 in
theorem Valid6_len (ip : ByteArray) (p : Int) (w : World) (hz : ip.size ≠ 16) : Calls Tryz.prog 81 #[.agg #[.int .i64 6, .string ip, .int .i64 p]] w fun e w' => e = .returned (.bool false) ∧ Below w.heap.size w w' := by
  have hm := meth6
  obtain ⟨w1, hw1⟩ : ∃ w1, w.alloc (.cells #[.int .i64 6, .string ip, .int .i64 p] 26) = w1 := ⟨_, rfl⟩
  have hB1 : Below w.heap.size w w1 := by rw [← hw1]; exact (Below.refl _ _).alloc (Nat.le_refl _) _
  have k1 : w1.cell? ⟨w.heap.size, 1, none⟩ = some (.string ip) := by rw [← hw1]; simp [go_sem]
  have k2 : w1.cell? ⟨w.heap.size, 2, none⟩ = some (.int .i64 p) := by rw [← hw1]; simp [go_sem]
  have HW1 := Lib.hid hw1
  have HB1 := Lib.hid hB1
  clear hw1
  have hf := familyOf_6
  rw [show fam 6 = .iface 109 (.agg #[]) from if_neg (by decide)] at hf
  have HF := Lib.hid hf
  clear hf
  have hzb : ((ip.size : Int) == 16) = false := by simp; omega
  have hzc : (ip.size == 16) = false := by simpa using hz
  have hzd : ¬ ((ip.size : Int) = 16) := by omega
  go_enter Tryz.func81, Tryz.ntmps81
  go_wp2_with fail
  refine (HF.out _).mono ?_
  rintro e w2 ⟨rfl, rfl⟩
  rw [HW1.out]
  go_wp2_with fail
  first
  | (go_region_with (go_at_call 190; refine (size6 _ _ rfl).mono ?_; rintro e w2 ⟨rfl, hbx⟩; have q1 : w2.cell? ⟨w.heap.size, 1, none⟩ = some (.string ip) := kcell hbx k1; have q2 : w2.cell? ⟨w.heap.size, 2, none⟩ = some (.int .i64 p) := kcell hbx k2; have q3 : Below w.heap.size w w2 := blw hB1.drew hbx))
  | fail "with"
  all_goals
    go_wp2
    go_ret
    exact ⟨rfl, by assumption⟩

set_option maxRecDepth 100000 in
set_option maxHeartbeats 2000000 in
theorem Valid6_lo (ip : ByteArray) (p : Int) (w : World) (hz : ip.size = 16) (p1 : p < 1) : Calls Tryz.prog 81 #[.agg #[.int .i64 6, .string ip, .int .i64 p]] w fun e w' => e = .returned (.bool false) ∧ Below w.heap.size w w' := by
  have hm := meth6
  obtain ⟨w1, hw1⟩ : ∃ w1, w.alloc (.cells #[.int .i64 6, .string ip, .int .i64 p] 26) = w1 := ⟨_, rfl⟩
  have hB1 : Below w.heap.size w w1 := by rw [← hw1]; exact (Below.refl _ _).alloc (Nat.le_refl _) _
  have k1 : w1.cell? ⟨w.heap.size, 1, none⟩ = some (.string ip) := by rw [← hw1]; simp [go_sem]
  have k2 : w1.cell? ⟨w.heap.size, 2, none⟩ = some (.int .i64 p) := by rw [← hw1]; simp [go_sem]
  have HW1 := Lib.hid hw1
  have HB1 := Lib.hid hB1
  clear hw1
  have hf := familyOf_6
  rw [show fam 6 = .iface 109 (.agg #[]) from if_neg (by decide)] at hf
  have HF := Lib.hid hf
  clear hf
  have hzb : ((ip.size : Int) == 16) = true := by simp [hz]
  clear hz
  go_enter Tryz.func81, Tryz.ntmps81
  go_wp2_with fail
  refine (HF.out _).mono ?_
  rintro e w2 ⟨rfl, rfl⟩
  rw [HW1.out]
  go_wp2_with fail
  first
  | (go_region_with (go_at_call 190; refine (size6 _ _ rfl).mono ?_; rintro e w2 ⟨rfl, hbx⟩; have q1 : w2.cell? ⟨w.heap.size, 1, none⟩ = some (.string ip) := kcell hbx k1; have q2 : w2.cell? ⟨w.heap.size, 2, none⟩ = some (.int .i64 p) := kcell hbx k2; have q3 : Below w.heap.size w w2 := blw hB1.drew hbx))
  | fail "with"
  all_goals
    go_wp2
    go_ret
    exact ⟨rfl, by assumption⟩

set_option maxRecDepth 100000 in
set_option maxHeartbeats 2000000 in
theorem Valid6_hi (ip : ByteArray) (p : Int) (w : World) (hz : ip.size = 16) (p1 : 1 ≤ p) (p2 : 65535 < p) : Calls Tryz.prog 81 #[.agg #[.int .i64 6, .string ip, .int .i64 p]] w fun e w' => e = .returned (.bool false) ∧ Below w.heap.size w w' := by
  have hm := meth6
  obtain ⟨w1, hw1⟩ : ∃ w1, w.alloc (.cells #[.int .i64 6, .string ip, .int .i64 p] 26) = w1 := ⟨_, rfl⟩
  have hB1 : Below w.heap.size w w1 := by rw [← hw1]; exact (Below.refl _ _).alloc (Nat.le_refl _) _
  have k1 : w1.cell? ⟨w.heap.size, 1, none⟩ = some (.string ip) := by rw [← hw1]; simp [go_sem]
  have k2 : w1.cell? ⟨w.heap.size, 2, none⟩ = some (.int .i64 p) := by rw [← hw1]; simp [go_sem]
  have HW1 := Lib.hid hw1
  have HB1 := Lib.hid hB1
  clear hw1
  have hf := familyOf_6
  rw [show fam 6 = .iface 109 (.agg #[]) from if_neg (by decide)] at hf
  have HF := Lib.hid hf
  clear hf
  have hzb : ((ip.size : Int) == 16) = true := by simp [hz]
  clear hz
  go_enter Tryz.func81, Tryz.ntmps81
  go_wp2_with fail
  refine (HF.out _).mono ?_
  rintro e w2 ⟨rfl, rfl⟩
  rw [HW1.out]
  go_wp2_with fail
  have hS0 : w1.drew.cell? ⟨w.heap.size, 1, none⟩ = some (.string ip) ∧ w1.drew.cell? ⟨w.heap.size, 2, none⟩ = some (.int .i64 p) ∧ Below w.heap.size w w1.drew := ⟨k1, k2, hB1.drew⟩
  go_region_held3 (fun w' => w'.cell? ⟨w.heap.size, 1, none⟩ = some (.string ip) ∧ w'.cell? ⟨w.heap.size, 2, none⟩ = some (.int .i64 p) ∧ Below w.heap.size w w')
    (first
      | exact hS0
      | assumption
      | (go_split_ands; exact ⟨kcell hbx (by assumption), kcell hbx (by assumption), blw (by assumption) hbx⟩))
    (first
      | (go_at_call 190; refine (size6 _ _ rfl).mono ?_; rintro e w2 ⟨rfl, hbx⟩))
  all_goals
    go_split_ands
    go_wp2
    go_ret
    exact ⟨by first | rfl | (show Ending.returned (Value.bool (decide (p ≤ 65535))) = _; rw [decide_eq_false (by omega)]), by assumption⟩

set_option maxHeartbeats 1000000 in
theorem Valid_fam (f : Int) (ip : ByteArray) (p : Int) (w : World) (h4 : f ≠ 4) (h6 : f ≠ 6) : Calls Tryz.prog 81 #[.agg #[.int .i64 f, .string ip, .int .i64 p]] w fun e w' => e = .returned (.bool false) ∧ Below w.heap.size w w' := by
  have HF := Lib.hid (familyOf_no f h4 h6)
  clear h4 h6
  go_enter Tryz.func81, Tryz.ntmps81
  go_wp2_with fail
  refine (HF.out _).mono ?_
  rintro e w2 ⟨rfl, rfl⟩
  go_wp2_with fail
  go_quiet (fail)
  go_wp2
  go_ret
  exact ⟨rfl, below_drewN ((Below.refl _ w).alloc (Nat.le_refl _) _) nq⟩
theorem Valid_any (f : Int) (ip : ByteArray) (p : Int) (w : World) : Calls Tryz.prog 81 #[.agg #[.int .i64 f, .string ip, .int .i64 p]] w fun e w' => e = .returned (.bool (decide (okA f ip p))) ∧ Below w.heap.size w w' := by
  by_cases h4 : f = 4
  · subst h4
    by_cases hz : ip.size = 4
    · by_cases p1 : 1 ≤ p
      · by_cases p2 : p ≤ 65535
        · rw [decide_eq_true (show okA 4 ip p by unfold okA; omega)]; exact Valid4_ok ip p w hz p1 p2
        · rw [decide_eq_false (show ¬ okA 4 ip p by unfold okA; omega)]; exact Valid4_hi ip p w hz p1 (by omega)
      · rw [decide_eq_false (show ¬ okA 4 ip p by unfold okA; omega)]; exact Valid4_lo ip p w hz (by omega)
    · rw [decide_eq_false (show ¬ okA 4 ip p by unfold okA; omega)]; exact Valid4_len ip p w hz
  · by_cases h6 : f = 6
    · subst h6
      by_cases hz : ip.size = 16
      · by_cases p1 : 1 ≤ p
        · by_cases p2 : p ≤ 65535
          · rw [decide_eq_true (show okA 6 ip p by unfold okA; omega)]; exact Valid6_ok ip p w hz p1 p2
          · rw [decide_eq_false (show ¬ okA 6 ip p by unfold okA; omega)]; exact Valid6_hi ip p w hz p1 (by omega)
        · rw [decide_eq_false (show ¬ okA 6 ip p by unfold okA; omega)]; exact Valid6_lo ip p w hz (by omega)
      · rw [decide_eq_false (show ¬ okA 6 ip p by unfold okA; omega)]; exact Valid6_len ip p w hz
    · rw [decide_eq_false (show ¬ okA f ip p by unfold okA; omega)]; exact Valid_fam f ip p w h4 h6
end Go.Proofs.YtpmmilnoeoapoaaGreatDoor.Ac
