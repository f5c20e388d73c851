/-
  Addresses: the reference's Valid, pack, Pack.
-/
import Derived.Test.YtpmmilnoeoapoaaGreatDoorAg
set_option linter.unusedVariables false
namespace Go.Proofs.YtpmmilnoeoapoaaGreatDoor.Ac
open Go Go.RowKit Go.Proofs.YtpmmilnoeoapoaaGreatDoor.Hz Go.Proofs.YtpmmilnoeoapoaaGreatDoor.Sx

set_option maxRecDepth 100000 in
set_option maxHeartbeats 3200000 in
theorem RVal_any (f : Int) (ip : ByteArray) (p : Int) (w : World) : Calls Tryz.prog 51 #[.agg #[.int .i64 f, .string ip, .int .i64 p]] w fun e w' => e = .returned (.bool (decide (okA f ip p))) ∧ Below w.heap.size w w' := by
  by_cases f4 : f = 4
  · subst f4
    by_cases z : (ip.size : Int) = 4
    · by_cases p1 : 1 ≤ p
      · by_cases p2 : p ≤ 65535
        · have D : decide (okA 4 ip p) = true := decide_eq_true (by unfold okA; omega)
          have DD := Lib.hid D
          clear D
          go_enter Tryz.func51, Tryz.ntmps51
          go_wp2
          go_ret
          exact ⟨by rw [DD.out]; rfl, (Below.refl _ _).alloc (Nat.le_refl _) _⟩
        · have D : decide (okA 4 ip p) = false := decide_eq_false (by unfold okA; omega)
          have DD := Lib.hid D
          clear D
          go_enter Tryz.func51, Tryz.ntmps51
          go_wp2
          go_ret
          exact ⟨by rw [DD.out]; rfl, (Below.refl _ _).alloc (Nat.le_refl _) _⟩
      · have D : decide (okA 4 ip p) = false := decide_eq_false (by unfold okA; omega)
        have DD := Lib.hid D
        clear D
        go_enter Tryz.func51, Tryz.ntmps51
        go_wp2
        go_ret
        exact ⟨by rw [DD.out]; rfl, (Below.refl _ _).alloc (Nat.le_refl _) _⟩
    · have D : decide (okA 4 ip p) = false := decide_eq_false (by unfold okA; omega)
      have DD := Lib.hid D
      clear D
      go_enter Tryz.func51, Tryz.ntmps51
      go_wp2
      go_ret
      exact ⟨by rw [DD.out]; rfl, (Below.refl _ _).alloc (Nat.le_refl _) _⟩
  · by_cases f6 : f = 6
    · subst f6
      by_cases z : (ip.size : Int) = 16
      · by_cases p1 : 1 ≤ p
        · by_cases p2 : p ≤ 65535
          · have D : decide (okA 6 ip p) = true := decide_eq_true (by unfold okA; omega)
            have DD := Lib.hid D
            clear D
            go_enter Tryz.func51, Tryz.ntmps51
            go_wp2
            go_ret
            exact ⟨by rw [DD.out]; rfl, (Below.refl _ _).alloc (Nat.le_refl _) _⟩
          · have D : decide (okA 6 ip p) = false := decide_eq_false (by unfold okA; omega)
            have DD := Lib.hid D
            clear D
            go_enter Tryz.func51, Tryz.ntmps51
            go_wp2
            go_ret
            exact ⟨by rw [DD.out]; rfl, (Below.refl _ _).alloc (Nat.le_refl _) _⟩
        · have D : decide (okA 6 ip p) = false := decide_eq_false (by unfold okA; omega)
          have DD := Lib.hid D
          clear D
          go_enter Tryz.func51, Tryz.ntmps51
          go_wp2
          go_ret
          exact ⟨by rw [DD.out]; rfl, (Below.refl _ _).alloc (Nat.le_refl _) _⟩
      · have D : decide (okA 6 ip p) = false := decide_eq_false (by unfold okA; omega)
        have DD := Lib.hid D
        clear D
        go_enter Tryz.func51, Tryz.ntmps51
        go_wp2
        go_ret
        exact ⟨by rw [DD.out]; rfl, (Below.refl _ _).alloc (Nat.le_refl _) _⟩
    · have D : decide (okA f ip p) = false := decide_eq_false (by unfold okA; omega)
      have DD := Lib.hid D
      clear D
      go_enter Tryz.func51, Tryz.ntmps51
      go_wp2
      go_ret
      exact ⟨by rw [DD.out]; rfl, (Below.refl _ _).alloc (Nat.le_refl _) _⟩


set_option maxHeartbeats 1000000 in
theorem rpack_any (f : Int) (ip : ByteArray) (p : Int) (w : World) (hz : ip.size ≤ 16) (p1 : 1 ≤ p) (p2 : p ≤ 65535) : Calls Tryz.prog 49 #[.agg #[.int .i64 f, .string ip, .int .i64 p]] w fun e w' => e = .returned (.string (pk ip p)) ∧ Below w.heap.size w w' := by
  have hcv := cnv2 (w.alloc (.cells #[.int .i64 f, .string ip, .int .i64 p] 26)) (p / 256) (p % 256)
  rw [World.size_alloc] at hcv
  have hs : (strOfNums [p / 256, p % 256]).size = 2 := by rw [strOfNums_size]; rfl
  go_enter Tryz.func49, Tryz.ntmps49
  go_wp2
  go_ret
  exact ⟨rfl, ((Below.refl _ _).alloc (Nat.le_refl _) _).alloc (by simp) _⟩

set_option maxRecDepth 100000 in
set_option maxHeartbeats 1000000 in
theorem RPack_any (f : Int) (ip : ByteArray) (p : Int) (w : World) : Calls Tryz.prog 17 #[.agg #[.int .i64 f, .string ip, .int .i64 p]] w fun e w' => e = .returned (.tuple #[.string (pkS f ip p), .int .i64 (pkE f ip p)]) ∧ Below w.heap.size w w' := by
  have HV := Lib.hid (RVal_any f ip p)
  obtain ⟨w1, hw1⟩ : ∃ w1, w.alloc (.cells #[.int .i64 f, .string ip, .int .i64 p] 26) = w1 := ⟨_, rfl⟩
  have hB1 : Below w.heap.size w w1 := by rw [← hw1]; exact (Below.refl _ _).alloc (Nat.le_refl _) _
  have k0 : w1.cell? ⟨w.heap.size, 0, none⟩ = some (.int .i64 f) := by rw [← hw1]; simp [go_sem]
  have k1 : w1.cell? ⟨w.heap.size, 1, none⟩ = some (.string ip) := by rw [← hw1]; simp [go_sem]
  have k2 : w1.cell? ⟨w.heap.size, 2, none⟩ = some (.int .i64 p) := by rw [← hw1]; simp [go_sem]
  have HW1 := Lib.hid hw1
  clear hw1
  by_cases h : okA f ip p
  · rw [show pkS f ip p = pk ip p from if_pos h, show pkE f ip p = 0 from if_pos h]
    have HD := Lib.hid (decide_eq_true h)
    have HP := Lib.hid (fun w => (rpack_any f ip p w (by obtain ⟨h, _⟩ := h; omega) h.2.1 h.2.2))
    clear h
    generalize pk ip p = S at HP ⊢
    go_enter Tryz.func17, Tryz.ntmps17
    go_wp2_with fail
    refine (HV.out _).mono ?_
    rintro e w2 ⟨rfl, hb⟩
    rw [HW1.out] at hb
    rw [HD.out]
    have q0 := kcell hb k0
    have q1 := kcell hb k1
    have q2 := kcell hb k2
    have hb1 := blw hB1 hb
    go_wp2_with fail
    refine (HP.out _).mono ?_
    rintro e w3 ⟨rfl, hb3⟩
    have hb4 := blw hb1 hb3
    go_wp2_with fail
    go_ret2
    exact ⟨rfl, hb4⟩
  · rw [show pkS f ip p = ⟨#[]⟩ from if_neg h, show pkE f ip p = 1 from if_neg h]
    have HD := Lib.hid (decide_eq_false h)
    clear h
    go_enter Tryz.func17, Tryz.ntmps17
    go_wp2_with fail
    refine (HV.out _).mono ?_
    rintro e w2 ⟨rfl, hb⟩
    rw [HW1.out] at hb
    rw [HD.out]
    have hb1 := blw hB1 hb
    go_wp2_with fail
    go_ret2
    exact ⟨rfl, hb1⟩
end Go.Proofs.YtpmmilnoeoapoaaGreatDoor.Ac
