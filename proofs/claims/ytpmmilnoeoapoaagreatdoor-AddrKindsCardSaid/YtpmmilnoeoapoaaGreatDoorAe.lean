/-
  Addresses: the program's ask, pack, Pack.
-/
import Derived.Test.YtpmmilnoeoapoaaGreatDoorAd
import Derived.WalkKit
import Derived.Deep.RegionWith
set_option linter.unusedVariables false
namespace Go.Proofs.YtpmmilnoeoapoaaGreatDoor.Ac
open Go Go.RowKit Go.Proofs.YtpmmilnoeoapoaaGreatDoor.Hz

theorem familyOf_ok (f : Int) (ip : ByteArray) (p : Int) (h : okA f ip p) (w : World) : Calls Tryz.prog 77 #[.int .i64 f] w fun e w' => e = .returned (.tuple #[fam f, .bool true]) ∧ w = w' := by
  obtain ⟨⟨rfl, _⟩ | ⟨rfl, _⟩, _⟩ := h
  · exact familyOf_4 w
  · exact familyOf_6 w

set_option maxHeartbeats 1000000 in
theorem ask_ok (f : Int) (ip : ByteArray) (p : Int) (w : World) (h : okA f ip p) : Calls Tryz.prog 44 #[.agg #[.int .i64 f, .string ip, .int .i64 p]] w fun e w' => e = .returned (fam f) ∧ Below w.heap.size w w' := by
  have HV := Lib.hid (fun w => (Valid_any f ip p w))
  have HF := Lib.hid (familyOf_ok f ip p h)
  have HD := Lib.hid (decide_eq_true h)
  generalize fam f = F at HF ⊢
  clear h
  obtain ⟨w1, hw1⟩ : ∃ w1, w.alloc (.cells #[.int .i64 f, .string ip, .int .i64 p] 26) = w1 := ⟨_, rfl⟩
  have hB1 : Below w.heap.size w w1 := by rw [← hw1]; exact (Below.refl _ _).alloc (Nat.le_refl _) _
  have k0 : w1.cell? ⟨w.heap.size, 0, none⟩ = some (.int .i64 f) := by rw [← hw1]; simp [go_sem]
  have HW1 := Lib.hid hw1
  clear hw1
  go_enter Tryz.func44, Tryz.ntmps44
  go_wp2_with fail
  refine (HV.out _).mono ?_
  rintro e w2 ⟨rfl, hb⟩
  rw [HW1.out] at hb
  rw [HD.out]
  have q0 : w2.cell? ⟨w.heap.size, 0, none⟩ = some (.int .i64 f) := kcell hb k0
  have q1 : Below w.heap.size w w2 := blw hB1 hb
  go_wp2_with fail
  refine (Aa.refuse_no _ _).mono ?_
  rintro e w3 ⟨rfl, rfl⟩
  go_wp2_with fail
  refine (HF.out _).mono ?_
  rintro e w3 ⟨rfl, rfl⟩
  go_wp2_with fail
  go_ret
  exact ⟨rfl, q1⟩

set_option maxHeartbeats 1000000 in
theorem ask_no (f : Int) (ip : ByteArray) (p : Int) (w : World) (h : ¬ okA f ip p) : Calls Tryz.prog 44 #[.agg #[.int .i64 f, .string ip, .int .i64 p]] w fun e w' => e = .panicked [{ v := .iface 27 (.int .i64 1), recovered := false }] ∧ Below w.heap.size w w' := by
  have HV := Lib.hid (fun w => (Valid_any f ip p w))
  have HD := Lib.hid (decide_eq_false h)
  clear h
  obtain ⟨w1, hw1⟩ : ∃ w1, w.alloc (.cells #[.int .i64 f, .string ip, .int .i64 p] 26) = w1 := ⟨_, rfl⟩
  have hB1 : Below w.heap.size w w1 := by rw [← hw1]; exact (Below.refl _ _).alloc (Nat.le_refl _) _
  have HW1 := Lib.hid hw1
  clear hw1
  go_enter Tryz.func44, Tryz.ntmps44
  go_wp2_with fail
  refine (HV.out _).mono ?_
  rintro e w2 ⟨rfl, hb⟩
  rw [HW1.out] at hb
  rw [HD.out]
  have q1 : Below w.heap.size w w2 := blw hB1 hb
  go_wp2_with fail
  refine (Aa.refuse_yes _ _).mono ?_
  rintro e w3 ⟨rfl, rfl⟩
  exact ⟨rfl, rfl, q1⟩
end Go.Proofs.YtpmmilnoeoapoaaGreatDoor.Ac
