/-
  Addresses: the program's askLong, askFamily.
-/
import Derived.Test.YthlkpbpcfkgljaaAi
namespace Go.Proofs.Ythlkpbpcfkgljaa.Ac
open Go Go.RowKit Go.Proofs.Ythlkpbpcfkgljaa.Hz Go.Proofs.Ythlkpbpcfkgljaa.Sx

theorem refuse_f (b : Bool) (hb : b = false) (k : Int) (w : World) : Calls Try.prog 58 #[.bool b, .int .i64 k] w fun e w' => e = .returned (.tuple #[]) ∧ w = w' := by
  subst hb; exact Aa.refuse_no k w
theorem refuse_t (b : Bool) (hb : b = true) (k : Int) (w : World) : Calls Try.prog 58 #[.bool b, .int .i64 k] w fun e w' => e = .panicked [{ v := .iface 24 (.int .i64 k), recovered := false }] ∧ w = w' := by
  subst hb; exact Aa.refuse_yes k w

set_option maxHeartbeats 400000 in
theorem askLong_ok (s : ByteArray) (w : World) (h : s.size ≤ 65536) : Calls Try.prog 36 #[.string s] w fun e w' => e = .returned (.tuple #[]) ∧ w = w' := by
  have H := Lib.hid h
  clear h
  go_enter Try.func36, Try.ntmps36
  go_wp2_with fail
  refine (refuse_f _ (by have := H.out; simp; omega) _ _).mono ?_
  rintro e w1 ⟨rfl, rfl⟩
  go_wp2_with fail
  go_end0
  exact ⟨rfl, rfl⟩
set_option maxHeartbeats 400000 in
theorem askLong_no (s : ByteArray) (w : World) (h : 65536 < s.size) : Calls Try.prog 36 #[.string s] w fun e w' => e = .panicked [{ v := .iface 24 (.int .i64 3), recovered := false }] ∧ w = w' := by
  have H := Lib.hid h
  clear h
  go_enter Try.func36, Try.ntmps36
  go_wp2_with fail
  refine (refuse_t _ (by have := H.out; simp; omega) _ _).mono ?_
  rintro e w1 ⟨rfl, rfl⟩
  exact ⟨rfl, rfl, rfl⟩
set_option maxHeartbeats 400000 in
theorem askFam_ok (f : Int) (F : Value) (hF : ∀ w, Calls Try.prog 59 #[.int .i64 f] w fun e w' => e = .returned (.tuple #[F, .bool true]) ∧ w = w') (w : World) : Calls Try.prog 37 #[.int .i64 f] w fun e w' => e = .returned F ∧ w = w' := by
  have HF := Lib.hid hF
  clear hF
  go_enter Try.func37, Try.ntmps37
  go_wp2_with fail
  refine (HF.out _).mono ?_
  rintro e w1 ⟨rfl, rfl⟩
  go_wp2_with fail
  refine (Aa.refuse_no _ _).mono ?_
  rintro e w1 ⟨rfl, rfl⟩
  go_wp2_with fail
  go_ret
  exact ⟨rfl, rfl⟩
theorem askFam_4 (w : World) : Calls Try.prog 37 #[.int .i64 4] w fun e w' => e = .returned (.iface 91 (.agg #[])) ∧ w = w' :=
  askFam_ok 4 (fam 4) familyOf_4 w
theorem askFam_6 (w : World) : Calls Try.prog 37 #[.int .i64 6] w fun e w' => e = .returned (.iface 92 (.agg #[])) ∧ w = w' :=
  askFam_ok 6 (fam 6) familyOf_6 w
end Go.Proofs.Ythlkpbpcfkgljaa.Ac
