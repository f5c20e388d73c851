/-
  decode: too few bytes.
-/
import Derived.Test.YtdkfniijoamaoacGf
namespace Go.Proofs.Ytdkfniijoamaoac.Ga
open Go Go.RowKit Go.Proofs.Ytdkfniijoamaoac.Hz Go.Proofs.Ytdkfniijoamaoac.Ob

set_option maxHeartbeats 400000 in
theorem decode_short (s : ByteArray) (w : World) (h : (s.size : Int) < 24) :
    Calls Try.prog 29 #[.string s] w fun e w' => e = .panicked [{ v := .iface 56 (.agg #[.int .i64 s.size]), recovered := false }] ∧ Below w.heap.size w w' := by
  have HN := Lib.hid need_no
  go_enter Try.func29, Try.ntmps29
  go_wp2_with fail
  rw [show decide ((24 : Int) ≤ (s.size : Int)) = false from decide_eq_false (by omega)]
  refine (HN.out _ _).mono ?_
  rintro e w1 ⟨rfl, rfl⟩
  go_wp2_with fail
  simp [bodyPost]
  exact (Below.refl _ _).alloc (Nat.le_refl _) _
end Go.Proofs.Ytdkfniijoamaoac.Ga
