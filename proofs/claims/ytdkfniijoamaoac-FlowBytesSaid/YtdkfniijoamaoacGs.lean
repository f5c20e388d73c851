/-
  A packet that came in.
-/
import Derived.Test.YtdkfniijoamaoacAg
import Derived.Test.YtdkfniijoamaoacGq
namespace Go.Proofs.Ytdkfniijoamaoac.Ga
open Go Go.ChangeShapes Go.WideShapes Go.ChangeAt Go.RowKit

theorem open_seg {H : Type} {enc : TypeId × Value → H} {w : World} {base : Nat} {r : Reach} {v : Value} {d : DataW H} {ps : List MemPlace} (hv : Value.okWide Try.prog w r base 23 v) (h : DataW.Trod enc Try.prog w 0 (fun _ => true) true 23 v d ps) :
    ∃ (kind conn seq ack win : Int) (marks body : ByteArray) (time late : Int), v = .agg #[.int .i64 kind, .int .i64 conn, .int .i64 seq, .int .i64 ack, .int .i64 win, .string marks, .string body, .int .i64 time, .int .i64 late] := by
  obtain ⟨cs, rfl, hsz, hf⟩ := Ag.fields_of [true, true, true, true, true, false, false, true, true] Try.underlying23 (by kernel_rfl) hv h
  have I : ∀ j, j < 9 → [true, true, true, true, true, false, false, true, true].getD j true = true → ∃ z, cs[j]? = some (.int .i64 z) := fun j hj hk => by
    rcases hf j hj with ⟨_, z, _, h⟩ | ⟨h, _⟩
    · exact ⟨z, h⟩
    · rw [hk] at h; cases h
  have S : ∀ j, j < 9 → [true, true, true, true, true, false, false, true, true].getD j true = false → ∃ s, cs[j]? = some (.string s) := fun j hj hk => by
    rcases hf j hj with ⟨h, _⟩ | ⟨_, s, _, h⟩
    · rw [hk] at h; cases h
    · exact ⟨s, h⟩
  obtain ⟨z0, e0⟩ := I 0 (by omega) rfl
  obtain ⟨z1, e1⟩ := I 1 (by omega) rfl
  obtain ⟨z2, e2⟩ := I 2 (by omega) rfl
  obtain ⟨z3, e3⟩ := I 3 (by omega) rfl
  obtain ⟨z4, e4⟩ := I 4 (by omega) rfl
  obtain ⟨s5, e5⟩ := S 5 (by omega) rfl
  obtain ⟨s6, e6⟩ := S 6 (by omega) rfl
  obtain ⟨z7, e7⟩ := I 7 (by omega) rfl
  obtain ⟨z8, e8⟩ := I 8 (by omega) rfl
  refine ⟨z0, z1, z2, z3, z4, s5, s6, z7, z8, ?_⟩
  congr 1
  apply Array.ext_getElem?
  intro j
  by_cases hj : j < 9
  · obtain rfl | rfl | rfl | rfl | rfl | rfl | rfl | rfl | rfl : j = 0 ∨ j = 1 ∨ j = 2 ∨ j = 3 ∨ j = 4 ∨ j = 5 ∨ j = 6 ∨ j = 7 ∨ j = 8 := by omega
    all_goals assumption
  · rw [Array.getElem?_eq_none (by rw [hsz]; simp; omega), Array.getElem?_eq_none (by simp; omega)]
end Go.Proofs.Ytdkfniijoamaoac.Ga
