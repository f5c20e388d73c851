/-
  Fields of bits: what every law on them calls: Light, awake.
-/
import Derived.Test.YtbeaohnjifcgaaaDoorBy
namespace Go.Proofs.YtbeaohnjifcgaaaDoor.Bh
open Go Go.RowKit Go.Shelf Go.Proofs.YtbeaohnjifcgaaaDoor.Sx Go.Proofs.YtbeaohnjifcgaaaDoor.Na Go.Proofs.YtbeaohnjifcgaaaDoor.Ba

theorem ex_IL (w : World) : IL (w.alloc (.cells #[.int .i64 0, .int .i64 2, .int .i64 3, .int .i64 4] 3)) (some ⟨w.heap.size, 0, none⟩) [0, 2, 3, 4] := fun _ =>
  ⟨w.heap.size, 0, rfl, fun i hi => by
    rw [Nat.zero_add]
    have hi : i < 4 := hi
    refine cell_at (World.alloc_heap_new _ _) ?_
    obtain rfl | rfl | rfl | rfl : i = 0 ∨ i = 1 ∨ i = 2 ∨ i = 3 := by omega
    all_goals rfl⟩
theorem ex_Of (w : World) : Calls Tryd.prog 32 #[.int .i64 10, .slice (some ⟨w.heap.size, 0, none⟩) 4 4] (w.alloc (.cells #[.int .i64 0, .int .i64 2, .int .i64 3, .int .i64 4] 3)) fun e w' => e = .returned (.tuple #[.string ⟨#[184, 0]⟩, .int .i64 0]) ∧ w.grownBy w' none := by
  have := Of_any 10 [0, 2, 3, 4] _ 4 _ (ex_IL w) (by unfold maxLen; decide)
  rw [ex_S, ex_E] at this
  exact this.mono fun e w' h => ⟨h.1, gb_trans (gb_alloc _ _ _) h.2⟩
theorem ex_Text (w : World) (ht : Hh.Tab w) : Calls Tryd.prog 47 #[.int .i64 10, .string ⟨#[184, 0]⟩] w fun e w' => e = .returned (.tuple #[.string ⟨#[48, 44, 50, 45, 52]⟩, .int .i64 0]) ∧ w.grownBy w' none := by
  have := Text_any 10 ex0 w (by decide) ht
  rw [ex_T, ex_chk] at this
  exact this

set_option maxRecDepth 100000 in
set_option maxHeartbeats 1600000 in
theorem awake_any (w : World) (ht : Hh.Tab w) : Calls Tryd.prog 11 #[] w fun e w' => e = .returned (.bool true) ∧ w.grownBy w' none := by
  have HO := Lib.hid (ex_Of w)
  have HX := Lib.hid (fun w ht => ex_Text w ht)
  have HT := Lib.hid ht
  clear ht
  go_enter Tryd.func11, Tryd.ntmps11
  go_wp2_with fail
  refine HO.out.mono ?_
  rintro e w1 ⟨rfl, hg⟩
  have HG := Lib.hid hg
  clear hg
  go_wp2_with fail
  refine (HX.out _ (HT.out.below (below_of HG.out))).mono ?_
  rintro e w2 ⟨rfl, hg⟩
  have HG2 := Lib.hid (gb_trans HG.out hg)
  clear hg
  go_wp2
  go_ret
  exact ⟨rfl, HG2.out⟩

/-- small enough to be looked at -/
def lgt (n : Int) (s : ByteArray) : Bool := decide (n < 5000) && decide (s.size < 700)
set_option maxRecDepth 100000 in
set_option maxHeartbeats 800000 in
theorem Light_any (n : Int) (s : ByteArray) (w : World) : Calls Tryd.prog 10 #[.int .i64 n, .string s] w fun e w' => e = .returned (.bool (lgt n s)) ∧ w = w' := by
  by_cases h1 : n < 5000
  · by_cases h2 : s.size < 700
    · rw [show lgt n s = true from by unfold lgt; simp [h1, h2]]
      have d1 : decide (n < 5000) = true := by simpa using h1
      have h2' : (s.size : Int) < 700 := by omega
      go_enter Tryd.func10, Tryd.ntmps10
      go_wp2
      go_ret
      exact ⟨by first | rfl | (simp; omega), rfl⟩
    · rw [show lgt n s = false from by unfold lgt; simp [h1, h2]]
      have d1 : decide (n < 5000) = true := by simpa using h1
      have d2 : decide ((s.size : Int) < 700) = false := by simp; omega
      go_enter Tryd.func10, Tryd.ntmps10
      go_wp2
      go_ret
      exact ⟨by first | rfl | (simp; omega), rfl⟩
  · rw [show lgt n s = false from by unfold lgt; simp [h1]]
    have d1 : decide (n < 5000) = false := by simpa using h1
    go_enter Tryd.func10, Tryd.ntmps10
    go_wp2
    go_ret
    exact ⟨rfl, rfl⟩
theorem Light_w (n : Int) (s : ByteArray) (w : World) (b : Bool) (h : lgt n s = b) : Calls Tryd.prog 10 #[.int .i64 n, .string s] w fun e w' => e = .returned (.bool b) ∧ w = w' := h ▸ Light_any n s w
end Go.Proofs.YtbeaohnjifcgaaaDoor.Bh
