/-
  The contracts of a hasher's methods, and of the digests.
-/
import Derived.Test.YtionmnjcfnmpeaaDoorHc
import Derived.WalkKit
import Derived.WalkSpells
import Derived.WalkLawsBesides
import Derived.LoopTactic
import Derived.Outline
import Derived.Deep.QuietTactic
import Derived.BigQuiet
import Derived.BigRegion
import Derived.RegionTactic
namespace Go.Proofs.YtionmnjcfnmpeaaDoor.Hh
open Go Go.RowKit

set_option maxRecDepth 100000 in
set_option maxHeartbeats 400000 in
theorem new_any (w : World) :
    Calls Tryd.prog 127 #[] w fun e w' => e = .returned (.pointer (some ⟨w.heap.size, 0, none⟩)) ∧ HL w' w.heap.size [] ∧ Below w.heap.size w w' := by
  go_enter Tryd.func127, Tryd.ntmps127
  go_wp2_with (go_at_call 139; refine (begin_any _ _ 0 0 0 0 0 ⟨_, heap_alloc_new _ _⟩).mono ?_; rintro e w1 ⟨rfl, hH, ho⟩)
  go_ret
  exact ⟨rfl, hH, ((Below.refl _ _).alloc (Nat.le_refl _) _).trans (ho.below (by simp) (Nat.le_refl _))⟩

set_option maxRecDepth 100000 in
set_option maxHeartbeats 400000 in
theorem add_any (b : Nat) (w : World) (l : List UInt8) (s : ByteArray) (hs : l.length + s.size ≤ maxLen) (H : HL w b l) :
    Calls Tryd.prog 129 #[.pointer (some ⟨b, 0, none⟩), .string s] w fun e w' => e = .returned (.tuple #[]) ∧ HL w' b (l ++ s.data.toList) ∧ Only b w w' := by
  have hs' : s.size ≤ maxLen := by omega
  unfold maxLen at hs
  have H1 := H
  unfold HL at H1
  generalize hx0 : Dg.run l Dg.st0 = x0 at H1
  generalize hx1 : Dg.run l Dg.st1 = x1 at H1
  generalize hx2 : Dg.run l Dg.st2 = x2 at H1
  generalize hx3 : Dg.run l Dg.st3 = x3 at H1
  have f := H1.free
  have c0 := H1.c0
  have c1 := H1.c1
  have c2 := H1.c2
  have c3 := H1.c3
  have c4 := H1.c4
  have hq := arr_eq x0 x1 x2 x3
  have hfin : ∀ w2, Hs w2 b (Dg.run s.data.toList x0) (Dg.run s.data.toList x1) (Dg.run s.data.toList x2) (Dg.run s.data.toList x3) ((l.length : Int) + s.size) → HL w2 b (l ++ s.data.toList) := by
    intro w2 h
    subst hx0 hx1 hx2 hx3
    unfold HL
    simp only [Dg.run_append, List.length_append, Int.natCast_add]
    simpa using h
  by_cases hl : l = []
  · have hx : (x0 == 0) = false := by rw [← hx0, hl]; decide
    have hn : l.length = 0 := by simp [hl]
    have e0 : (l.length : Int) + s.size = s.size := by simp [hn]
    rw [e0] at hfin
    clear H hx0 hx1 hx2 hx3 hl e0
    go_enter Tryd.func129, Tryd.ntmps129
    go_wp2_with (go_at_call 140; refine (take_any _ _ x0 x1 x2 x3 _ s hs' H1).mono ?_; rintro e w1 ⟨rfl, hH, ho⟩; have c4' := hH.c4; have f' := hH.free; clear c0 c1 c2 c3 c4 f)
    go_end0
    exact ⟨rfl, hfin _ (hH.setN _), ho.set _ _⟩
  · have hn : ((l.length : Int) == 0) = false := by
      have := List.length_pos_iff.2 hl
      simp; omega
    clear H hx0 hx1 hx2 hx3 hl
    go_enter Tryd.func129, Tryd.ntmps129
    go_wp2_with (go_at_call 140; refine (take_any _ _ x0 x1 x2 x3 _ s hs' H1).mono ?_; rintro e w1 ⟨rfl, hH, ho⟩; have c4' := hH.c4; have f' := hH.free; clear c0 c1 c2 c3 c4 f)
    go_end0
    exact ⟨rfl, hfin _ (hH.setN _), ho.set _ _⟩

set_option maxRecDepth 100000 in
set_option maxHeartbeats 400000 in
theorem sum_any (b : Nat) (w : World) (l : List UInt8) (H : HL w b l) :
    Calls Tryd.prog 130 #[.pointer (some ⟨b, 0, none⟩)] w fun e w' => e = .returned (.string (Dg.sum l)) ∧ Below w.heap.size w w' := by
  have H1 := H
  unfold HL at H1
  have hout : Dg.sum l = Dg.out (Dg.run l Dg.st0) (Dg.run l Dg.st1) (Dg.run l Dg.st2) (Dg.run l Dg.st3) (l.length : Int) := rfl
  rw [hout]
  generalize hx0 : Dg.run l Dg.st0 = x0 at H1
  generalize hx1 : Dg.run l Dg.st1 = x1 at H1
  generalize hx2 : Dg.run l Dg.st2 = x2 at H1
  generalize hx3 : Dg.run l Dg.st3 = x3 at H1
  have f := H1.free
  have c0 := H1.c0
  have c1 := H1.c1
  have c2 := H1.c2
  have c3 := H1.c3
  have c4 := H1.c4
  have hq := arr_eq x0 x1 x2 x3
  by_cases hl : l = []
  · have hx : (x0 == 0) = false := by rw [← hx0, hl]; decide
    have hn : l.length = 0 := by simp [hl]
    clear H H1 hx0 hx1 hx2 hx3 hl hout
    go_enter Tryd.func130, Tryd.ntmps130
    go_wp2_with (go_at_call 141; refine (end_any _ _ _ _ _ _).mono ?_; rintro e w1 ⟨rfl, hb⟩)
    go_ret
    exact ⟨by rw [hn]; rfl, ((Below.refl _ _).alloc (Nat.le_refl _) _).trans (hb.mono (by simp))⟩
  · have hn : ((l.length : Int) == 0) = false := by
      have := List.length_pos_iff.2 hl
      simp; omega
    clear H H1 hx0 hx1 hx2 hx3 hl hout
    go_enter Tryd.func130, Tryd.ntmps130
    go_wp2_with (go_at_call 141; refine (end_any _ _ _ _ _ _).mono ?_; rintro e w1 ⟨rfl, hb⟩)
    go_ret
    exact ⟨rfl, ((Below.refl _ _).alloc (Nat.le_refl _) _).trans (hb.mono (by simp))⟩

end Go.Proofs.YtionmnjcfnmpeaaDoor.Hh
