/-
  Loss: the program's function.
-/
import Derived.Test.YtdkfniijoamaoadEq
namespace Go.Proofs.Ytdkfniijoamaoad.Ew
open Go Go.RowKit Go.Proofs.Ytdkfniijoamaoad.Ee

/-- the state behind a loss -/
def soon (a now tr : Int) (hv : Bool) : Bool := hv && (decide (now - a < 1) || decide (now - a < tr))
theorem soon_yes {a now tr : Int} {hv : Bool} (h : soon a now tr hv = true) : hv = true ∧ (now - a < 1 ∨ now - a < tr) := by
  unfold soon at h; simpa using h
theorem soon_no {a now tr : Int} {hv : Bool} (h : soon a now tr hv = false) : hv = true → 1 ≤ now - a ∧ tr ≤ now - a := by
  intro e; unfold soon at h; rw [e] at h; simp at h; omega

theorem wn_in {n a b : Int} (h : wn n a b = true) : a ≤ n ∧ n ≤ b := by unfold wn at h; simpa using h

set_option maxHeartbeats 1600000 in
theorem LossF_soon (po pn pt c : Nat) (n a l th now tr : Int) (hv : Bool) (w : World) (h : Ob w c n hv a l th) (hI : In n a l th) (hw : wn now n 1000000000 = true) (ht : wn tr 0 60000 = true) (hs : soon a now tr hv = true)
    (cp : w.cell? ⟨po, 0, none⟩ = some (.pointer (some ⟨c, 0, none⟩))) (cn : w.cell? ⟨pn, 0, none⟩ = some (.int .i64 now)) (ct : w.cell? ⟨pt, 0, none⟩ = some (.int .i64 tr)) :
    Calls Try.prog 46 #[.pointer (some ⟨po, 0, none⟩), .pointer (some ⟨pn, 0, none⟩), .pointer (some ⟨pt, 0, none⟩)] w fun e w' => e = .returned (.bool false) ∧ Ob w' c now hv a l th ∧ w.grownBy w' (some c) := by
  obtain ⟨i1, i2, i3, i4, i5, i6, i7, i8⟩ := hI
  obtain ⟨rfl, hs2⟩ := soon_yes hs
  obtain ⟨j1, j2⟩ := wn_in hw
  obtain ⟨j3, j4⟩ := wn_in ht
  have HA := Lib.hid (ask_any c n a l th true w h i5)
  have HL := Lib.hid (fun k => (askLoss_yes c n a l th now tr true (w.drewN k) h hw ht).mono (R' := fun e w' => e = .returned (.tuple #[]) ∧ w' = w.drewN k) fun _ _ h => ⟨h.1, h.2.symm⟩)
  have HS := Lib.hid (fun k => loss_soon c n a l th now tr (w.drewN k) h i3 i4 (by omega) j2 j3 j4 hs2)
  clear h hs hs2 hw ht
  go_enter Try.func46, Try.ntmps46
  go_wp2_with fail
  refine HA.out.mono ?_
  rintro e w1 ⟨rfl, rfl⟩
  go_wp2_with fail
  go_quiet ((go_at_call 31; exact Calls.quiet_of_same (HL.out _)))
  go_wp2_with fail
  go_region_with (go_at_call 32; refine (HS.out _).mono ?_; rintro e w2 ⟨rfl, hO, hg⟩)
  all_goals
    go_wp2_with fail
    go_ret
    exact ⟨rfl, hO, gb_trans (gb_drew w _ _) hg⟩
end Go.Proofs.Ytdkfniijoamaoad.Ew
