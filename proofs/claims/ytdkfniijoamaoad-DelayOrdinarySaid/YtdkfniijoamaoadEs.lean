/-
  Loss: refused, and counted.
-/
import Derived.Test.YtdkfniijoamaoadEr
import Derived.RegionDies
namespace Go.Proofs.Ytdkfniijoamaoad.Ew
open Go Go.RowKit Go.Proofs.Ytdkfniijoamaoad.Ee

set_option maxHeartbeats 800000 in
theorem LossF_no (po pn pt c : Nat) (n a l th now tr : Int) (hv : Bool) (w : World) (h : Ob w c n hv a l th) (h1 : 1500 ≤ l) (hw : (wn now n 1000000000 && wn tr 0 60000) = false)
    (cp : w.cell? ⟨po, 0, none⟩ = some (.pointer (some ⟨c, 0, none⟩))) (cn : w.cell? ⟨pn, 0, none⟩ = some (.int .i64 now)) (ct : w.cell? ⟨pt, 0, none⟩ = some (.int .i64 tr)) :
    Calls Try.prog 46 #[.pointer (some ⟨po, 0, none⟩), .pointer (some ⟨pn, 0, none⟩), .pointer (some ⟨pt, 0, none⟩)] w fun e w' => e = .panicked [{ v := .iface 26 (.int .i64 7), recovered := false }] ∧ Below w.heap.size w w' := by
  have HA := Lib.hid (ask_any c n a l th hv w h h1)
  have HL := Lib.hid (fun k => askLoss_no c n a l th now tr hv (w.drewN k) h hw)
  clear h
  go_enter Try.func46, Try.ntmps46
  go_wp2_with fail
  refine HA.out.mono ?_
  rintro e w1 ⟨rfl, rfl⟩
  go_wp2_with fail
  go_region_dies
  all_goals
    refine (HL.out 1).mono ?_
    rintro e w1 ⟨rfl, rfl⟩
    exact ⟨rfl, rfl, below_drewN (Below.refl w.heap.size w) 1⟩

set_option maxHeartbeats 1600000 in
theorem LossF_late (po pn pt c : Nat) (n a l th now tr : Int) (hv : Bool) (w : World) (h : Ob w c n hv a l th) (hI : In n a l th) (hw : wn now n 1000000000 = true) (ht : wn tr 0 60000 = true) (hs : soon a now tr hv = false)
    (cp : w.cell? ⟨po, 0, none⟩ = some (.pointer (some ⟨c, 0, none⟩))) (cn : w.cell? ⟨pn, 0, none⟩ = some (.int .i64 now)) (ct : w.cell? ⟨pt, 0, none⟩ = some (.int .i64 tr)) :
    Calls Try.prog 46 #[.pointer (some ⟨po, 0, none⟩), .pointer (some ⟨pn, 0, none⟩), .pointer (some ⟨pt, 0, none⟩)] w fun e w' => e = .returned (.bool true) ∧ Ob w' c now true now (hl l) (hl l) ∧ w.grownBy w' (some c) := by
  obtain ⟨i1, i2, i3, i4, i5, i6, i7, i8⟩ := hI
  have hs2 := soon_no hs
  obtain ⟨j1, j2⟩ := wn_in hw
  obtain ⟨j3, j4⟩ := wn_in ht
  have HA := Lib.hid (ask_any c n a l th hv w h i5)
  have HL := Lib.hid (fun k => (askLoss_yes c n a l th now tr hv (w.drewN k) h hw ht).mono (R' := fun e w' => e = .returned (.tuple #[]) ∧ w' = w.drewN k) fun _ _ h => ⟨h.1, h.2.symm⟩)
  have HS := Lib.hid (fun k => loss_late c n a l th now tr hv (w.drewN k) h i5 i6 i3 i4 (by omega) j2 j3 j4 hs2)
  clear h hs hs2 hw ht
  go_enter Try.func46, Try.ntmps46
  go_wp2_with fail
  refine HA.out.mono ?_
  rintro e w1 ⟨rfl, rfl⟩
  go_wp2_with fail
  go_quiet ((go_at_call 31; exact Calls.quiet_of_same (HL.out _)))
  go_wp2_with fail
  go_region_with (go_at_call 32; refine (HS.out _).mono ?_; rintro e w2 ⟨rfl, hO, hg⟩)
  all_goals
    go_wp2_with fail
    go_ret
    exact ⟨rfl, hO, gb_trans (gb_drew w _ _) hg⟩
end Go.Proofs.Ytdkfniijoamaoad.Ew
