/-
  An ordinary control: what its steps do.
-/
import Derived.Test.YtdkfniijoamaoadEp
import Derived.Deep.RegionWith
import Derived.RegionTactic
import Derived.BigRegion
import Derived.Deep.QuietTactic
import Derived.BigQuiet
namespace Go.Proofs.Ytdkfniijoamaoad.Ew
open Go Go.RowKit Go.Proofs.Ytdkfniijoamaoad.Ee

/-- half of a limit, but at least the first -/
def hl (l : Int) : Int := if (3000 : Int) < l / 2 then l / 2 else 3000
theorem hl_in (l : Int) (h1 : 1500 ≤ l) (h2 : l ≤ 1000000) : 3000 ≤ hl l ∧ hl l ≤ 1000000 := by
  unfold hl; split <;> omega

set_option maxHeartbeats 800000 in
theorem halve_any (c : Nat) (n a l th : Int) (hv : Bool) (w : World) (h : Ob w c n hv a l th) (h1 : 1500 ≤ l) (h2 : l ≤ 1000000) :
    Calls Try.prog 51 #[.pointer (some ⟨c, 0, none⟩)] w fun e w' => e = .returned (.tuple #[]) ∧ Ob w' c n hv a (hl l) (hl l) ∧ w.grownBy w' (some c) := by
  have c3 := h.c3
  have c4 := h.c4
  have f3 := h.fz 3
  have f4 := h.fz 4
  by_cases h3 : 3000 < l / 2
  · rw [show hl l = l / 2 from if_pos h3]
    have H2 := Lib.hid ((h.set4 (l / 2)).set3 (l / 2))
    have HG := Lib.hid (gb_trans (gb_set w c 4 (.int .i64 (l / 2))) (gb_set (w.setCell ⟨c, 4, none⟩ (.int .i64 (l / 2))) c 3 (.int .i64 (l / 2))))
    clear h
    go_enter Try.func51, Try.ntmps51
    go_wp2
    go_end0
    exact ⟨rfl, H2.out, HG.out⟩
  · rw [show hl l = 3000 from if_neg h3]
    have H2 := Lib.hid ((h.set4 3000).set3 3000)
    have HG := Lib.hid (gb_trans (gb_set w c 4 (.int .i64 3000)) (gb_set (w.setCell ⟨c, 4, none⟩ (.int .i64 3000)) c 3 (.int .i64 3000)))
    clear h
    go_enter Try.func51, Try.ntmps51
    go_wp2
    go_end0
    exact ⟨rfl, H2.out, HG.out⟩
theorem method_halve (c : Nat) (w : World) : (method 210 40 (.pointer (some ⟨c, 0, none⟩)) "covey/delay.halve").run Try.prog w = .ok (51, .pointer (some ⟨c, 0, none⟩)) w := by kernel_rfl

set_option maxHeartbeats 800000 in
theorem loss_soon (c : Nat) (n a l th now tr : Int) (w : World) (h : Ob w c n true a l th) (i1 : 0 ≤ a) (i2 : a ≤ 1000000000) (i3 : 0 ≤ now) (i4 : now ≤ 1000000000) (_ : 0 ≤ tr) (_ : tr ≤ 60000) (hs : now - a < 1 ∨ now - a < tr) :
    Calls Try.prog 32 #[.pointer (some ⟨c, 0, none⟩), .iface 40 (.pointer (some ⟨c, 0, none⟩)), .int .i64 now, .int .i64 tr] w fun e w' => e = .returned (.bool false) ∧ Ob w' c now true a l th ∧ w.grownBy w' (some c) := by
  have c0 := h.c0
  have c1 := h.c1
  have c2 := h.c2
  have f0 := h.fz 0
  have H2 := Lib.hid (h.set0 now)
  have HG := Lib.hid (gb_set w c 0 (.int .i64 now))
  clear h
  by_cases ht : 1 < tr
  · have hs' : now - a < tr := by omega
    clear hs
    go_enter Try.func32, Try.ntmps32
    go_wp2
    go_ret
    exact ⟨rfl, H2.out, HG.out⟩
  · have hs' : now - a < 1 := by omega
    clear hs
    go_enter Try.func32, Try.ntmps32
    go_wp2
    go_ret
    exact ⟨rfl, H2.out, HG.out⟩

set_option maxHeartbeats 800000 in
theorem loss_late (c : Nat) (n a l th now tr : Int) (hv : Bool) (w : World) (h : Ob w c n hv a l th) (h1 : 1500 ≤ l) (h2 : l ≤ 1000000) (i1 : 0 ≤ a) (i2 : a ≤ 1000000000) (i3 : 0 ≤ now) (i4 : now ≤ 1000000000) (_ : 0 ≤ tr) (_ : tr ≤ 60000) (hs : hv = true → 1 ≤ now - a ∧ tr ≤ now - a) :
    Calls Try.prog 32 #[.pointer (some ⟨c, 0, none⟩), .iface 40 (.pointer (some ⟨c, 0, none⟩)), .int .i64 now, .int .i64 tr] w fun e w' => e = .returned (.bool true) ∧ Ob w' c now true now (hl l) (hl l) ∧ w.grownBy w' (some c) := by
  have c0 := h.c0
  have c1 := h.c1
  have c2 := h.c2
  have f0 := h.fz 0
  have f1 := h.fz 1
  have f2 := h.fz 2
  have H2 := Lib.hid (halve_any c now now l th true _ (((h.set0 now).set1 true).set2 now) h1 h2)
  have HG := Lib.hid (gb_trans (gb_trans (gb_set w c 0 (.int .i64 now)) (gb_set (w.setCell ⟨c, 0, none⟩ (.int .i64 now)) c 1 (.bool true))) (gb_set ((w.setCell ⟨c, 0, none⟩ (.int .i64 now)).setCell ⟨c, 1, none⟩ (.bool true)) c 2 (.int .i64 now)))
  clear h
  have hm := method_halve c
  cases hv
  · clear hs
    go_enter Try.func32, Try.ntmps32
    go_wp2_with fail
    refine H2.out.mono ?_
    rintro e w1 ⟨rfl, hO, hg⟩
    go_wp2
    go_ret
    exact ⟨rfl, hO, gb_trans HG.out hg⟩
  · obtain ⟨s1, s2⟩ := hs rfl
    clear hs
    by_cases ht : 1 < tr
    · go_enter Try.func32, Try.ntmps32
      go_wp2_with fail
      refine H2.out.mono ?_
      rintro e w1 ⟨rfl, hO, hg⟩
      go_wp2
      go_ret
      exact ⟨rfl, hO, gb_trans HG.out hg⟩
    · go_enter Try.func32, Try.ntmps32
      go_wp2_with fail
      refine H2.out.mono ?_
      rintro e w1 ⟨rfl, hO, hg⟩
      go_wp2
      go_ret
      exact ⟨rfl, hO, gb_trans HG.out hg⟩

theorem enterAcked (args : Array Value) (w : World) : (callFunc 52 args).run Try.prog w = .ok (.enter 52 args) w := by kernel_rfl
theorem enterLoss (args : Array Value) (w : World) : (callFunc 46 args).run Try.prog w = .ok (.enter 46 args) w := by kernel_rfl
theorem enterOut (args : Array Value) (w : World) : (callFunc 50 args).run Try.prog w = .ok (.enter 50 args) w := by kernel_rfl

set_option maxHeartbeats 800000 in
theorem OutF (po c : Nat) (n a l th : Int) (hv : Bool) (w : World) (h : Ob w c n hv a l th) (h1 : 1500 ≤ l) (h2 : l ≤ 1000000) (cp : w.cell? ⟨po, 0, none⟩ = some (.pointer (some ⟨c, 0, none⟩))) (hne : po ≠ c) :
    Calls Try.prog 50 #[.pointer (some ⟨po, 0, none⟩)] w fun e w' => e = .returned (.bool true) ∧ Ob w' c n hv a 1500 (hl l) ∧ w.grownBy w' (some c) := by
  have HA := Lib.hid (ask_any c n a l th hv w h h1)
  have HH := Lib.hid (halve_any c n a l th hv w h h1 h2)
  clear h
  go_enter Try.func50, Try.ntmps50
  go_wp2_with fail
  refine HA.out.mono ?_
  rintro e w1 ⟨rfl, rfl⟩
  go_wp2_with fail
  refine HH.out.mono ?_
  rintro e w1 ⟨rfl, hO, hg⟩
  have cp1 := gb_cell hg cp hne
  have k3 := hO.c3
  have f3 := hO.fz 3
  have H3 := Lib.hid (hO.set3 1500)
  have HG := Lib.hid (gb_trans hg (gb_set w1 c 3 (.int .i64 1500)))
  clear hO hg cp
  go_wp2
  go_ret
  exact ⟨rfl, H3.out, HG.out⟩

end Go.Proofs.Ytdkfniijoamaoad.Ew
