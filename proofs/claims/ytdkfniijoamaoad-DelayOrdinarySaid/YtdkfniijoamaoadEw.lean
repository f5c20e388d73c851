/-
  An ordinary control: the reference's Loss.
-/
import Derived.Test.YtdkfniijoamaoadEr
import Derived.Test.YtdkfniijoamaoadEv
namespace Go.Proofs.Ytdkfniijoamaoad.Ew
open Go Go.RowKit Go.Proofs.Ytdkfniijoamaoad.Ee

set_option maxHeartbeats 800000 in
theorem rloss_soon (c : Nat) (n a l th now tr : Int) (w : World) (h : Rb w c n true a l th) (i1 : 0 ≤ a) (i2 : a ≤ 1000000000) (i3 : 0 ≤ now) (i4 : now ≤ 1000000000) (_ : 0 ≤ tr) (_ : tr ≤ 60000) (hs : now - a < 1 ∨ now - a < tr) :
    Calls Try.prog 49 #[.pointer (some ⟨c, 0, none⟩), .int .i64 now, .int .i64 tr] w fun e w' => e = .returned (.bool false) ∧ w = w' := by
  have c0 := h.c0
  have c1 := h.c1
  clear h
  by_cases ht : 1 < tr
  · have hs' : now - a < tr := by omega
    clear hs
    go_enter Try.func49, Try.ntmps49
    go_wp2
    go_ret
    exact ⟨rfl, rfl⟩
  · have hs' : now - a < 1 := by omega
    clear hs
    go_enter Try.func49, Try.ntmps49
    go_wp2
    go_ret
    exact ⟨rfl, rfl⟩

set_option maxHeartbeats 800000 in
theorem rloss_late (c : Nat) (n a l th now tr : Int) (hv : Bool) (w : World) (h : Rb w c n hv a l th) (i1 : 0 ≤ a) (i2 : a ≤ 1000000000) (i3 : 0 ≤ now) (i4 : now ≤ 1000000000) (_ : 0 ≤ tr) (_ : tr ≤ 60000) (hs : hv = true → 1 ≤ now - a ∧ tr ≤ now - a) :
    Calls Try.prog 49 #[.pointer (some ⟨c, 0, none⟩), .int .i64 now, .int .i64 tr] w fun e w' => e = .returned (.bool true) ∧ Rb w' c n true now l th ∧ w.grownBy w' (some c) := by
  have c0 := h.c0
  have c1 := h.c1
  have f0 := h.fz 0
  have f1 := h.fz 1
  have H2 := Lib.hid ((h.set0 now).set1 true)
  have HG := Lib.hid (gb_trans (gb_set w c 0 (.int .i64 now)) (gb_set (w.setCell ⟨c, 0, none⟩ (.int .i64 now)) c 1 (.bool true)))
  clear h
  cases hv
  · clear hs
    go_enter Try.func49, Try.ntmps49
    go_wp2
    go_ret
    exact ⟨rfl, H2.out, HG.out⟩
  · obtain ⟨s1, s2⟩ := hs rfl
    clear hs
    by_cases ht : 1 < tr
    · go_enter Try.func49, Try.ntmps49
      go_wp2
      go_ret
      exact ⟨rfl, H2.out, HG.out⟩
    · go_enter Try.func49, Try.ntmps49
      go_wp2
      go_ret
      exact ⟨rfl, H2.out, HG.out⟩

set_option maxHeartbeats 800000 in
theorem RLoss_no (c : Nat) (n a l th now tr : Int) (hv : Bool) (w : World) (h : Rb w c n hv a l th) (hw : (wn now n 1000000000 && wn tr 0 60000) = false) :
    Calls Try.prog 17 #[.pointer (some ⟨c, 0, none⟩), .int .i64 now, .int .i64 tr] w fun e w' => e = .returned (.tuple #[.bool false, .int .i64 7]) ∧ w = w' := by
  have c4 := h.c4
  cases h1 : wn now n 1000000000
  · have HA := Lib.hid (right_f _ _ _ h1)
    clear hw h h1
    go_enter Try.func17, Try.ntmps17
    go_wp2_with fail
    refine (HA.out _).mono ?_
    rintro e w1 ⟨rfl, rfl⟩
    go_wp2
    go_ret2
    exact ⟨rfl, rfl⟩
  · have ht : wn tr 0 60000 = false := by rw [h1] at hw; simpa using hw
    have HA := Lib.hid (right_t _ _ _ h1)
    have HT := Lib.hid (right_f _ _ _ ht)
    clear hw ht h h1
    go_enter Try.func17, Try.ntmps17
    go_wp2_with fail
    refine (HA.out _).mono ?_
    rintro e w1 ⟨rfl, rfl⟩
    go_wp2_with fail
    refine (HT.out _).mono ?_
    rintro e w1 ⟨rfl, rfl⟩
    go_wp2
    go_ret2
    exact ⟨rfl, rfl⟩

set_option maxHeartbeats 800000 in
theorem RLoss_soon (c : Nat) (n a l th now tr : Int) (hv : Bool) (w : World) (h : Rb w c n hv a l th) (hI : In n a l th) (hw : wn now n 1000000000 = true) (ht : wn tr 0 60000 = true) (hs : soon a now tr hv = true) :
    Calls Try.prog 17 #[.pointer (some ⟨c, 0, none⟩), .int .i64 now, .int .i64 tr] w fun e w' => e = .returned (.tuple #[.bool false, .int .i64 0]) ∧ Rb w' c now hv a l th ∧ w.grownBy w' (some c) := by
  obtain ⟨i1, i2, i3, i4, i5, i6, i7, i8⟩ := hI
  obtain ⟨rfl, hs2⟩ := soon_yes hs
  obtain ⟨j1, j2⟩ := wn_in hw
  obtain ⟨j3, j4⟩ := wn_in ht
  have c4 := h.c4
  have f4 := h.fz 4
  have HA := Lib.hid (right_t _ _ _ hw)
  have HT := Lib.hid (right_t _ _ _ ht)
  have H2 := Lib.hid (h.set4 now)
  have HS := Lib.hid (rloss_soon c now a l th now tr _ (h.set4 now) i3 i4 (by omega) j2 j3 j4 hs2)
  have HG := Lib.hid (gb_set w c 4 (.int .i64 now))
  clear h hs hs2 hw ht
  go_enter Try.func17, Try.ntmps17
  go_wp2_with fail
  refine (HA.out _).mono ?_
  rintro e w1 ⟨rfl, rfl⟩
  go_wp2_with fail
  refine (HT.out _).mono ?_
  rintro e w1 ⟨rfl, rfl⟩
  go_wp2_with fail
  refine HS.out.mono ?_
  rintro e w1 ⟨rfl, rfl⟩
  go_wp2
  go_ret2
  exact ⟨rfl, H2.out, HG.out⟩

set_option maxHeartbeats 800000 in
theorem RLoss_late (c : Nat) (n a l th now tr : Int) (hv : Bool) (w : World) (h : Rb w c n hv a l th) (hI : In n a l th) (hw : wn now n 1000000000 = true) (ht : wn tr 0 60000 = true) (hs : soon a now tr hv = false) :
    Calls Try.prog 17 #[.pointer (some ⟨c, 0, none⟩), .int .i64 now, .int .i64 tr] w fun e w' => e = .returned (.tuple #[.bool true, .int .i64 0]) ∧ Rb w' c now true now (hl l) (hl l) ∧ w.grownBy w' (some c) := by
  obtain ⟨i1, i2, i3, i4, i5, i6, i7, i8⟩ := hI
  have hs2 := soon_no hs
  obtain ⟨j1, j2⟩ := wn_in hw
  obtain ⟨j3, j4⟩ := wn_in ht
  have c4 := h.c4
  have f4 := h.fz 4
  have HA := Lib.hid (right_t _ _ _ hw)
  have HT := Lib.hid (right_t _ _ _ ht)
  have HS := Lib.hid (rloss_late c now a l th now tr hv _ (h.set4 now) i3 i4 (by omega) j2 j3 j4 hs2)
  have HG := Lib.hid (gb_set w c 4 (.int .i64 now))
  clear h hs hs2 hw ht
  by_cases h3 : 3000 < l / 2
  · rw [show hl l = l / 2 from if_pos h3]
    go_enter Try.func17, Try.ntmps17
    go_wp2_with fail
    refine (HA.out _).mono ?_
    rintro e w1 ⟨rfl, rfl⟩
    go_wp2_with fail
    refine (HT.out _).mono ?_
    rintro e w1 ⟨rfl, rfl⟩
    go_wp2_with fail
    refine HS.out.mono ?_
    rintro e w1 ⟨rfl, hO, hg⟩
    have d2 := hO.c2
    have d3 := hO.c3
    have g2 := hO.fz 2
    have g3 := hO.fz 3
    have H2 := Lib.hid ((hO.set3 (l / 2)).set2 (l / 2))
    have HG2 := Lib.hid (gb_trans (gb_trans HG.out hg) (gb_trans (gb_set w1 c 3 (.int .i64 (l / 2))) (gb_set (w1.setCell ⟨c, 3, none⟩ (.int .i64 (l / 2))) c 2 (.int .i64 (l / 2)))))
    clear hO hg
    go_wp2
    go_ret2
    exact ⟨rfl, H2.out, HG2.out⟩
  · rw [show hl l = 3000 from if_neg h3]
    by_cases h4 : l / 2 = 3000
    · skip
      go_enter Try.func17, Try.ntmps17
      go_wp2_with fail
      refine (HA.out _).mono ?_
      rintro e w1 ⟨rfl, rfl⟩
      go_wp2_with fail
      refine (HT.out _).mono ?_
      rintro e w1 ⟨rfl, rfl⟩
      go_wp2_with fail
      refine HS.out.mono ?_
      rintro e w1 ⟨rfl, hO, hg⟩
      have d2 := hO.c2
      have d3 := hO.c3
      have g2 := hO.fz 2
      have g3 := hO.fz 3
      have H2 := Lib.hid ((hO.set3 3000).set2 3000)
      have HG2 := Lib.hid (gb_trans (gb_trans HG.out hg) (gb_trans (gb_set w1 c 3 (.int .i64 3000)) (gb_set (w1.setCell ⟨c, 3, none⟩ (.int .i64 3000)) c 2 (.int .i64 3000))))
      clear hO hg
      go_wp2
      go_ret2
      exact ⟨rfl, H2.out, HG2.out⟩
    · have h5 : l / 2 < 3000 := by omega
      go_enter Try.func17, Try.ntmps17
      go_wp2_with fail
      refine (HA.out _).mono ?_
      rintro e w1 ⟨rfl, rfl⟩
      go_wp2_with fail
      refine (HT.out _).mono ?_
      rintro e w1 ⟨rfl, rfl⟩
      go_wp2_with fail
      refine HS.out.mono ?_
      rintro e w1 ⟨rfl, hO, hg⟩
      have d2 := hO.c2
      have d3 := hO.c3
      have g2 := hO.fz 2
      have g3 := hO.fz 3
      have H2 := Lib.hid ((hO.set3 3000).set2 3000)
      have HG2 := Lib.hid (gb_trans (gb_trans HG.out hg) (gb_trans (gb_set w1 c 3 (.int .i64 3000)) (gb_set (w1.setCell ⟨c, 3, none⟩ (.int .i64 3000)) c 2 (.int .i64 3000))))
      clear hO hg
      go_wp2
      go_ret2
      exact ⟨rfl, H2.out, HG2.out⟩

end Go.Proofs.Ytdkfniijoamaoad.Ew
