/-
  decode: bytes behind the marks of another kind.
-/
import Derived.Test.YtdkfniijoamaoacGi
namespace Go.Proofs.Ytdkfniijoamaoac.Ga
open Go Go.RowKit Go.Proofs.Ytdkfniijoamaoac.Hz Go.Proofs.Ytdkfniijoamaoac.Ob

set_option maxRecDepth 100000 in
set_option maxHeartbeats 1600000 in
theorem decode_y2o (s : ByteArray) (w : World) (h : (24 : Int) ≤ (s.size : Int)) (hz : s.size ≤ 100000) (H1 : by_ s 4 ≠ 2) (H2 : by_ s 5 ≤ 4) (hf : 24 + (by_ s 5 : Int) < (s.size : Int)) (Hk1 : 1 ≤ by_ s 4) (Hk2 : by_ s 4 ≤ 5) (hw : (rd s 20 4 : Int) ≤ 1000000) (hd : dgOk s) :
    Calls Try.prog 29 #[.string s] w (DecR s w) := by
  have HG := Lib.hid (show ¬ Good s by rintro ⟨g1, g2, g3, g4, g5, g6, g7, g8, g9⟩; first | omega | exact absurd g9 hd | (have := g7 (by omega); omega) | (have := g8 (by omega); omega))
  have HN := Lib.hid need_no
  have HY := Lib.hid need_yes
  have h4 : (4 : Int) ≤ (s.size : Int) := by omega
  have hsx : (s.extract 4 s.size).size ≤ maxLen := by unfold maxLen; simp; omega
  have hq1 := fun w => Hh.Sum_any (s.extract 4 s.size) w hsx
  have hq2 : (Dg.sum (s.extract 4 s.size).data.toList).size = 32 := Dg.sum_size _
  have hq3 : dgOk s ↔ ((Dg.sum (s.extract 4 s.size).data.toList).extract 0 4).toList = (s.extract 0 4).toList := by
    unfold dgOk
    exact ⟨fun h => by rw [h], fun h => by rwa [ByteArray.toList_eq, ByteArray.toList_eq, Array.toList_inj, ← ByteArray.ext_iff] at h⟩
  obtain ⟨SM, hSM⟩ : ∃ z, Dg.sum (s.extract 4 s.size).data.toList = z := ⟨_, rfl⟩
  rw [hSM] at hq2 hq3
  simp only [hSM] at hq1
  have HS := Lib.hid hq1
  have HQ := Lib.hid hq3
  clear hsx hq1 hq3 hSM
  have hr0 := fun w => read_any s 6 2 w (by omega) (by omega) (by omega)
  obtain ⟨r0, he0⟩ : ∃ r, rd s 6 2 = r := ⟨_, rfl⟩
  simp only [he0] at hr0
  have R0 := Lib.hid hr0
  have E0 := Lib.hid he0
  have hr1 := fun w => read_any s 8 2 w (by omega) (by omega) (by omega)
  obtain ⟨r1, he1⟩ : ∃ r, rd s 8 2 = r := ⟨_, rfl⟩
  simp only [he1] at hr1
  have R1 := Lib.hid hr1
  have E1 := Lib.hid he1
  have hr2 := fun w => read_any s 10 2 w (by omega) (by omega) (by omega)
  obtain ⟨r2, he2⟩ : ∃ r, rd s 10 2 = r := ⟨_, rfl⟩
  simp only [he2] at hr2
  have R2 := Lib.hid hr2
  have E2 := Lib.hid he2
  have hr3 := fun w => read_any s 12 4 w (by omega) (by omega) (by omega)
  obtain ⟨r3, he3⟩ : ∃ r, rd s 12 4 = r := ⟨_, rfl⟩
  simp only [he3] at hr3
  have R3 := Lib.hid hr3
  have E3 := Lib.hid he3
  have hr4 := fun w => read_any s 16 4 w (by omega) (by omega) (by omega)
  obtain ⟨r4, he4⟩ : ∃ r, rd s 16 4 = r := ⟨_, rfl⟩
  simp only [he4] at hr4
  have R4 := Lib.hid hr4
  have E4 := Lib.hid he4
  have hr5 := fun w => read_any s 20 4 w (by omega) (by omega) (by omega)
  obtain ⟨r5, he5⟩ : ∃ r, rd s 20 4 = r := ⟨_, rfl⟩
  simp only [he5] at hr5
  have R5 := Lib.hid hr5
  have E5 := Lib.hid he5
  rw [E5.out] at hw
  clear hr0 he0 hr1 he1 hr2 he2 hr3 he3 hr4 he4 hr5 he5
  have y4 := by_at s 4 (by omega)
  have y5 := by_at s 5 (by omega)
  have b4 := by_lt s 4
  have b5 := by_lt s 5
  obtain ⟨k, hk⟩ : ∃ k, by_ s 4 = k := ⟨_, rfl⟩
  obtain ⟨m, hm'⟩ : ∃ m, by_ s 5 = m := ⟨_, rfl⟩
  rw [hk] at y4 b4 H1
  rw [hm'] at y5 b5 H2
  have HK := Lib.hid hk
  have HM := Lib.hid hm'
  clear hk hm'
  have HH := Lib.hid H1
  clear H1
  have hd1 : ((SM.extract 0 4).toList == (s.extract 0 4).toList) = true := by rw [beq_iff_eq]; exact HQ.out.1 hd
  have HD := Lib.hid hd
  clear hd
  go_enter Try.func29, Try.ntmps29
  go_wp2_with fail
  refine (HY.out _ _).mono ?_
  rintro e w1 ⟨rfl, rfl⟩
  go_wp2_with fail
  go_quiet (fail)
  rw [HM.out] at hf
  rw [HK.out] at Hk1 Hk2
  have hk3 : ¬ ((k : Int) = 2) := by have := HH.out; omega
  have hm4 : m ≤ 4 := H2
  go_wp2_with fail
  refine (HY.out _ _).mono ?_
  rintro e w1 ⟨rfl, rfl⟩
  go_wp2_with fail
  go_region_with (first | (go_at_call 22; refine (HS.out _).mono ?_; rintro e w2 ⟨rfl, hb2⟩) | (go_at_call 41; refine (HY.out _ _).mono ?_; rintro e w3 ⟨rfl, rfl⟩))
  all_goals
    go_wp2_with fail
    refine (within_y _ _ _ _ (by omega) (by omega)).mono ?_
    rintro e w3 ⟨rfl, rfl⟩
    go_wp2_with fail
    refine (HY.out _ _).mono ?_
    rintro e w3 ⟨rfl, rfl⟩
    go_wp2_with fail
    rw [show decide ((m : Int) ≤ 4) = true from decide_eq_true (by omega)]
    refine (HY.out _ _).mono ?_
    rintro e w3 ⟨rfl, rfl⟩
    go_wp2_with fail
    refine (R0.out _).mono ?_
    rintro e w3 ⟨rfl, rfl⟩
    go_wp2_with fail
    refine (R1.out _).mono ?_
    rintro e w3 ⟨rfl, rfl⟩
    go_wp2_with fail
    refine (R2.out _).mono ?_
    rintro e w3 ⟨rfl, rfl⟩
    go_wp2_with fail
    refine (R3.out _).mono ?_
    rintro e w3 ⟨rfl, rfl⟩
    go_wp2_with fail
    refine (R4.out _).mono ?_
    rintro e w3 ⟨rfl, rfl⟩
    go_wp2_with fail
    refine (R5.out _).mono ?_
    rintro e w3 ⟨rfl, rfl⟩
    go_wp2_with fail
    refine (HY.out _ _).mono ?_
    rintro e w3 ⟨rfl, rfl⟩
    go_wp2_with fail
    have hbe := ext_ne s m (by omega)
    go_region
    all_goals
      go_wp2_with fail
      rw [show ((s.extract (24 + m) s.size).toList.isEmpty || (k : Int) == 2) = false from by rw [Bool.or_eq_false_iff]; exact ⟨by rw [List.isEmpty_eq_false_iff]; exact hbe, by rw [beq_eq_false_iff_ne]; exact hk3⟩]
      refine (HN.out _ _).mono ?_
      rintro e w3 ⟨rfl, rfl⟩
      simp only [bodyPost]
      exact ⟨trivial, DecR.stop (stop_at (by omega) (by omega) HD.out HG.out) (blw_drewN ((dec_below hb2).alloc (Nat.le_trans (by show w.heap.size ≤ (w.alloc _).heap.size; simp) hb2.size) _) 1)⟩
end Go.Proofs.Ytdkfniijoamaoac.Ga
