/-
  FlowDecodes: the walk.
-/
import Derived.Test.YtdkfniijoamaoacGk
import Derived.Test.YtdkfniijoamaoacGe
import Derived.Test.YtdkfniijoamaoacFj
import Derived.Test.YtdkfniijoamaoacHr
namespace Go.Proofs.Ytdkfniijoamaoac.Ga
open Go Go.RowKit Go.Proofs.Ytdkfniijoamaoac.Hz Go.Proofs.Ytdkfniijoamaoac.Ob

set_option maxRecDepth 100000 in
set_option maxHeartbeats 800000 in
theorem decodes_long (s : ByteArray) (w : World) (h : (3000 : Int) < (s.size : Int)) :
    Calls Try.prog 4 #[.string s] w fun e w' => e = .returned (.bool true) ∧ Below w.heap.size w w' := by
  go_enter Try.func4, Try.ntmps4
  go_wp2_with fail
  refine (Fl.awake_any _).mono ?_
  rintro e w1 ⟨rfl, hb1⟩
  go_wp2
  go_ret
  exact ⟨rfl, hb1⟩

theorem enc_cells (s : ByteArray) (m : Nat) (hs : 24 + m ≤ s.size) (hm : by_ s 5 = m) (hd : dgOk s) (hok : (pk s m).ok) (w : World) :
    Calls Try.prog 7 #[.agg (pk s m).cells] w fun e w' => e = .returned (.tuple #[.string s, .int .i64 0]) ∧ Below w.heap.size w w' := by
  have h := Encode_yes (pk s m) w hok
  rwa [enc_pk s m hs hm hd] at h

set_option maxRecDepth 100000 in
set_option maxHeartbeats 16000000 in
theorem decodes_in (s : ByteArray) (w : World) (h : (s.size : Int) ≤ (3000 : Int)) :
    Calls Try.prog 4 #[.string s] w fun e w' => e = .returned (.bool true) ∧ Below w.heap.size w w' := by
  have HD := Lib.hid (fun w => Decode_any s w (by omega))
  have HA := Lib.hid Fl.awake_any
  have hE := fun m hs hm hd hok w => enc_cells s m hs hm hd hok w
  have HE := Lib.hid hE
  clear hE
  go_enter Try.func4, Try.ntmps4
  go_wp2_with fail
  refine (HD.out _).mono ?_
  rintro e w1 ⟨h1 | h1, hb1⟩
  · obtain ⟨a, rfl, ha0, ha1, ha2⟩ := h1
    unfold zseg
    by_cases h29 : (29 : Int) ≤ (s.size : Int)
    · have h4 : (4 : Int) ≤ (s.size : Int) := by omega
      have hsx : (s.extract 4 s.size).size ≤ maxLen := by unfold maxLen; simp; omega
      have hq1 := fun w => Hh.RSum_any (s.extract 4 s.size) w hsx
      have hq2 : (Dg.sum (s.extract 4 s.size).data.toList).size = 32 := Dg.sum_size _
      have hq3 : dgOk s ↔ ((Dg.sum (s.extract 4 s.size).data.toList).extract 0 4).toList = (s.extract 0 4).toList := by
        unfold dgOk
        exact ⟨fun h => by rw [h], fun h => by rwa [ByteArray.toList_eq, ByteArray.toList_eq, Array.toList_inj, ← ByteArray.ext_iff] at h⟩
      obtain ⟨SM, hSM⟩ : ∃ z, Dg.sum (s.extract 4 s.size).data.toList = z := ⟨_, rfl⟩
      rw [hSM] at hq2 hq3
      simp only [hSM] at hq1
      have HS := Lib.hid hq1
      clear hsx hq1 hSM HD HE
      have hz0 : (0 : Int) ≤ a := ha0
      by_cases hd : dgOk s
      · have hd1 : ((s.extract 0 4).toList == (SM.extract 0 4).toList) = true := by rw [beq_iff_eq]; exact (hq3.1 hd).symm
        have hd2 : ((s.extract 0 4).toList != (SM.extract 0 4).toList) = false := by rw [bne_eq_false_iff_eq]; exact (hq3.1 hd).symm
        clear hd ha2 hq3
        go_wp2_with fail
        go_region_with (go_at_call 11; refine (HS.out _).mono ?_; rintro e w2 ⟨rfl, hb2⟩)
        all_goals
          go_wp2_with fail
          refine (HA.out _).mono ?_
          rintro e w3 ⟨rfl, hb3⟩
          go_wp2
          go_ret
          exact ⟨rfl, blw (blw hb1 (dec_below (n := 1) hb2)) hb3⟩
      · have hd1 : ((s.extract 0 4).toList == (SM.extract 0 4).toList) = false := by rw [beq_eq_false_iff_ne]; exact fun h => hd (hq3.2 h.symm)
        have hd2 : ((s.extract 0 4).toList != (SM.extract 0 4).toList) = true := by rw [bne_iff_ne]; exact fun h => hd (hq3.2 h.symm)
        obtain rfl : a = 0 := ha2 (by omega) hd
        clear hd ha2 hq3
        go_wp2_with fail
        go_region_with (go_at_call 11; refine (HS.out _).mono ?_; rintro e w2 ⟨rfl, hb2⟩)
        all_goals
          go_wp2_with fail
          refine (HA.out _).mono ?_
          rintro e w3 ⟨rfl, hb3⟩
          go_wp2
          go_ret
          exact ⟨rfl, blw (blw hb1 (dec_below (n := 1) hb2)) hb3⟩
    · have hz0 : (0 : Int) ≤ a := ha0
      clear ha2 HD HE
      have h29' : decide ((29 : Int) ≤ (s.size : Int)) = false := decide_eq_false h29
      go_wp2_with fail
      go_quiet (fail)
      go_wp2_with fail
      refine (HA.out _).mono ?_
      rintro e w3 ⟨rfl, hb3⟩
      go_wp2
      go_ret
      exact ⟨rfl, blw hb1 (dec_below hb3)⟩
  · obtain ⟨m, rfl, hok, hs, hm, hd⟩ := h1
    have H := Lib.hid (HE.out m hs hm hd hok)
    clear hok hs hm hd HE
    obtain ⟨P, hP⟩ : ∃ P, pk s m = P := ⟨_, rfl⟩
    rw [hP] at H ⊢
    clear hP
    obtain ⟨kind, conn, seq, ack, win, marks, body, time, late⟩ := P
    unfold Seg.cells at H ⊢
    go_wp2_with fail
    refine (H.out _).mono ?_
    rintro e w2 ⟨rfl, hb2⟩
    have hq : (s.toList == s.toList) = true := by simp
    go_wp2_with fail
    refine (HA.out _).mono ?_
    rintro e w3 ⟨rfl, hb3⟩
    go_wp2
    go_ret
    exact ⟨rfl, blw (blw hb1 (below_alloc _ hb2)) hb3⟩
end Go.Proofs.Ytdkfniijoamaoac.Ga
