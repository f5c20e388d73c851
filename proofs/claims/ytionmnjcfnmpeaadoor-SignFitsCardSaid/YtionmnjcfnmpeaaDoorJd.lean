/-
  SignFits: the walk.
-/
import Derived.Test.YtionmnjcfnmpeaaDoorJc
namespace Go.Proofs.YtionmnjcfnmpeaaDoor.Sq
open Go Go.RowKit Go.Proofs.YtionmnjcfnmpeaaDoor.Hz Go.Proofs.YtionmnjcfnmpeaaDoor.Sg

theorem siV_size (x : Int) (t : ByteArray) : (siV x t).size ≤ 100 := by
  unfold siV
  split
  · show (rr _ t ++ e8 _).size ≤ 100
    rw [ByteArray.size_append, e8_size, show (rr x.toNat t).size = 8 from e8_size _]
    omega
  · decide

set_option maxRecDepth 1000000 in
set_option maxHeartbeats 4000000 in
theorem fits_out (x : Int) (t o key s : ByteArray) (w : World) (h : (2000 < t.size ∧ t.size ≤ 65536) ∨ (2000 < o.size ∧ o.size ≤ 65536) ∨ 100 < key.size ∨ 100 < s.size) :
    Calls Tryd.prog 3 #[.int .i64 x, .string t, .string o, .string key, .string s] w fun e w' => e = .returned (.bool true) ∧ Below w.heap.size w w' := by
  have HAW := Lib.hid awake_any
  by_cases t1 : 2000 < t.size
  · have d1 : decide ((2000 : Int) < (t.size : Int)) = true := by simp; omega
    by_cases t2 : t.size ≤ 65536
    · have d2 : decide ((t.size : Int) ≤ 65536) = true := by simp; omega
      clear t1 t2 h
      go_enter Tryd.func3, Tryd.ntmps3
      go_wp2_with fail
      refine (HAW.out _).mono ?_
      rintro e w1 ⟨rfl, b⟩
      go_wp2
      go_ret
      exact ⟨rfl, b⟩
    · have d2 : decide ((t.size : Int) ≤ 65536) = false := by simp; omega
      by_cases o1 : 2000 < o.size
      · have d3 : decide ((2000 : Int) < (o.size : Int)) = true := by simp; omega
        by_cases o2 : o.size ≤ 65536
        · have d4 : decide ((o.size : Int) ≤ 65536) = true := by simp; omega
          clear h
          go_enter Tryd.func3, Tryd.ntmps3
          go_wp2_with fail
          refine (HAW.out _).mono ?_
          rintro e w1 ⟨rfl, b⟩
          go_wp2
          go_ret
          exact ⟨rfl, b⟩
        · have d4 : decide ((o.size : Int) ≤ 65536) = false := by simp; omega
          by_cases k1 : 100 < key.size
          · have d5 : decide ((100 : Int) < (key.size : Int)) = true := by simp; omega
            clear h
            go_enter Tryd.func3, Tryd.ntmps3
            go_wp2_with fail
            refine (HAW.out _).mono ?_
            rintro e w1 ⟨rfl, b⟩
            go_wp2
            go_ret
            exact ⟨rfl, b⟩
          · have d5 : decide ((100 : Int) < (key.size : Int)) = false := by simp; omega
            have k2 : 100 < s.size := by omega
            have d6 : decide ((100 : Int) < (s.size : Int)) = true := by simp; omega
            clear h
            go_enter Tryd.func3, Tryd.ntmps3
            go_wp2_with fail
            refine (HAW.out _).mono ?_
            rintro e w1 ⟨rfl, b⟩
            go_wp2
            go_ret
            exact ⟨rfl, b⟩
      · have d3 : decide ((2000 : Int) < (o.size : Int)) = false := by simp; omega
        by_cases k1 : 100 < key.size
        · have d5 : decide ((100 : Int) < (key.size : Int)) = true := by simp; omega
          clear h
          go_enter Tryd.func3, Tryd.ntmps3
          go_wp2_with fail
          refine (HAW.out _).mono ?_
          rintro e w1 ⟨rfl, b⟩
          go_wp2
          go_ret
          exact ⟨rfl, b⟩
        · have d5 : decide ((100 : Int) < (key.size : Int)) = false := by simp; omega
          have k2 : 100 < s.size := by omega
          have d6 : decide ((100 : Int) < (s.size : Int)) = true := by simp; omega
          clear h
          go_enter Tryd.func3, Tryd.ntmps3
          go_wp2_with fail
          refine (HAW.out _).mono ?_
          rintro e w1 ⟨rfl, b⟩
          go_wp2
          go_ret
          exact ⟨rfl, b⟩
  · have d1 : decide ((2000 : Int) < (t.size : Int)) = false := by simp; omega
    by_cases o1 : 2000 < o.size
    · have d3 : decide ((2000 : Int) < (o.size : Int)) = true := by simp; omega
      by_cases o2 : o.size ≤ 65536
      · have d4 : decide ((o.size : Int) ≤ 65536) = true := by simp; omega
        clear h
        go_enter Tryd.func3, Tryd.ntmps3
        go_wp2_with fail
        refine (HAW.out _).mono ?_
        rintro e w1 ⟨rfl, b⟩
        go_wp2
        go_ret
        exact ⟨rfl, b⟩
      · have d4 : decide ((o.size : Int) ≤ 65536) = false := by simp; omega
        by_cases k1 : 100 < key.size
        · have d5 : decide ((100 : Int) < (key.size : Int)) = true := by simp; omega
          clear h
          go_enter Tryd.func3, Tryd.ntmps3
          go_wp2_with fail
          refine (HAW.out _).mono ?_
          rintro e w1 ⟨rfl, b⟩
          go_wp2
          go_ret
          exact ⟨rfl, b⟩
        · have d5 : decide ((100 : Int) < (key.size : Int)) = false := by simp; omega
          have k2 : 100 < s.size := by omega
          have d6 : decide ((100 : Int) < (s.size : Int)) = true := by simp; omega
          clear h
          go_enter Tryd.func3, Tryd.ntmps3
          go_wp2_with fail
          refine (HAW.out _).mono ?_
          rintro e w1 ⟨rfl, b⟩
          go_wp2
          go_ret
          exact ⟨rfl, b⟩
    · have d3 : decide ((2000 : Int) < (o.size : Int)) = false := by simp; omega
      by_cases k1 : 100 < key.size
      · have d5 : decide ((100 : Int) < (key.size : Int)) = true := by simp; omega
        clear h
        go_enter Tryd.func3, Tryd.ntmps3
        go_wp2_with fail
        refine (HAW.out _).mono ?_
        rintro e w1 ⟨rfl, b⟩
        go_wp2
        go_ret
        exact ⟨rfl, b⟩
      · have d5 : decide ((100 : Int) < (key.size : Int)) = false := by simp; omega
        have k2 : 100 < s.size := by omega
        have d6 : decide ((100 : Int) < (s.size : Int)) = true := by simp; omega
        clear h
        go_enter Tryd.func3, Tryd.ntmps3
        go_wp2_with fail
        refine (HAW.out _).mono ?_
        rintro e w1 ⟨rfl, b⟩
        go_wp2
        go_ret
        exact ⟨rfl, b⟩

set_option maxRecDepth 1000000 in
set_option maxHeartbeats 8000000 in
theorem fits_in (x : Int) (t o key s : ByteArray) (w : World) (hT : Hh.Tab w) (h1 : decide ((2000 : Int) < (t.size : Int)) = false ∨ (decide ((2000 : Int) < (t.size : Int)) = true ∧ decide ((t.size : Int) ≤ 65536) = false)) (h2 : decide ((2000 : Int) < (o.size : Int)) = false ∨ (decide ((2000 : Int) < (o.size : Int)) = true ∧ decide ((o.size : Int) ≤ 65536) = false)) (h3 : ¬ 100 < key.size) (h4 : ¬ 100 < s.size) (hz : t.size ≤ 140737488351232) :
    Calls Tryd.prog 3 #[.int .i64 x, .string t, .string o, .string key, .string s] w fun e w' => e = .returned (.bool true) ∧ Below w.heap.size w w' := by
  have HAW := Lib.hid awake_any
  have HS := Lib.hid (fun w h => Sign_any x t w h)
  have HRS := Lib.hid (fun w => RSign_any x t w hz)
  have HF := Lib.hid (fun w => Fits_any key o s w (by omega) (by omega))
  have HRF := Lib.hid (fun w => RFits_any key o s w (by omega) (by omega))
  have d5 : decide ((100 : Int) < (key.size : Int)) = false := by simp; omega
  have d6 : decide ((100 : Int) < (s.size : Int)) = false := by simp; omega
  have HTT := Lib.hid hT
  by_cases he : siE x t = 0
  · have hs : sec x = true ∧ t.size ≤ 65536 := by
      unfold siE at he
      by_cases q : 65536 < t.size
      · rw [if_pos q] at he; exact absurd he (by decide)
      · rw [if_neg q] at he
        by_cases q2 : sec x = true
        · exact ⟨q2, by omega⟩
        · rw [if_neg q2] at he; exact absurd he (by decide)
    have hsv : siV x t = sg x.toNat t := by unfold siV; rw [if_pos he]
    rw [he] at HS HRS
    have HK := Lib.hid (fun w => Key_any x w)
    have hkt : kyT x = ky x.toNat := by unfold kyT; rw [hs.1, if_pos rfl]; rfl
    have hke : kyE x = 0 := by unfold kyE; rw [hs.1, if_pos rfl]
    rw [hkt, hke] at HK
    have zk : (ky x.toNat).size = 8 := e8_size _
    have zs := siV_size x t
    have HF1 := Lib.hid (fun w => Fits_any (ky x.toNat) t (siV x t) w (by omega) (by omega))
    have HF2 := Lib.hid (fun w => Fits_any (ky x.toNat) o (siV x t) w (by omega) (by omega))
    have HRF2 := Lib.hid (fun w => RFits_any (ky x.toNat) o (siV x t) w (by omega) (by omega))
    rw [show fitV (ky x.toNat) t (siV x t) = true by rw [hsv]; exact fit_own _ _ hs.2] at HF1
    obtain ⟨k, hk⟩ : ∃ k, ky x.toNat = k := ⟨_, rfl⟩
    obtain ⟨a, ha⟩ : ∃ a, siV x t = a := ⟨_, rfl⟩
    simp only [hk, ha] at HS HRS HK HF1 HF2 HRF2
    obtain ⟨b1, hb1⟩ : ∃ b1, fitV key o s = b1 := ⟨_, rfl⟩
    obtain ⟨b2, hb2⟩ : ∃ b2, fitV k o a = b2 := ⟨_, rfl⟩
    simp only [hb1, hb2] at HF HRF HF2 HRF2
    clear he hs hsv hkt hke zk zs hk ha hb1 hb2 hT h3 h4 hz
    rcases h1 with d1 | ⟨d1, d2⟩ <;> rcases h2 with d3 | ⟨d3, d4⟩
    all_goals
      go_enter Tryd.func3, Tryd.ntmps3
      go_wp2_with fail
      refine (HS.out _ HTT.out).mono ?_
      rintro e w1 ⟨rfl, b⟩
      have B1 := Lib.hid b
      clear b
      go_wp2_with fail
      refine (HRS.out _).mono ?_
      rintro e w2 ⟨rfl, b⟩
      have B2 := Lib.hid (blw B1.out b)
      clear b B1
      go_wp2_with fail
      refine (HF.out _).mono ?_
      rintro e w3 ⟨rfl, b⟩
      have B3 := Lib.hid (blw B2.out b)
      clear b B2
      go_wp2_with fail
      refine (HRF.out _).mono ?_
      rintro e w4 ⟨rfl, b⟩
      have B4 := Lib.hid (blw B3.out b)
      clear b B3
      go_wp2_with fail
      refine (HK.out _).mono ?_
      rintro e w5 ⟨rfl, b⟩
      have B5 := Lib.hid (blw B4.out b)
      clear b B4
      go_wp2_with fail
      refine (HF1.out _).mono ?_
      rintro e w6 ⟨rfl, b⟩
      have B6 := Lib.hid (blw B5.out b)
      clear b B5
      go_wp2_with fail
      refine (HF2.out _).mono ?_
      rintro e w7 ⟨rfl, b⟩
      have B7 := Lib.hid (blw B6.out b)
      clear b B6
      go_wp2_with fail
      refine (HRF2.out _).mono ?_
      rintro e w8 ⟨rfl, b⟩
      have B8 := Lib.hid (blw B7.out b)
      clear b B7
      go_wp2_with fail
      refine (HAW.out _).mono ?_
      rintro e w9 ⟨rfl, b⟩
      have B9 := Lib.hid (blw B8.out b)
      clear b B8
      go_wp2
      go_ret
      exact ⟨rfl, B9.out⟩
  · obtain ⟨a, ha⟩ : ∃ a, siV x t = a := ⟨_, rfl⟩
    obtain ⟨E, hE⟩ : ∃ E, siE x t = E := ⟨_, rfl⟩
    simp only [ha, hE] at HS HRS he
    have e0 : (E == 0) = false := by simpa using he
    obtain ⟨b1, hb1⟩ : ∃ b1, fitV key o s = b1 := ⟨_, rfl⟩
    simp only [hb1] at HF HRF
    clear he ha hE hb1 hT h3 h4 hz
    rcases h1 with d1 | ⟨d1, d2⟩ <;> rcases h2 with d3 | ⟨d3, d4⟩
    all_goals
      go_enter Tryd.func3, Tryd.ntmps3
      go_wp2_with fail
      refine (HS.out _ HTT.out).mono ?_
      rintro e w1 ⟨rfl, b⟩
      have B1 := Lib.hid b
      clear b
      go_wp2_with fail
      refine (HRS.out _).mono ?_
      rintro e w2 ⟨rfl, b⟩
      have B2 := Lib.hid (blw B1.out b)
      clear b B1
      go_wp2_with fail
      refine (HF.out _).mono ?_
      rintro e w3 ⟨rfl, b⟩
      have B3 := Lib.hid (blw B2.out b)
      clear b B2
      go_wp2_with fail
      refine (HRF.out _).mono ?_
      rintro e w4 ⟨rfl, b⟩
      have B4 := Lib.hid (blw B3.out b)
      clear b B3
      go_wp2_with fail
      refine (HAW.out _).mono ?_
      rintro e w9 ⟨rfl, b⟩
      have B9 := Lib.hid (blw B4.out b)
      clear b B4
      go_wp2
      go_ret
      exact ⟨rfl, B9.out⟩
theorem fits_any (x : Int) (t o key s : ByteArray) (w : World) (hT : Hh.Tab w) (hz : t.size ≤ 140737488351232) :
    Calls Tryd.prog 3 #[.int .i64 x, .string t, .string o, .string key, .string s] w fun e w' => e = .returned (.bool true) ∧ Below w.heap.size w w' := by
  by_cases h : (2000 < t.size ∧ t.size ≤ 65536) ∨ (2000 < o.size ∧ o.size ≤ 65536) ∨ 100 < key.size ∨ 100 < s.size
  · exact fits_out x t o key s w h
  · refine fits_in x t o key s w hT ?_ ?_ (fun q => h (.inr (.inr (.inl q)))) (fun q => h (.inr (.inr (.inr q)))) hz
    · by_cases q : 2000 < t.size
      · exact .inr ⟨decide_eq_true (by omega), decide_eq_false (fun q2 => h (.inl ⟨q, by omega⟩))⟩
      · exact .inl (decide_eq_false (by omega))
    · by_cases q : 2000 < o.size
      · exact .inr ⟨decide_eq_true (by omega), decide_eq_false (fun q2 => h (.inr (.inl ⟨q, by omega⟩)))⟩
      · exact .inl (decide_eq_false (by omega))
end Go.Proofs.YtionmnjcfnmpeaaDoor.Sq
