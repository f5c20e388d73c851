/-
  node: NodeBits' walk.
-/
import Derived.Test.YtionmnjcfnmpeaaDoorNx
import Derived.Deep.DeepCutAuto
namespace Go.Proofs.YtionmnjcfnmpeaaDoor.Nq
open Go Go.RowKit Go.Shelf Go.Proofs.YtionmnjcfnmpeaaDoor.Hz Go.Proofs.YtionmnjcfnmpeaaDoor.Na Go.Proofs.YtionmnjcfnmpeaaDoor.Nb Go.Proofs.YtionmnjcfnmpeaaDoor.Nf
open Go.Proofs.YtionmnjcfnmpeaaDoor.Nh (flp)

set_option maxRecDepth 1000000 in
set_option maxHeartbeats 4000000 in
theorem bits_yes (s o d : ByteArray) (i n k : Int) (w : World) (hv : vd s = true) (hk : k ≤ 9223372036854775807) (ht : Hh.Tab w) :
    Calls Tryd.prog 4 #[.string s, .string o, .string d, .int .i64 i, .int .i64 n, .int .i64 k] w fun e w' => e = .returned (.bool true) ∧ Below w.heap.size w w' := by
  have HT : Hid (∀ w', Below w.heap.size w w' → Hh.Tab w') := Lib.hid fun w' h => ht.below h
  have HAW := Lib.hid Nh.awake_any
  have H1 := Lib.hid (fun w => Bit_v s i w hv)
  have H2 := Lib.hid (fun w => Flip_v s i w hv)
  have H3 := Lib.hid (fun w => Prefix_v s n w hv)
  have H4 := Lib.hid (fun w => Within_v o s n w hv)
  have H5 := Lib.hid (fun w => Next_yes s w hv)
  have H6 := Lib.hid (fun w => Middle_v s o w hv)
  have H7 := Lib.hid (fun w ht => In_v s d n k w hv hk ht)
  have H8 := Lib.hid (fun w ht => Random_v d k w hk ht)
  have H9 := Lib.hid (fun w => Nj.RValid_any s w)
  have H10 := Lib.hid (fun w => Nj.RNext_any s w (vd_yes hv))
  rw [hv] at H9
  obtain ⟨v1, e1⟩ : ∃ v, biV s i = v := ⟨_, rfl⟩
  obtain ⟨v2, e2⟩ : ∃ v, flV s i = v := ⟨_, rfl⟩
  obtain ⟨v3, e3⟩ : ∃ v, prV s n = v := ⟨_, rfl⟩
  obtain ⟨v4, e4⟩ : ∃ v, wiV o s n = v := ⟨_, rfl⟩
  obtain ⟨v5, e5⟩ : ∃ v, nxt s = v := ⟨_, rfl⟩
  obtain ⟨v6, e6⟩ : ∃ v, miV s o = v := ⟨_, rfl⟩
  obtain ⟨v7, e7⟩ : ∃ v, inV s n d k = v := ⟨_, rfl⟩
  obtain ⟨v8, e8⟩ : ∃ v, raV d k = v := ⟨_, rfl⟩
  obtain ⟨ei, f1⟩ : ∃ v, iE i = v := ⟨_, rfl⟩
  obtain ⟨en, f2⟩ : ∃ v, nE n = v := ⟨_, rfl⟩
  obtain ⟨ew, f3⟩ : ∃ v, wiE o n = v := ⟨_, rfl⟩
  obtain ⟨em, f4⟩ : ∃ v, miE o = v := ⟨_, rfl⟩
  obtain ⟨eI, f5⟩ : ∃ v, inE n d k = v := ⟨_, rfl⟩
  obtain ⟨er, f6⟩ : ∃ v, raE d k = v := ⟨_, rfl⟩
  simp only [e1, f1] at H1
  simp only [e2, f1] at H2
  simp only [e3, f2] at H3
  simp only [e4, f3] at H4
  simp only [e5] at H5 H10
  simp only [e6, f4] at H6
  simp only [e7, f5] at H7
  simp only [e8, f6] at H8
  have HV := Lib.hid hv
  have E1 := Lib.hid e1
  have E2 := Lib.hid e2
  have E3 := Lib.hid e3
  have E4 := Lib.hid e4
  have E6 := Lib.hid e6
  have E7 := Lib.hid e7
  have E8 := Lib.hid e8
  have F1 := Lib.hid f1
  have F2 := Lib.hid f2
  have F3 := Lib.hid f3
  have F4 := Lib.hid f4
  have F5 := Lib.hid f5
  have F6 := Lib.hid f6
  clear hv e1 e2 e3 e4 e5 e6 e7 e8 f1 f2 f3 f4 f5 f6 ht
  go_enter Tryd.func4, Tryd.ntmps4
  go_wp2_with fail
  refine (H1.out _).mono ?_
  rintro e w1 ⟨rfl, b1⟩
  have B1 := Lib.hid b1
  clear b1
  go_wp2_with fail
  refine (H2.out _).mono ?_
  rintro e w2 ⟨rfl, b⟩
  have B2 := Lib.hid (blw B1.out b)
  clear b B1
  go_wp2_with fail
  refine (H3.out _).mono ?_
  rintro e w3 ⟨rfl, b⟩
  have B3 := Lib.hid (blw B2.out b)
  clear b B2
  go_wp2_with fail
  refine (H4.out _).mono ?_
  rintro e w4 ⟨rfl, b⟩
  have B4 := Lib.hid (blw B3.out b)
  clear b B3
  go_wp2_with fail
  refine (H5.out _).mono ?_
  rintro e w5 ⟨rfl, b⟩
  have B5 := Lib.hid (blw B4.out b)
  clear b B4
  go_wp2_with fail
  refine (H6.out _).mono ?_
  rintro e w6 ⟨rfl, b⟩
  have B6 := Lib.hid (blw B5.out b)
  clear b B5
  go_wp2_with fail
  refine (H7.out _ (HT.out _ B6.out)).mono ?_
  rintro e w7 ⟨rfl, b⟩
  have B7 := Lib.hid (blw B6.out b)
  clear b B6
  go_wp2_with fail
  refine (H8.out _ (HT.out _ B7.out)).mono ?_
  rintro e w8 ⟨rfl, b⟩
  have B8 := Lib.hid (blw B7.out b)
  clear b B7
  go_wp2_with fail
  refine (H9.out _).mono ?_
  rintro e w9 ⟨rfl, rfl⟩
  go_wp2_with fail
  refine (H10.out _).mono ?_
  rintro e w10 ⟨rfl, b⟩
  have B10 := Lib.hid (blw B8.out b)
  clear b B8 H1 H2 H3 H4 H5 H6 H7 H8 H9 H10
  go_upto_region 13 with (fail)
  go_cut [126] (fun c wx => c = .bool (!decide (iOk i)) ∧ Hid (Below w.heap.size w wx))
  case first =>
    as_aux_lemma =>
      by_cases h0 : i < 0
      · have DD : Hid (decide (iOk i) = false) := Lib.hid (decide_eq_false (by unfold iOk; omega))
        go_wp2_with fail
        go_meet
        exact ⟨by rw [DD.out]; rfl, B10⟩
      · by_cases h1 : 160 ≤ i
        · have DD : Hid (decide (iOk i) = false) := Lib.hid (decide_eq_false (by unfold iOk; omega))
          go_wp2_with fail
          go_meet
          exact ⟨by rw [DD.out]; rfl, B10⟩
        · have DD : Hid (decide (iOk i) = true) := Lib.hid (decide_eq_true (by unfold iOk; omega))
          go_wp2_with fail
          go_meet
          exact ⟨by rw [DD.out]; rfl, B10⟩
  case rest =>
    as_aux_lemma =>
      obtain ⟨rfl, BC⟩ := hcut
      clear B10
      go_upto_if 126 with (fail)
      go_cut [] (fun wx => Hid (Below w.heap.size w wx))
      case first =>
        as_aux_lemma =>
          by_cases h : iOk i
          · have q1 := E1.out
            have q2 := E2.out
            have q3 := F1.out
            unfold biV at q1
            unfold flV at q2
            unfold iE at q3
            rw [if_pos h] at q1 q2 q3
            obtain ⟨I, rfl⟩ : ∃ I : Nat, i = I := ⟨i.toNat, by have := h.1; omega⟩
            have hI : I < 160 := by have := h.2; omega
            rw [Int.toNat_natCast] at q1 q2
            have HB := Lib.hid (fun w => Nj.Bit_any s I w hI (vd_yes HV.out))
            have HF := Lib.hid (fun w => Nj.RFlip_any s I w (vd_yes HV.out) hI)
            rw [q1] at HB
            rw [q2] at HF
            subst q3
            rw [decide_eq_true h]
            clear q1 q2 h hI
            go_wp2_with fail
            refine (HB.out _).mono ?_
            rintro e wa ⟨rfl, rfl⟩
            go_wp2_with fail
            refine (HF.out _).mono ?_
            rintro e wb ⟨rfl, b⟩
            have BD := Lib.hid (blw BC.out b)
            clear b
            go_wp2_with fail
            go_meet
            exact BD
          · have q3 := F1.out
            unfold iE at q3
            rw [if_neg h] at q3
            subst q3
            rw [decide_eq_false h]
            clear h
            go_wp2_with fail
            go_meet
            exact BC
      case rest =>
        as_aux_lemma =>
          have BD := hcut
          clear BC hcut
          obtain ⟨bd, hbd⟩ : ∃ bd, (!decide (nOk n)) = bd := ⟨_, rfl⟩
          have HBD := Lib.hid hbd
          clear hbd
          go_upto_region 18 with (fail)
          go_cut [29] (fun c wx => c = .bool bd ∧ Hid (Below w.heap.size w wx))
          case first =>
            as_aux_lemma =>
              by_cases h0 : n < 0
              · have DD : Hid (decide (nOk n) = false) := Lib.hid (decide_eq_false (by unfold nOk; omega))
                go_wp2_with fail
                go_meet
                exact ⟨by rw [← HBD.out, DD.out]; rfl, BD⟩
              · by_cases h1 : 160 < n
                · have DD : Hid (decide (nOk n) = false) := Lib.hid (decide_eq_false (by unfold nOk; omega))
                  go_wp2_with fail
                  go_meet
                  exact ⟨by rw [← HBD.out, DD.out]; rfl, BD⟩
                · have DD : Hid (decide (nOk n) = true) := Lib.hid (decide_eq_true (by unfold nOk; omega))
                  go_wp2_with fail
                  go_meet
                  exact ⟨by rw [← HBD.out, DD.out]; rfl, BD⟩
          case rest =>
            as_aux_lemma =>
              obtain ⟨rfl, BE⟩ := hcut
              clear BD
              go_upto_region 19 with (fail)
              go_cut [178] (fun c wx => c = .bool false ∧ Hid (Below w.heap.size w wx))
              case first =>
                as_aux_lemma =>
                  by_cases h : nOk n
                  · have q3 := E3.out
                    have q2 := F2.out
                    unfold prV at q3
                    unfold nE at q2
                    rw [if_pos h] at q2 q3
                    obtain ⟨N, rfl⟩ : ∃ N : Nat, n = N := ⟨n.toNat, by have := h.1; omega⟩
                    have hN : N ≤ 160 := by have := h.2; omega
                    rw [Int.toNat_natCast] at q3
                    have HP := Lib.hid (fun w => Nj.RPrefix_any s N w (vd_yes HV.out) hN)
                    rw [q3] at HP
                    subst q2
                    obtain rfl : bd = false := by rw [← HBD.out, decide_eq_true h]; rfl
                    clear q3 h hN
                    go_wp2_with fail
                    refine (HP.out _).mono ?_
                    rintro e wa ⟨rfl, b⟩
                    have BF := Lib.hid (blw BE.out b)
                    clear b
                    go_wp2_with fail
                    go_meet
                    exact ⟨rfl, BF⟩
                  · have q2 := F2.out
                    unfold nE at q2
                    rw [if_neg h] at q2
                    subst q2
                    obtain rfl : bd = true := by rw [← HBD.out, decide_eq_false h]; rfl
                    clear h
                    go_wp2_with fail
                    go_meet
                    exact ⟨rfl, BE⟩
              case rest =>
                as_aux_lemma =>
                  obtain ⟨rfl, BF⟩ := hcut
                  clear BE
                  have HVO := Lib.hid (fun w => Nj.RValid_any o w)
                  obtain ⟨vo, hvo⟩ : ∃ vo, vd o = vo := ⟨_, rfl⟩
                  rw [hvo] at HVO
                  have VO := Lib.hid hvo
                  clear hvo
                  go_wp2_with fail
                  refine (HVO.out _).mono ?_
                  rintro e wa ⟨rfl, rfl⟩
                  go_upto_if 180 with (fail)
                  go_cut [] (fun wx => Hid (Below w.heap.size w wx))
                  case first =>
                    as_aux_lemma =>
                      cases vo
                      · have q3 := F3.out
                        have q4 := F4.out
                        unfold wiE at q3
                        unfold miE at q4
                        rw [if_neg (by rw [VO.out]; decide)] at q3 q4
                        subst q3
                        subst q4
                        go_wp2_with fail
                        go_meet
                        exact BF
                      · have q3 := F3.out
                        have q4 := F4.out
                        have q6 := E6.out
                        unfold wiE at q3
                        unfold miE at q4
                        unfold miV at q6
                        rw [if_pos VO.out] at q3 q4 q6
                        have HM := Lib.hid (fun w => Nj.RMiddle_any s o w (vd_yes HV.out) (vd_yes VO.out))
                        rw [q6] at HM
                        subst q4
                        clear q6
                        by_cases h : nOk n
                        · have q5 := E4.out
                          unfold nE at q3
                          unfold wiV at q5
                          rw [if_pos h] at q3
                          rw [if_pos ⟨VO.out, h⟩] at q5
                          obtain ⟨N, rfl⟩ : ∃ N : Nat, n = N := ⟨n.toNat, by have := h.1; omega⟩
                          rw [Int.toNat_natCast] at q5
                          have HW := Lib.hid (fun w => Nj.RWithin_any o s N w (vd_yes VO.out) (vd_yes HV.out))
                          rw [q5] at HW
                          subst q3
                          obtain rfl : bd = false := by rw [← HBD.out, decide_eq_true h]; rfl
                          clear q5 h
                          go_wp2_with fail
                          refine (HM.out _).mono ?_
                          rintro e wb ⟨rfl, b⟩
                          have BG := Lib.hid (blw BF.out b)
                          clear b
                          go_wp2_with fail
                          refine (HW.out _).mono ?_
                          rintro e wc2 ⟨rfl, rfl⟩
                          go_wp2_with fail
                          go_meet
                          exact BG
                        · unfold nE at q3
                          rw [if_neg h] at q3
                          subst q3
                          obtain rfl : bd = true := by rw [← HBD.out, decide_eq_false h]; rfl
                          clear h
                          go_wp2_with fail
                          refine (HM.out _).mono ?_
                          rintro e wb ⟨rfl, b⟩
                          have BG := Lib.hid (blw BF.out b)
                          clear b
                          go_wp2_with fail
                          go_meet
                          exact BG
                  case rest =>
                    as_aux_lemma =>
                      have BG := hcut
                      clear BF hcut
                      have q5 := F5.out
                      have q6 := F6.out
                      unfold inE at q5
                      unfold raE at q6
                      by_cases hs : 100 < d.size
                      · rw [if_pos hs] at q5 q6
                        subst q5
                        subst q6
                        have hs' : (100 : Int) < (d.size : Int) := by omega
                        clear hs
                        go_wp2_with fail
                        refine (HAW.out _).mono ?_
                        rintro e wb ⟨rfl, b⟩
                        have BH := Lib.hid (blw BG.out b)
                        clear b
                        go_wp2
                        go_ret
                        exact ⟨rfl, BH.out⟩
                      · rw [if_neg hs] at q5 q6
                        have hs' : (d.size : Int) ≤ 100 := by omega
                        by_cases hk0 : k < 0
                        · have e5 : eI = 7 := by rw [← q5]; split <;> first | rfl | (rw [if_pos hk0])
                          rw [if_pos hk0] at q6
                          subst e5
                          subst q6
                          clear hs q5
                          go_wp2_with fail
                          refine (HAW.out _).mono ?_
                          rintro e wb ⟨rfl, b⟩
                          have BH := Lib.hid (blw BG.out b)
                          clear b
                          go_wp2
                          go_ret
                          exact ⟨rfl, BH.out⟩
                        · rw [if_neg hk0] at q5 q6
                          have q8 := E8.out
                          unfold raV at q8
                          rw [if_pos (by rw [F6.out]; exact q6.symm)] at q8
                          have HR := Lib.hid (fun w' (h : Below w.heap.size w w') => Nj.RRandom_any d k.toNat w' (by omega) (by omega) (HT.out w' h))
                          rw [q8] at HR
                          obtain ⟨K, rfl⟩ : ∃ K : Nat, k = K := ⟨k.toNat, by omega⟩
                          rw [Int.toNat_natCast] at HR q8
                          by_cases h : nOk n
                          · rw [if_pos h] at q5
                            have q7 := E7.out
                            unfold inV at q7
                            rw [if_pos (by rw [F5.out]; exact q5.symm)] at q7
                            obtain ⟨N, rfl⟩ : ∃ N : Nat, n = N := ⟨n.toNat, by have := h.1; omega⟩
                            have hN : N ≤ 160 := by have := h.2; omega
                            rw [Int.toNat_natCast, Int.toNat_natCast] at q7
                            have hvi : vd v7 = true := by rw [← q7]; unfold vd; rw [hd_size]; rfl
                            have HW := Lib.hid (fun w => Within_yes v7 s N w (by rw [hvi, HV.out]; rfl) hN)
                            have hcm : decide (N ≤ cmn v7 s) = true := decide_eq_true (by rw [← q7]; exact hd_cmn s _ N (vd_yes HV.out) hN)
                            rw [hcm] at HW
                            have HI := Lib.hid (fun w' (h : Below w.heap.size w w') => Nj.RIn_any s d N K w' (vd_yes HV.out) hN (by omega) (by omega) (HT.out w' h))
                            rw [q7] at HI
                            subst q5
                            subst q6
                            obtain rfl : bd = false := by rw [← HBD.out, decide_eq_true h]; rfl
                            clear h q7 q8 hcm hvi hs hk0 hN
                            go_wp2_with fail
                            refine (HR.out _ BG.out).mono ?_
                            rintro e wb ⟨rfl, b⟩
                            have BH := Lib.hid (blw BG.out b)
                            clear b
                            go_wp2_with fail
                            refine (HW.out _).mono ?_
                            rintro e wc2 ⟨rfl, b⟩
                            have BI := Lib.hid (blw BH.out b)
                            clear b
                            go_wp2_with fail
                            refine (HI.out _ BI.out).mono ?_
                            rintro e wd ⟨rfl, b⟩
                            have BJ := Lib.hid (blw BI.out b)
                            clear b
                            go_wp2_with fail
                            refine (HAW.out _).mono ?_
                            rintro e we ⟨rfl, b⟩
                            have BK := Lib.hid (blw BJ.out b)
                            clear b
                            go_wp2
                            go_ret
                            exact ⟨rfl, BK.out⟩
                          · rw [if_neg h] at q5
                            subst q5
                            subst q6
                            obtain rfl : bd = true := by rw [← HBD.out, decide_eq_false h]; rfl
                            clear h q8 hs hk0
                            go_wp2_with fail
                            refine (HR.out _ BG.out).mono ?_
                            rintro e wb ⟨rfl, b⟩
                            have BH := Lib.hid (blw BG.out b)
                            clear b
                            go_wp2_with fail
                            refine (HAW.out _).mono ?_
                            rintro e we ⟨rfl, b⟩
                            have BK := Lib.hid (blw BH.out b)
                            clear b
                            go_wp2
                            go_ret
                            exact ⟨rfl, BK.out⟩
end Go.Proofs.YtionmnjcfnmpeaaDoor.Nq
