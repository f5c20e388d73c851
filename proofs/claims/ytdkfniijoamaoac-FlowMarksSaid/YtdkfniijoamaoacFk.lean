/-
  FlowMarks: the walk.
-/
import Derived.Test.YtdkfniijoamaoacFj
namespace Go.Proofs.Ytdkfniijoamaoac.Fl
open Go Go.RowKit Go.Proofs.Ytdkfniijoamaoac.Hz Go.Proofs.Ytdkfniijoamaoac.Rw Go.Proofs.Ytdkfniijoamaoac.Or

set_option maxRecDepth 1000000 in
set_option maxHeartbeats 16000000 in
theorem marks_in (ack : Int) (a : Option Addr) (len cap : Nat) (zs : List Int) (s : ByteArray) (x y : Int) (w : World) (hl : len ≤ 60) (hz : s.size ≤ 10) (hR : IntRow .i64 w a len cap zs) :
    Calls Try.prog 5 #[.int .i64 ack, .slice a len cap, .string s, .int .i64 x, .int .i64 y] w fun e w' => e = .returned (.bool true) ∧ Below w.heap.size w w' := by
  have HR := Lib.hid hR
  have hB := Before_any x y w
  obtain ⟨bv, hbv⟩ : ∃ bv, bfV x y = bv := ⟨_, rfl⟩
  obtain ⟨be, hbe⟩ : ∃ be, bfE x y = be := ⟨_, rfl⟩
  rw [hbv, hbe] at hB
  have HB := Lib.hid hB
  have HBV := Lib.hid hbv
  have HBE := Lib.hid hbe
  clear hR hB hbv hbe
  go_enter Try.func5, Try.ntmps5
  go_wp2_with fail
  refine HB.out.mono ?_
  rintro e w1 ⟨rfl, hb1⟩
  go_upto_region 4 with fail
  go_cut [50] (fun s50 wx => wx = w1 ∧ s50 = .bool (two x y))
  case first =>
    as_aux_lemma =>
      cases hx : num x
      · have LX := Lib.hid (Lnum x)
        rw [hx] at LX
        have ht : two x y = true := by unfold two; rw [hx]; rfl
        have HT := Lib.hid ht
        clear hx ht
        go_wp2_with fail
        refine (LX.out _).mono ?_
        rintro e w2 ⟨rfl, rfl⟩
        go_wp2_with fail
        go_meet
        exact ⟨rfl, by rw [HT.out]⟩
      · cases hy : num y
        · have LX := Lib.hid (Lnum x)
          have LY := Lib.hid (Lnum y)
          rw [hx] at LX
          rw [hy] at LY
          have ht : two x y = true := by unfold two; rw [hx, hy]; rfl
          have HT := Lib.hid ht
          clear hx hy ht
          go_wp2_with fail
          refine (LX.out _).mono ?_
          rintro e w2 ⟨rfl, rfl⟩
          go_wp2_with fail
          refine (LY.out _).mono ?_
          rintro e w2 ⟨rfl, rfl⟩
          go_wp2_with fail
          go_meet
          exact ⟨rfl, by rw [HT.out]⟩
        · have LX := Lib.hid (Lnum x)
          have LY := Lib.hid (Lnum y)
          rw [hx] at LX
          rw [hy] at LY
          have ht : two x y = false := by unfold two; rw [hx, hy]; rfl
          have HT := Lib.hid ht
          clear hx hy ht
          go_wp2_with fail
          refine (LX.out _).mono ?_
          rintro e w2 ⟨rfl, rfl⟩
          go_wp2_with fail
          refine (LY.out _).mono ?_
          rintro e w2 ⟨rfl, rfl⟩
          go_wp2_with fail
          go_meet
          exact ⟨rfl, by rw [HT.out]⟩
  case rest =>
    obtain ⟨rfl, rfl⟩ := hcut
    go_upto_if 50 with fail
    go_cut [] (fun wx => wx = wc)
    case first =>
      as_aux_lemma =>
        cases ht : two x y
        · obtain ⟨he, x0, x1, y0, y1, hv⟩ := two_no x y ht
          obtain ⟨d, hd⟩ : ∃ d : Int, (y - x + 65536) % 65536 = d := ⟨_, rfl⟩
          have hd0 : 0 ≤ d := by omega
          have hd1 : d ≤ 65535 := by omega
          rw [hd] at hv
          obtain rfl : be = 0 := HBE.out.symm.trans he
          by_cases h1 : 1 ≤ d
          · by_cases h2 : d ≤ 32767
            · obtain rfl : bv = true := by rw [← HBV.out, hv]; simp [h1, h2]
              clear hv ht he
              go_wp2_with fail
              go_meet
              exact rfl
            · obtain rfl : bv = false := by rw [← HBV.out, hv]; simp [h2]
              clear hv ht he
              go_wp2_with fail
              go_meet
              exact rfl
          · obtain rfl : bv = false := by rw [← HBV.out, hv]; simp [h1]
            clear hv ht he
            go_wp2_with fail
            go_meet
            exact rfl
        · obtain rfl : be = 7 := HBE.out.symm.trans (two_yes x y ht)
          clear ht
          go_wp2_with fail
          go_meet
          exact rfl
    case rest =>
      obtain rfl := hcut
      obtain ⟨wb, rfl⟩ : ∃ wb : World, wb = wc := ⟨_, rfl⟩
      cases hk : num ack
      · as_aux_lemma =>
          -- the Ack is none
          have LA := Lib.hid (Lnum ack)
          rw [hk] at LA
          have HM := Lib.hid (Marked_no ack a len cap zs wb hl (Or.row_below HR.out hb1) (fun h => by rw [hk] at h; cases h))
          clear hk
          go_wp2_with fail
          refine (LA.out _).mono ?_
          rintro e w2 ⟨rfl, rfl⟩
          go_wp2_with fail
          refine HM.out.mono ?_
          rintro e w2 ⟨rfl, hb2⟩
          go_wp2_with fail
          refine (awake_any _).mono ?_
          rintro e w3 ⟨rfl, hb3⟩
          go_wp2
          go_ret
          exact ⟨rfl, blw (blw hb1 hb2) hb3⟩
      · have LA := Lib.hid (Lnum ack)
        rw [hk] at LA
        have HK := Lib.hid hk
        have hmk := make34
        clear hk
        go_wp2_with fail
        refine (LA.out _).mono ?_
        rintro e w2 ⟨rfl, rfl⟩
        go_wp2_with fail
        obtain ⟨h1, h2, h3, h4⟩ := Or.row_below HR.out hb1
        have hka : 0 ≤ ack ∧ ack ≤ 65535 := by have := HK.out; unfold num at this; simp at this; exact this
        obtain ⟨ka0, ka1⟩ := hka
        go_loopw [17, 19, 20, 21, 22, 87] (fun m _ _ _ _ i wr => ∃ k : Nat, k ≤ len ∧ i = .int .i64 k ∧ (∀ z, z ∈ zs.take k → gd ack z = true) ∧ m = .int .i64 (mx (pl ack (zs.take k))) ∧ Bb wr wb.heap.size (pl ack (zs.take k)) ∧ Below wb.heap.size wb wr) (fun _ _ _ _ _ i _ => len - (intOf i).toNat)
        case atStart => exact ⟨0, Nat.zero_le _, rfl, by simp, rfl, Bb.new wb, (Below.refl _ _).alloc (Nat.le_refl _) _⟩
        case round =>
          obtain ⟨k, hk, rfl, hgk, rfl, hBb, hbl⟩ := hrel
          by_cases hlt : k < len
          · obtain ⟨b, off, rfl, hbb, hcell⟩ := h4 (by omega)
            have hc := hcell k hlt
            rw [← hbl.cell (p := ⟨b, off + k, none⟩) hbb] at hc
            have hks : k < zs.length := by omega
            have hgd : zs.getD k 0 = zs[k] := by simp [List.getD, hks]
            rw [hgd] at hc
            have hmem : zs[k] ∈ zs := List.getElem_mem hks
            have htk : zs.take (k + 1) = zs.take k ++ [zs[k]] := List.take_succ_eq_append_getElem hks
            generalize zs[k] = z at *
            have LZ := Lib.hid (Lnum z)
            have HTK := Lib.hid htk
            cases hgz : gd ack z
            · -- a number that may not be marked
              have HM := Lib.hid (Marked_no ack (some ⟨b, off, none⟩) len cap zs wr hl (Or.row_below (Or.row_below HR.out hb1) hbl) (fun _ h => by have := h z hmem; rw [hgz] at this; cases this))
              have HBL := Lib.hid hbl
              cases hnz : num z
              · as_aux_lemma =>
                  rw [hnz] at LZ
                  clear hgz hnz hgk hBb hbl hcell h4 hgd htk hmem h3
                  go_wp2_with fail
                  refine (LZ.out _).mono ?_
                  rintro e w2 ⟨rfl, rfl⟩
                  go_wp2_with fail
                  refine HM.out.mono ?_
                  rintro e w2 ⟨rfl, hb2⟩
                  go_wp2_with fail
                  refine (awake_any _).mono ?_
                  rintro e w3 ⟨rfl, hb3⟩
                  go_wp2
                  go_ret
                  exact ⟨rfl, blw (blw (hb1.trans (HBL.out.mono hb1.size)) hb2) hb3⟩
              · as_aux_lemma =>
                  rw [hnz] at LZ
                  obtain ⟨d, hd⟩ : ∃ d : Int, (z - ack + 65536) % 65536 = d := ⟨_, rfl⟩
                  have hdz : dz ack z = d := by rw [← hd]; unfold dz; omega
                  have hz2 : 0 ≤ z ∧ z ≤ 65535 := by unfold num at hnz; simp at hnz; exact hnz
                  obtain ⟨z0, z1⟩ := hz2
                  have hw2 : d < 2 ∨ 33 < d := by
                    unfold gd at hgz; rw [hnz, hdz] at hgz; unfold wi at hgz; simp at hgz; omega
                  rcases hw2 with hw2 | hw2
                  · as_aux_lemma =>
                      clear hgz hnz hgk hBb hbl hcell h4 hgd htk hmem h3 hdz
                      go_wp2_with fail
                      refine (LZ.out _).mono ?_
                      rintro e w2 ⟨rfl, rfl⟩
                      go_wp2_with fail
                      refine HM.out.mono ?_
                      rintro e w2 ⟨rfl, hb2⟩
                      go_wp2_with fail
                      refine (awake_any _).mono ?_
                      rintro e w3 ⟨rfl, hb3⟩
                      go_wp2
                      go_ret
                      exact ⟨rfl, blw (blw (hb1.trans (HBL.out.mono hb1.size)) hb2) hb3⟩
                  · as_aux_lemma =>
                      clear hgz hnz hgk hBb hbl hcell h4 hgd htk hmem h3 hdz
                      go_wp2_with fail
                      refine (LZ.out _).mono ?_
                      rintro e w2 ⟨rfl, rfl⟩
                      go_wp2_with fail
                      refine HM.out.mono ?_
                      rintro e w2 ⟨rfl, hb2⟩
                      go_wp2_with fail
                      refine (awake_any _).mono ?_
                      rintro e w3 ⟨rfl, hb3⟩
                      go_wp2
                      go_ret
                      exact ⟨rfl, blw (blw (hb1.trans (HBL.out.mono hb1.size)) hb2) hb3⟩
            · as_aux_lemma =>
                -- one that is marked
                have hnz : num z = true ∧ wi (dz ack z) = true := by unfold gd at hgz; simpa using hgz
                rw [hnz.1] at LZ
                have hz2 : 0 ≤ z ∧ z ≤ 65535 := by have := hnz.1; unfold num at this; simp at this; exact this
                obtain ⟨z0, z1⟩ := hz2
                obtain ⟨i, hi⟩ : ∃ i : Nat, dz ack z = (i : Int) + 2 := ⟨(dz ack z - 2).toNat, by have := hnz.2; unfold wi at this; simp at this; omega⟩
                have hi32 : i < 32 := by have := hnz.2; rw [hi] at this; unfold wi at this; simp at this; omega
                have hd : (z - ack + 65536) % 65536 = (i : Int) + 2 := by rw [← hi]; unfold dz; omega
                have hpl : pl ack (zs.take (k + 1)) = pl ack (zs.take k) ++ [i] := by
                  rw [htk]; unfold pl; rw [List.map_append]
                  simp [hi]
                have hgk2 : ∀ z', z' ∈ zs.take (k + 1) → gd ack z' = true := by
                  intro z' hz'
                  rw [htk] at hz'
                  rcases List.mem_append.1 hz' with q | q
                  · exact hgk z' q
                  · rw [List.mem_singleton.1 q]; exact hgz
                have hcc := hBb.cell (i + 2) (by omega)
                have hff := hBb.free (i + 2)
                have hBs := hBb.set i hi32
                have hmx := mx_snoc (pl ack (zs.take k)) i
                rw [← hpl] at hBs hmx
                have hml : mx (pl ack (zs.take k)) ≤ 33 := mx_le _ (pl_lt ack _ hgk)
                have HGK := Lib.hid hgk2
                have HBS := Lib.hid hBs
                have HMX := Lib.hid hmx
                generalize mx (pl ack (zs.take k)) = m at *
                clear hgz hnz hgk hgk2 hBb hBs hcell h4 hgd htk hmem h3 hpl hmx hi
                go_wp2_with fail
                refine (LZ.out _).mono ?_
                rintro e w2 ⟨rfl, rfl⟩
                go_wp2_with fail
                refine ⟨⟨k + 1, by omega, by go_num, HGK.out, ?_, HBS.out, hbl.setCell (Nat.le_refl _) _⟩, by simp [intOf]; omega⟩
                rw [HMX.out]
                congr 1
                split <;> omega
          · as_aux_lemma =>
              obtain rfl : k = len := by omega
              have ht : zs.take k = zs := by rw [← h1, List.take_length]
              rw [ht] at hgk hBb
              rw [ht]
              have hRW := Or.row_below (Or.row_below HR.out hb1) hbl
              have hpl := pl_lt ack zs hgk
              have hM := Marked_yes ack a k cap zs wr HK.out hl hRW hgk
              have hsz := mt_size (pl ack zs) hpl
              have hnm := mt_names (pl ack zs) hpl
              have hn4 := mn_le (pl ack zs) hpl
              have hmm := mx_mn (pl ack zs)
              have hmx33 := mx_le (pl ack zs) hpl
              have hN := fun w => Named_yes ack (mt (pl ack zs)) w HK.out (by rw [hsz]; exact hn4)
              have hmt0 : pl ack zs = [] → mt (pl ack zs) = ⟨#[]⟩ := by intro h; rw [h]; rfl
              have hnv : nv ack (nmI (mt (pl ack zs)) (8 * (mt (pl ack zs)).size)) = wv ack (nm (fun i => decide (i ∈ pl ack zs)) 32) := by
                rw [wv_nv]; unfold nmI; rw [hnm]
              rw [hnv] at hN
              generalize pl ack zs = is at *
              obtain ⟨t, htt⟩ : ∃ t, mt is = t := ⟨_, rfl⟩
              rw [htt] at hM hN hsz hmt0
              generalize hMm : mx is = M at *
              generalize hmn : mn is = n at *
              have HM := Lib.hid hM
              have HN := Lib.hid hN
              have HBB := Lib.hid hBb
              have HBL := Lib.hid hbl
              clear hM hN hgk hBb h4 h3 hRW hpl hnm hnv htt hMm hmn ht hbl
              go_wp2_with fail
              refine HM.out.mono ?_
              rintro e w3 ⟨rfl, hb3⟩
              go_upto_region 26 with fail
              go_cut [153] (fun c wx => c = .bool false ∧ wx = w3)
              case first =>
                as_aux_lemma =>
                  rcases hmm with ⟨rfl, rfl, he⟩ | ⟨q1, q2⟩
                  · obtain rfl : t = ⟨#[]⟩ := hmt0 he
                    clear he hsz hmt0
                    go_wp2_with fail
                    go_meet
                    exact ⟨rfl, rfl⟩
                  · have hcmp : ((t.size : Int) != ((M : Int) - 2) / 8 + 1) = false := by rw [hsz, q2]; simp; omega
                    have hM2 : (2 : Int) ≤ M := by omega
                    have hM3 : (M : Int) ≤ 33 := by omega
                    have hM0 : ((M : Int) == 0) = false := by simp; omega
                    clear hsz hmt0 q2 q1
                    go_wp2_with fail
                    go_meet
                    exact ⟨rfl, rfl⟩
              case rest =>
                obtain ⟨rfl, rfl⟩ := hcut
                obtain ⟨i0, hi, hz0, hz1, hz2⟩ := info_parts int_info
                have hB3 := HBB.out.below hb3
                have hgw : wb.heap.size < wr.heap.size := by have := HBB.out; obtain ⟨cs, H, _⟩ := this; exact lt_of_block H
                have hgw3 : wb.heap.size < wc.heap.size := Nat.lt_of_lt_of_le hgw hb3.size
                have HP := Lib.hid (blw (hb1.trans (HBL.out.mono hb1.size)) hb3)
                obtain ⟨p, hp⟩ : ∃ p : Nat → Bool, (fun i => decide (i ∈ is)) = p := ⟨_, rfl⟩
                rw [hp] at HN
                have hpc : ∀ k : Nat, (decide (2 ≤ k + 2 ∧ k + 2 - 2 ∈ is)) = p k := by intro k; rw [← hp]; simp
                clear hmm hmx33 hn4 hsz hmt0 hb3 hp
                go_wp2_with fail
                obtain ⟨wq, rfl⟩ : ∃ wq : World, wq = wr := ⟨_, rfl⟩
                obtain ⟨kl, rfl⟩ : ∃ kl : Nat, kl = k := ⟨_, rfl⟩
                go_loopw [24, 25] (fun v dd wr => ∃ k : Nat, k ≤ 32 ∧ dd = .int .i64 ((k : Int) + 2) ∧ OR wr wc.heap.size v (wv ack (nm p k)) ∧ Below wc.heap.size wc wr) (fun _ dd _ => 34 - (intOf dd).toNat)
                case atStart => exact ⟨0, by omega, rfl, OR.nil_ _ _, Below.refl _ _⟩
                case round =>
                  obtain ⟨k, hk, rfl, hown, hbl⟩ := hrel
                  by_cases hlt : k < 32
                  · have hcc := (hB3.below hbl).cell (k + 2) (by omega)
                    rw [hpc k] at hcc
                    have hns := nm_succ p k
                    have hln := nm_len p k
                    have hlen : (wv ack (nm p k)).length = (nm p k).length := by unfold wv; rw [List.length_map]
                    have hwn : wv ack (nm p k ++ [k]) = wv ack (nm p k) ++ [(ack + ((k : Int) + 2)) % 65536] := by unfold wv; rw [List.map_append]; rfl
                    have HNS := Lib.hid hns
                    have HWN := Lib.hid hwn
                    have hll := cI_len (wv ack (nm p k))
                    have hlen2 : (wv ack (nm p k)).length ≤ 32 := by omega
                    cases hx : p k
                    · as_aux_lemma =>
                        rw [hx] at hcc HNS
                        clear hns hwn hx hpc hll hlen hB3
                        go_wp2_with fail
                        exact ⟨⟨k + 1, by omega, by go_num, by rw [HNS.out]; exact hown, hbl⟩, by simp [intOf]; omega⟩
                    · as_aux_lemma =>
                        rw [hx] at hcc HNS
                        obtain ⟨d, hd⟩ : ∃ d : Int, (ack + ((k : Int) + 2)) % 65536 = d := ⟨_, rfl⟩
                        rw [hd] at HWN
                        have hown1 := hown.alloc_ (.cells #[.int .i64 d] 3)
                        have hbl1 := hbl.alloc hbl.size (.cells #[.int .i64 d] 3)
                        clear hns hwn hx hpc hll hlen hB3
                        go_wp2_with (at_builtin; refine wpList_append_own _ rfl _ _ 36 rfl wc.heap.size 3 i0 (.int .i64 0) 1 8 Try.underlying36 hi hz0 hz1 hz2 rfl (by decide) _ _ _ rfl hown1 ⟨wr.heap.size, 0, none⟩ 1 1 [.int .i64 d] rfl rfl (cell_one_new _ _ _) (by simp [Value.oneCell']) (by unfold maxLen; omega) (by omega) hbl1.size ?_; intro v' w9 hown' hgrow _; have hbl2 := hown1.grow_ hbl1 hgrow hbl1.size; clear hgrow)
                        exact ⟨⟨k + 1, by omega, by go_num, by rw [HNS.out, if_pos rfl, HWN.out]; unfold OR; rw [cI_snoc, List.length_append]; exact hown', hbl2⟩, by simp [intOf]; omega⟩
                  · as_aux_lemma =>
                      obtain rfl : k = 32 := by omega
                      have hwf : ∀ z, z ∈ wv ack (nm p 32) → (Lit.int .i64 z).wf = true := by rw [wv_nv]; exact nv_wf _ _
                      obtain ⟨a5, cap5, rfl, hrow5⟩ := hown.row_ hwf
                      have HROW := Lib.hid hrow5
                      have HB5 := Lib.hid (blw HP.out hbl)
                      clear hown hrow5 hbl hpc hB3 hwf hgw hgw3
                      go_wp2_with fail
                      refine (HN.out _).mono ?_
                      rintro e w6 ⟨a6, cap6, rfl, hrow6, hb6⟩
                      have HS := Lib.hid (SameInts_eq a6 a5 (wv ack (nm p 32)).length cap6 cap5 (wv ack (nm p 32)) w6 hrow6 (Or.row_below HROW.out hb6))
                      generalize wv ack (nm p 32) = ws at *
                      clear hrow6
                      go_wp2_with fail
                      refine HS.out.mono ?_
                      rintro e w7 ⟨rfl, n7, rfl⟩
                      have HB7 := Lib.hid (show Below w.heap.size w (w6.drewN n7) from Or.blw_drewN (blw HB5.out hb6) n7)
                      clear hb6
                      by_cases hs4 : 4 < s.size
                      · as_aux_lemma =>
                          have HNB := Lib.hid (fun w => Named_big ack s w HK.out hs4 (by omega))
                          have hs4' : decide ((4 : Int) < (s.size : Int)) = true := by simp; omega
                          clear hs4
                          go_wp2_with fail
                          refine (HNB.out _).mono ?_
                          rintro e w8 ⟨rfl, hb8⟩
                          go_wp2_with fail
                          refine (awake_any _).mono ?_
                          rintro e w9 ⟨rfl, hb9⟩
                          go_wp2
                          go_ret
                          exact ⟨rfl, blw (blw HB7.out hb8) hb9⟩
                      · as_aux_lemma =>
                          have HNS := Lib.hid (fun w => Named_yes ack s w HK.out (by omega))
                          have hs4' : decide ((4 : Int) < (s.size : Int)) = false := by simp; omega
                          have hs44 : s.size ≤ 4 := by omega
                          clear hs4
                          go_wp2_with fail
                          refine (HNS.out _).mono ?_
                          rintro e w8 ⟨a8, cap8, rfl, hrow8, hb8⟩
                          have HR8 := Lib.hid hrow8
                          have HB8 := Lib.hid (blw HB7.out hb8)
                          clear hrow8 hb8
                          go_wp2_with fail
                          obtain ⟨wq2, rfl⟩ : ∃ wq2 : World, wq2 = wr := ⟨_, rfl⟩
                          go_loopw [24, 27, 200] (fun v _ i wr => ∃ k : Nat, k ≤ 8 * s.size ∧ i = .int .i64 k ∧ OR wr w8.heap.size v (xv ack (nm (bitOf s) k)) ∧ Below w8.heap.size w8 wr) (fun _ _ i _ => 8 * s.size - (intOf i).toNat)
                          case atStart => exact ⟨0, Nat.zero_le _, rfl, OR.nil_ _ _, Below.refl _ _⟩
                          case round =>
                            obtain ⟨k, hk, rfl, hown, hbl⟩ := hrel
                            by_cases hlt : k < 8 * s.size
                            · obtain ⟨q, hq⟩ : ∃ q, k / 8 = q := ⟨_, rfl⟩
                              obtain ⟨b3, ht⟩ : ∃ b3, k % 8 = b3 := ⟨_, rfl⟩
                              have hqi : (k : Int) / 8 = (q : Int) := by omega
                              have hti : (k : Int) % 8 = (b3 : Int) := by omega
                              have hk8 : q < s.size := by omega
                              have ht8 : b3 ≤ 7 := by omega
                              have hb := by_at s q hk8
                              have hbit := bit_shr s k
                              rw [hq, ht] at hbit
                              have hns := nm_succ (bitOf s) k
                              have hln := nm_len (bitOf s) k
                              have hlen : (xv ack (nm (bitOf s) k)).length = (nm (bitOf s) k).length := by unfold xv; rw [List.length_map]
                              have hwn : xv ack (nm (bitOf s) k ++ [k]) = xv ack (nm (bitOf s) k) ++ [(ack + 2 + (k : Int)) % 65536] := by unfold xv; rw [List.map_append]; rfl
                              have HNX := Lib.hid hns
                              have HWN := Lib.hid hwn
                              have hlen2 : (xv ack (nm (bitOf s) k)).length ≤ 32 := by omega
                              cases hx : bitOf s k
                              · as_aux_lemma =>
                                  rw [hx] at hbit HNX
                                  clear hns hwn hx hlen hq ht
                                  go_wp2_with fail
                                  exact ⟨⟨k + 1, by omega, by go_num, by rw [HNX.out]; exact hown, hbl⟩, by simp [intOf]; omega⟩
                              · as_aux_lemma =>
                                  rw [hx] at hbit HNX
                                  obtain ⟨d, hd⟩ : ∃ d : Int, (ack + 2 + (k : Int)) % 65536 = d := ⟨_, rfl⟩
                                  rw [hd] at HWN
                                  have hown1 := hown.alloc_ (.cells #[.int .i64 d] 3)
                                  have hbl1 := hbl.alloc hbl.size (.cells #[.int .i64 d] 3)
                                  clear hns hwn hx hlen hq ht
                                  go_wp2_with (at_builtin; refine wpList_append_own _ rfl _ _ 36 rfl w8.heap.size 3 i0 (.int .i64 0) 1 8 Try.underlying36 hi hz0 hz1 hz2 rfl (by decide) _ _ _ rfl hown1 ⟨wr.heap.size, 0, none⟩ 1 1 [.int .i64 d] rfl rfl (cell_one_new _ _ _) (by simp [Value.oneCell']) (by unfold maxLen; omega) (by omega) hbl1.size ?_; intro v' w9 hown' hgrow _; have hbl2 := hown1.grow_ hbl1 hgrow hbl1.size; clear hgrow)
                                  exact ⟨⟨k + 1, by omega, by go_num, by rw [HNX.out, if_pos rfl, HWN.out]; unfold OR; rw [cI_snoc, List.length_append]; exact hown', hbl2⟩, by simp [intOf]; omega⟩
                            · as_aux_lemma =>
                                obtain rfl : k = 8 * s.size := by omega
                                have hxe : xv ack (nm (bitOf s) (8 * s.size)) = nv ack (nmI s (8 * s.size)) := xv_nv _ _
                                rw [hxe] at hown
                                obtain ⟨a9, cap9, rfl, hrow9⟩ := hown.row_ (nv_wf _ _)
                                have HS2 := Lib.hid (SameInts_eq a8 a9 (nv ack (nmI s (8 * s.size))).length cap8 cap9 (nv ack (nmI s (8 * s.size))) wr (Or.row_below HR8.out hbl) hrow9)
                                have HBF := Lib.hid (blw HB8.out hbl)
                                generalize nv ack (nmI s (8 * s.size)) = ws9 at *
                                clear hown hrow9 hbl hxe
                                go_wp2_with fail
                                refine HS2.out.mono ?_
                                rintro e w9 ⟨rfl, n9, rfl⟩
                                go_wp2_with fail
                                refine (awake_any _).mono ?_
                                rintro e w10 ⟨rfl, hb10⟩
                                go_wp2
                                go_ret
                                exact ⟨rfl, blw (show Below w.heap.size w (wr.drewN n9) from Or.blw_drewN HBF.out n9) hb10⟩
end Go.Proofs.Ytdkfniijoamaoac.Fl
