/-
  The reference's Base and Queueing.
-/
import Derived.Test.YthjhbceepkoifaaFs
namespace Go.Proofs.Ythjhbceepkoifaa.Ft
open Go Go.RowKit Go.Proofs.Ythjhbceepkoifaa.Ec Go.Proofs.Ythjhbceepkoifaa.Ee Go.Proofs.Ythjhbceepkoifaa.Rg Go.Proofs.Ythjhbceepkoifaa.Fa Go.Proofs.Ythjhbceepkoifaa.Fb Go.Proofs.Ythjhbceepkoifaa.Fc Go.Proofs.Ythjhbceepkoifaa.Fd Go.Proofs.Ythjhbceepkoifaa.Fe Go.Proofs.Ythjhbceepkoifaa.Fg Go.Proofs.Ythjhbceepkoifaa.Fh Go.Proofs.Ythjhbceepkoifaa.Fi Go.Proofs.Ythjhbceepkoifaa.Fj Go.Proofs.Ythjhbceepkoifaa.Fk Go.Proofs.Ythjhbceepkoifaa.Fl Go.Proofs.Ythjhbceepkoifaa.Fq Go.Proofs.Ythjhbceepkoifaa.Fr Go.Proofs.Ythjhbceepkoifaa.Fs Go.Proofs.Ythjhbceepkoifaa.Or Go.Proofs.Ythjhbceepkoifaa.Rw Go.Proofs.Ythjhbceepkoifaa.Hz

theorem Rr_dl {all : List (Int × Int)} (hd : ∀ p ∈ all, 0 ≤ p.2 ∧ p.2 < 4294967296) : ∀ (n : Nat) (lo : Int), ∀ z ∈ (Rr all lo n).map Prod.snd, 0 ≤ z ∧ z < 4294967296
  | 0, _, z, h => by simp [Rr] at h
  | n + 1, lo, z, h => by
    rw [Rr_succ] at h
    cases hm : mb all lo with
    | none => rw [hm] at h; exact Rr_dl hd n (lo + 1) z h
    | some b =>
      rw [hm] at h
      rcases List.mem_cons.1 h with h | h
      · have hb : b.2 = (lst (inm all lo)).getD 0 := by
          unfold mb at hm
          cases hl : lst (inm all lo) with
          | none => rw [hl] at hm; cases hm
          | some d => rw [hl] at hm; simp at hm; rw [← hm]; rfl
        rw [h, hb]
        cases hl : lst (inm all lo) with
        | none => simp
        | some d => exact lst_in _ (inm_dl hd lo) d hl
      · exact Rr_dl hd n (lo + 1) z h
theorem bsOf_dl {all : List (Int × Int)} (hd : ∀ p ∈ all, 0 ≤ p.2 ∧ p.2 < 4294967296) : ∀ z ∈ (bsOf all).map Prod.snd, 0 ≤ z ∧ z < 4294967296 := by
  unfold bsOf
  cases all.getLast? with
  | none => simp
  | some q => exact Rr_dl hd 10 _
theorem bsOf_len (all : List (Int × Int)) : (bsOf all).length ≤ 10 := by
  unfold bsOf
  cases all.getLast? with
  | none => simp
  | some q => exact Rr_len all 10 _
theorem bsOf_ne {all : List (Int × Int)} (h : all ≠ []) : bsOf all ≠ [] := by
  unfold bsOf
  cases hq : all.getLast? with
  | none => exact absurd (List.getLast?_eq_none_iff.1 hq) h
  | some q =>
    simp only
    rw [Rr_app all 9 1, Rr_one]
    have hi : inm all (q.1 / 60000 - 9 + ((9 : Nat) : Int)) ≠ [] := fun he => by
      have : q.2 ∈ inm all (q.1 / 60000 - 9 + ((9 : Nat) : Int)) := by
        unfold inm
        exact List.mem_map.2 ⟨q, List.mem_filter.2 ⟨List.mem_of_getLast? hq, by simp⟩, rfl⟩
      rw [he] at this; cases this
    rw [mb_some hi]; simp
theorem l4_dl {all : List (Int × Int)} (hd : ∀ p ∈ all, 0 ≤ p.2 ∧ p.2 < 4294967296) : ∀ z ∈ l4 all, 0 ≤ z ∧ z < 4294967296 := fun z hz => by
  unfold l4 at hz
  obtain ⟨p, hp, rfl⟩ := List.mem_map.1 hz
  exact hd p (List.mem_of_mem_drop hp)

set_option maxHeartbeats 1000000 in
theorem RBase_no (c : Nat) (s : St) (al : Value) (w : World) (h : Ra w c s [] al) :
    Calls Try.prog 25 #[.pointer (some ⟨c, 0, none⟩)] w fun e w' => e = .returned (.tuple #[.int .i64 0, .int .i64 8]) ∧ Below w.heap.size w w' := by
  obtain ⟨a, cap, hal⟩ := row_empty h.row
  have c5 := h.ctl.c5
  rw [hal] at c5
  clear h hal
  go_enter Try.func25, Try.ntmps25
  go_wp2
  go_ret2
  exact ⟨rfl, Below.refl _ _⟩
/-- the base of all samples -/
def bas (all : List (Int × Int)) : Int := ((lstb (bsOf all)).getD (0, 0)).2
set_option maxHeartbeats 1000000 in
theorem RBase_yes (c : Nat) (s : St) (all : List (Int × Int)) (al : Value) (w : World) (h : Ra w c s all al) (hk : Lk s all) (hlen : all.length ≤ 80) (hne : all ≠ []) :
    Calls Try.prog 25 #[.pointer (some ⟨c, 0, none⟩)] w fun e w' => e = .returned (.tuple #[.int .i64 (bas all), .int .i64 0]) ∧ Below w.heap.size w w' := by
  obtain ⟨a, cap, hal⟩ := row_len h.row
  have c5 := h.ctl.c5
  rw [hal] at c5
  have hn : 0 < all.length := List.length_pos_iff.2 hne
  have HB := Lib.hid (RBases_any c s all al w h hk hlen)
  have HZ := Lib.hid (bsOf_dl hk.dl)
  have hbn : 0 < ((bsOf all).map Prod.snd).length := by rw [List.length_map]; exact List.length_pos_iff.2 (bsOf_ne hne)
  have hbl : ((bsOf all).map Prod.snd).length ≤ 10 := by rw [List.length_map]; exact bsOf_len all
  unfold bas
  rw [lstb_snd]
  generalize (bsOf all).map Prod.snd = bs at *
  obtain ⟨x, hx⟩ : ∃ x, (lst bs).getD 0 = x := ⟨_, rfl⟩
  rw [hx]
  have HX := Lib.hid hx
  clear h hk hal hne hx
  generalize all.length = n at *
  have hz : ((n : Int) == 0) = false := by simp; omega
  go_enter Try.func25, Try.ntmps25
  go_wp2_with fail
  refine HB.out.mono ?_
  rintro e w1 ⟨v, rfl, hor, hb1⟩
  obtain ⟨a6, cap6, rfl, hrow6, hcap6⟩ := row2 hor (fun z hz => WalkArith.wf_i64 (by have := HZ.out z hz; omega))
  have HS := Lib.hid (smallest_any a6 _ cap6 bs w1 hrow6 hcap6 hbn HZ.out)
  rw [HX.out] at HS
  clear hrow6 hor
  generalize bs.length = ln at *
  go_wp2_with fail
  refine HS.out.mono ?_
  rintro e w2 ⟨rfl, rfl⟩
  go_wp2
  go_ret2
  exact ⟨rfl, hb1⟩

set_option maxHeartbeats 1000000 in
theorem RQueueing_no (c : Nat) (s : St) (al : Value) (w : World) (h : Ra w c s [] al) :
    Calls Try.prog 26 #[.pointer (some ⟨c, 0, none⟩)] w fun e w' => e = .returned (.tuple #[.int .i64 0, .int .i64 8]) ∧ Below w.heap.size w w' := by
  have HB := Lib.hid (RBase_no c s al w h)
  clear h
  go_enter Try.func26, Try.ntmps26
  go_wp2_with fail
  refine HB.out.mono ?_
  rintro e w1 ⟨rfl, hb1⟩
  go_wp2
  go_ret2
  exact ⟨rfl, hb1⟩

theorem drop_at (all : List (Int × Int)) (m j : Nat) (h : m + j < all.length) : ((all.drop m).take (j + 1)).map Prod.snd = ((all.drop m).take j).map Prod.snd ++ [(all[m + j]?.getD (0, 0)).2] := by
  rw [List.take_succ_eq_append_getElem (by simp; omega), List.map_append, List.getElem_drop, List.getElem?_eq_getElem h]; rfl

set_option maxRecDepth 100000 in
set_option maxHeartbeats 4000000 in
theorem RQueueing_yes (c : Nat) (s : St) (all : List (Int × Int)) (al : Value) (w : World) (h : Ra w c s all al) (hk : Lk s all) (hlen : all.length ≤ 80) (hne : all ≠ []) :
    Calls Try.prog 26 #[.pointer (some ⟨c, 0, none⟩)] w fun e w' => e = .returned (.tuple #[.int .i64 (qd (bsOf all) (l4 all)), .int .i64 0]) ∧ Below w.heap.size w w' := by
  have hi3 : (Try.prog.info? 3).map (fun i => (i.zero, i.size, i.bytes)) = some (some (.int .i64 0), 1, 8) := by kernel_rfl
  obtain ⟨i0, hi, hz0, hz1, hz2⟩ := info_parts hi3
  have hlt := h.ctl.lt
  have c5 := h.ctl.c5
  obtain ⟨n, hn⟩ : ∃ n, all.length = n + 1 := ⟨all.length - 1, by have := List.length_pos_iff.2 hne; omega⟩
  have hn80 : n ≤ 79 := by omega
  have hrow := h.row
  rw [hn] at hrow
  obtain ⟨g, off, cap, hal, hcap, hg⟩ := hrow.form
  rw [hal] at c5 hrow
  have hcells := row_bases hn hrow
  have HCE := Lib.hid hcells
  have HN := Lib.hid hn
  have HDL := Lib.hid (l4_dl hk.dl)
  have HB := Lib.hid (RBase_yes c s all al w h hk hlen hne)
  have hbas : 0 ≤ bas all ∧ bas all < 4294967296 := by
    unfold bas; rw [lstb_snd]
    cases hl : lst ((bsOf all).map Prod.snd) with
    | none => simp
    | some d => exact lst_in _ (bsOf_dl hk.dl) d hl
  have hl4n : l4 all ≠ [] := by unfold l4; simp; omega
  have hl4x : 0 ≤ (lst (l4 all)).getD 0 ∧ (lst (l4 all)).getD 0 < 4294967296 := by
    cases hl : lst (l4 all) with
    | none => simp
    | some d => exact lst_in _ (l4_dl hk.dl) d hl
  have htn := turn (bas all) ((lst (l4 all)).getD 0) hbas.1 hbas.2 hl4x.1 hl4x.2
  have hqd : qd (bsOf all) (l4 all) = min 10000 (((lst (l4 all)).getD 0 - bas all) % 4294967296) := rfl
  rw [hqd]
  obtain ⟨m, hm⟩ : ∃ m, all.length - 4 = m := ⟨_, rfl⟩
  have HL4 : Hid (l4 all = (all.drop m).map Prod.snd) := Lib.hid (by unfold l4; rw [hm])
  have hm1 : m ≤ n := by omega
  have hm2 : n + 1 - m ≤ 4 := by omega
  have hw1 : IntKind.i64.wrap ((n : Int) + 1 - 4) = (n : Int) + 1 - 4 := by rw [IntKind.wrap_i64]; omega
  obtain ⟨l', hl'⟩ : ∃ l', n + 1 - m = l' := ⟨_, rfl⟩
  obtain ⟨o', ho'⟩ : ∃ o', off + m * 2 = o' := ⟨_, rfl⟩
  have hl1 : l' ≤ 4 := by omega
  have hl2 : 1 ≤ l' := by omega
  have hlm : m + l' = n + 1 := by omega
  have HCE2 : Hid (∀ j, j < l' → w.cell? ⟨g, o' + j * 2, none⟩ = some (.int .i64 (all[m + j]?.getD (0, 0)).1) ∧ w.cell? ⟨g, o' + j * 2 + 1, none⟩ = some (.int .i64 (all[m + j]?.getD (0, 0)).2)) := Lib.hid (fun j hj => by
    have := hcells (m + j) (by omega)
    rw [show off + (m + j) * 2 = o' + j * 2 by omega] at this
    exact this)
  have HLM := Lib.hid hlm
  have HM := Lib.hid hm
  clear h hk hal hrow hcells hlen hqd hl4n HCE hlm
  obtain ⟨bb, hbb⟩ : ∃ bb, bas all = bb := ⟨_, rfl⟩
  rw [hbb] at HB htn hbas ⊢
  clear hbb
  obtain ⟨hb0, hb1⟩ := hbas
  obtain ⟨x, hx⟩ : ∃ x, (lst (l4 all)).getD 0 = x := ⟨_, rfl⟩
  rw [hx] at htn hl4x ⊢
  have HX := Lib.hid hx
  obtain ⟨x1, x2⟩ := hl4x
  have hr1 : -4294967296 < (x - bb).tmod 4294967296 := Int.lt_tmod_of_pos _ (by decide)
  have hr2 : (x - bb).tmod 4294967296 < 4294967296 := Int.tmod_lt_of_pos _ (by decide)
  obtain ⟨Q, hQ⟩ : ∃ Q, (x - bb) % 4294967296 = Q := ⟨_, rfl⟩
  rw [hQ] at htn ⊢
  have hq : Q ≤ 10000 ∨ 10000 < Q := by omega
  clear hx hQ
  have hcase : (n ≤ 3 ∧ m = 0) ∨ (4 ≤ n ∧ m = n - 3) := by omega
  clear hm hn
  rcases hcase with ⟨hc1, hc2⟩ | ⟨hc1, hc2⟩
  · obtain rfl : off = o' := by omega
    obtain rfl : n + 1 = l' := by omega
    have HC2 := Lib.hid hc2
    clear hl' ho' hc2
    go_enter Try.func26, Try.ntmps26
    go_wp2_with fail
    refine HB.out.mono ?_
    rintro e w1 ⟨rfl, hb1⟩
    have k5 := (hb1.cell (p := ⟨c, 5, none⟩) hlt).trans c5
    have HB1 := Lib.hid hb1
    have hb1s := hb1.size
    have HTN := Lib.hid htn
    clear hb1 htn
    go_wp2_with fail
    go_quiet (fail)
    go_wp2_with fail
    skip
    go_loopw [6, 8, 30] (fun l _ i wr => ∃ k : Nat, k ≤ n + 1 ∧ i = .int .i64 k ∧ OR wr w1.heap.size l (((all.drop m).take k).map Prod.snd) ∧ Below w1.heap.size w1 wr) (fun _ _ i _ => n + 1 - (intOf i).toNat)
    case atStart => exact ⟨0, Nat.zero_le _, rfl, OR.nil_ _ _, blw_drewN (Below.refl _ _) nq⟩
    case round =>
      obtain ⟨k, hk, rfl, hown, hbl⟩ := hrel
      have hbls := hbl.size
      by_cases hltk : k < n + 1
      · obtain ⟨e0, e1⟩ := HCE2.out k hltk
        have d0 := (hbl.cell (p := ⟨g, off + k * 2, none⟩) (show g < w1.heap.size by omega)).trans ((HB1.out.cell (p := ⟨g, off + k * 2, none⟩) hg).trans e0)
        have d1 := (hbl.cell (p := ⟨g, off + k * 2 + 1, none⟩) (show g < w1.heap.size by omega)).trans ((HB1.out.cell (p := ⟨g, off + k * 2 + 1, none⟩) hg).trans e1)
        have hstep := drop_at all m k (by have := HLM.out; have := HN.out; omega)
        have hll : (((all.drop m).take k).map Prod.snd).length ≤ k := by rw [List.length_map, List.length_take]; omega
        generalize all[m + k]?.getD (0, 0) = p at d0 d1 hstep
        obtain ⟨p1, p2⟩ := p
        simp only at d0 d1 hstep
        have hown1 := (hown.alloc_ (.cells #[.int .i64 p1, .int .i64 p2] 75)).alloc_ (.cells #[.int .i64 p2] 3)
        have hbl1 := (hbl.alloc hbl.size (.cells #[.int .i64 p1, .int .i64 p2] 75)).alloc (by simp; omega) (.cells #[.int .i64 p2] 3)
        clear e0 e1 hown hbl
        generalize ((all.drop m).take k).map Prod.snd = y at *
        have hcl := cI_len y
        have HCL := Lib.hid hcl
        have HS := Lib.hid hstep
        clear hcl hstep
        go_wp2_with (at_builtin; refine wpList_append_own _ rfl _ _ 51 rfl w1.heap.size 3 i0 (.int .i64 0) 1 8 Try.underlying51 hi hz0 hz1 hz2 rfl (by decide) _ _ _ rfl hown1 ⟨wr.heap.size + 1, 0, none⟩ 1 1 [.int .i64 p2] rfl rfl (by have := cell_one_new (wr.alloc (.cells #[.int .i64 p1, .int .i64 p2] 75)) (.int .i64 p2) 3; rwa [World.size_alloc] at this) (by simp [Value.oneCell']) (by unfold maxLen; omega) (by omega) hbl1.size ?_; intro v' w2 hown' hgrow _; have hbl2 := hown1.grow_ hbl1 hgrow hbl1.size; clear hgrow)
        exact ⟨⟨k + 1, by omega, by go_num, by rw [HS.out]; unfold OR; rw [cI_snoc, List.length_append]; exact hown', hbl2⟩, by simp [intOf]; omega⟩
      · obtain rfl : k = n + 1 := by omega
        have hall : ((all.drop m).take (n + 1)).map Prod.snd = l4 all := by
          rw [HL4.out, List.take_of_length_le]
          rw [List.length_drop]; have := HLM.out; have := HN.out; omega
        rw [hall] at hown
        have hB2 : Below w.heap.size w wr := HB1.out.trans (hbl.mono hb1s)
        obtain ⟨a6, cap6, rfl, hrow6, hcap6⟩ := row2 hown (fun z hz => WalkArith.wf_i64 (by have := HDL.out z hz; omega))
        have hlen4 : (l4 all).length = n + 1 := by rw [← hall, List.length_map, List.length_take, List.length_drop]; have := HLM.out; have := HN.out; omega
        have HSM := Lib.hid (smallest_any a6 _ cap6 (l4 all) wr hrow6 hcap6 (by rw [hlen4]; omega) HDL.out)
        rw [HX.out] at HSM
        have hl4a : 1 ≤ (l4 all).length := by rw [hlen4]; omega
        have hl4b : (l4 all).length ≤ 4 := by rw [hlen4]; omega
        have HB2 := Lib.hid hB2
        clear hrow6 hown hbl hall hlen4 hB2
        generalize (l4 all).length = ln at *
        have htn2 := HTN.out
        rcases hq with hq | hq
        all_goals
          go_wp2_with fail
          refine HSM.out.mono ?_
          rintro e w2 ⟨rfl, rfl⟩
          go_wp2_with fail
          go_ret2
          exact ⟨by first | (rw [show min (10000 : Int) Q = Q by omega]; rfl) | (rw [show min (10000 : Int) Q = 10000 by omega]; rfl), HB2.out⟩
  · have etn : ((n : Int) + 1 - 4).toNat = m := by omega
    have HC2 := Lib.hid hc2
    clear hc2
    go_enter Try.func26, Try.ntmps26
    go_wp2_with fail
    refine HB.out.mono ?_
    rintro e w1 ⟨rfl, hb1⟩
    have k5 := (hb1.cell (p := ⟨c, 5, none⟩) hlt).trans c5
    have HB1 := Lib.hid hb1
    have hb1s := hb1.size
    have HTN := Lib.hid htn
    clear hb1 htn
    go_wp2_with fail
    go_quiet (fail)
    go_wp2_with fail
    clear etn hl' ho'
    go_loopw [6, 8, 30] (fun l _ i wr => ∃ k : Nat, k ≤ l' ∧ i = .int .i64 k ∧ OR wr w1.heap.size l (((all.drop m).take k).map Prod.snd) ∧ Below w1.heap.size w1 wr) (fun _ _ i _ => l' - (intOf i).toNat)
    case atStart => exact ⟨0, Nat.zero_le _, rfl, OR.nil_ _ _, blw_drewN (Below.refl _ _) nq⟩
    case round =>
      obtain ⟨k, hk, rfl, hown, hbl⟩ := hrel
      have hbls := hbl.size
      by_cases hltk : k < l'
      · obtain ⟨e0, e1⟩ := HCE2.out k hltk
        have d0 := (hbl.cell (p := ⟨g, o' + k * 2, none⟩) (show g < w1.heap.size by omega)).trans ((HB1.out.cell (p := ⟨g, o' + k * 2, none⟩) hg).trans e0)
        have d1 := (hbl.cell (p := ⟨g, o' + k * 2 + 1, none⟩) (show g < w1.heap.size by omega)).trans ((HB1.out.cell (p := ⟨g, o' + k * 2 + 1, none⟩) hg).trans e1)
        have hstep := drop_at all m k (by have := HLM.out; have := HN.out; omega)
        have hll : (((all.drop m).take k).map Prod.snd).length ≤ k := by rw [List.length_map, List.length_take]; omega
        generalize all[m + k]?.getD (0, 0) = p at d0 d1 hstep
        obtain ⟨p1, p2⟩ := p
        simp only at d0 d1 hstep
        have hown1 := (hown.alloc_ (.cells #[.int .i64 p1, .int .i64 p2] 75)).alloc_ (.cells #[.int .i64 p2] 3)
        have hbl1 := (hbl.alloc hbl.size (.cells #[.int .i64 p1, .int .i64 p2] 75)).alloc (by simp; omega) (.cells #[.int .i64 p2] 3)
        clear e0 e1 hown hbl
        generalize ((all.drop m).take k).map Prod.snd = y at *
        have hcl := cI_len y
        have HCL := Lib.hid hcl
        have HS := Lib.hid hstep
        clear hcl hstep
        go_wp2_with (at_builtin; refine wpList_append_own _ rfl _ _ 51 rfl w1.heap.size 3 i0 (.int .i64 0) 1 8 Try.underlying51 hi hz0 hz1 hz2 rfl (by decide) _ _ _ rfl hown1 ⟨wr.heap.size + 1, 0, none⟩ 1 1 [.int .i64 p2] rfl rfl (by have := cell_one_new (wr.alloc (.cells #[.int .i64 p1, .int .i64 p2] 75)) (.int .i64 p2) 3; rwa [World.size_alloc] at this) (by simp [Value.oneCell']) (by unfold maxLen; omega) (by omega) hbl1.size ?_; intro v' w2 hown' hgrow _; have hbl2 := hown1.grow_ hbl1 hgrow hbl1.size; clear hgrow)
        exact ⟨⟨k + 1, by omega, by go_num, by rw [HS.out]; unfold OR; rw [cI_snoc, List.length_append]; exact hown', hbl2⟩, by simp [intOf]; omega⟩
      · obtain rfl : l' = k := by omega
        have hall : ((all.drop m).take (l')).map Prod.snd = l4 all := by
          rw [HL4.out, List.take_of_length_le]
          rw [List.length_drop]; have := HLM.out; have := HN.out; omega
        rw [hall] at hown
        have hB2 : Below w.heap.size w wr := HB1.out.trans (hbl.mono hb1s)
        obtain ⟨a6, cap6, rfl, hrow6, hcap6⟩ := row2 hown (fun z hz => WalkArith.wf_i64 (by have := HDL.out z hz; omega))
        have hlen4 : (l4 all).length = l' := by rw [← hall, List.length_map, List.length_take, List.length_drop]; have := HLM.out; have := HN.out; omega
        have HSM := Lib.hid (smallest_any a6 _ cap6 (l4 all) wr hrow6 hcap6 (by rw [hlen4]; omega) HDL.out)
        rw [HX.out] at HSM
        have hl4a : 1 ≤ (l4 all).length := by rw [hlen4]; omega
        have hl4b : (l4 all).length ≤ 4 := by rw [hlen4]; omega
        have HB2 := Lib.hid hB2
        clear hrow6 hown hbl hall hlen4 hB2
        generalize (l4 all).length = ln at *
        have htn2 := HTN.out
        rcases hq with hq | hq
        all_goals
          go_wp2_with fail
          refine HSM.out.mono ?_
          rintro e w2 ⟨rfl, rfl⟩
          go_wp2_with fail
          go_ret2
          exact ⟨by first | (rw [show min (10000 : Int) Q = Q by omega]; rfl) | (rw [show min (10000 : Int) Q = 10000 by omega]; rfl), HB2.out⟩
end Go.Proofs.Ythjhbceepkoifaa.Ft
