/-
  The reference's Bases.
-/
import Derived.Test.YthjhbceepkoifaaFr
import Derived.LoopTactic
namespace Go.Proofs.Ythjhbceepkoifaa.Fs
open Go Go.RowKit Go.Proofs.Ythjhbceepkoifaa.Ec Go.Proofs.Ythjhbceepkoifaa.Ee Go.Proofs.Ythjhbceepkoifaa.Rg Go.Proofs.Ythjhbceepkoifaa.Fa Go.Proofs.Ythjhbceepkoifaa.Fb Go.Proofs.Ythjhbceepkoifaa.Fc Go.Proofs.Ythjhbceepkoifaa.Fd Go.Proofs.Ythjhbceepkoifaa.Fe Go.Proofs.Ythjhbceepkoifaa.Fg Go.Proofs.Ythjhbceepkoifaa.Fh Go.Proofs.Ythjhbceepkoifaa.Fi Go.Proofs.Ythjhbceepkoifaa.Fj Go.Proofs.Ythjhbceepkoifaa.Fk Go.Proofs.Ythjhbceepkoifaa.Fl Go.Proofs.Ythjhbceepkoifaa.Fq Go.Proofs.Ythjhbceepkoifaa.Fr Go.Proofs.Ythjhbceepkoifaa.Or Go.Proofs.Ythjhbceepkoifaa.Rw Go.Proofs.Ythjhbceepkoifaa.Hz

theorem inm_tk (all : List (Int × Int)) (m : Int) (k : Nat) (hk : k < all.length) : inm (all.take (k + 1)) m = if (all.getD k (0, 0)).1 / 60000 = m then inm (all.take k) m ++ [(all.getD k (0, 0)).2] else inm (all.take k) m := by
  rw [List.take_succ_eq_append_getElem hk, show all.getD k (0, 0) = all[k] by simp [List.getD, hk]]
  exact inm_snoc _ _ _ _
theorem inm_le (all : List (Int × Int)) (m : Int) : (inm all m).length ≤ all.length := by unfold inm; rw [List.length_map]; exact List.length_filter_le _ _
theorem inm_dl {all : List (Int × Int)} (hd : ∀ p ∈ all, 0 ≤ p.2 ∧ p.2 < 4294967296) (m : Int) : ∀ z ∈ inm all m, 0 ≤ z ∧ z < 4294967296 := fun z hz => by
  unfold inm at hz
  obtain ⟨p, hp, rfl⟩ := List.mem_map.1 hz
  exact hd p (List.mem_filter.1 hp).1
theorem Rr_snoc (all : List (Int × Int)) (lo : Int) (n : Nat) : Rr all lo (n + 1) = Rr all lo n ++ (mb all (lo + n)).toList := by rw [Rr_app all n 1 lo, Rr_one]
theorem mb_none {all : List (Int × Int)} {m : Int} (h : inm all m = []) : mb all m = none := by unfold mb; rw [h]; rfl
theorem mb_some {all : List (Int × Int)} {m : Int} (h : inm all m ≠ []) : mb all m = some (m, (lst (inm all m)).getD 0) := by
  unfold mb
  cases hl : lst (inm all m) with
  | none => have := lst_some (inm all m); rw [hl] at this; cases hi : inm all m <;> simp_all
  | some x => rfl

set_option maxRecDepth 100000 in
set_option maxHeartbeats 4000000 in
theorem RBases_any (c : Nat) (s : St) (all : List (Int × Int)) (al : Value) (w : World) (h : Ra w c s all al) (hk : Lk s all) (hlen : all.length ≤ 80) :
    Calls Try.prog 32 #[.pointer (some ⟨c, 0, none⟩)] w fun e w' => ∃ v, e = .returned v ∧ OR w' w.heap.size v ((bsOf all).map Prod.snd) ∧ Below w.heap.size w w' := by
  have hi3 : (Try.prog.info? 3).map (fun i => (i.zero, i.size, i.bytes)) = some (some (.int .i64 0), 1, 8) := by kernel_rfl
  obtain ⟨i0, hi, hz0, hz1, hz2⟩ := info_parts hi3
  have c5 := h.ctl.c5
  have hlt := h.ctl.lt
  by_cases hne : all = []
  · subst hne
    obtain ⟨a, cap, hal⟩ := row_empty h.row
    rw [hal] at c5
    clear h hk hal
    go_enter Try.func32, Try.ntmps32
    go_wp2
    go_ret
    exact ⟨_, rfl, OR.nil_ _ _, Below.refl _ _⟩
  · obtain ⟨n, hn⟩ : ∃ n, all.length = n + 1 := ⟨all.length - 1, by have := List.length_pos_iff.2 hne; omega⟩
    have hn80 : n ≤ 79 := by omega
    have hrow := h.row
    rw [hn] at hrow
    obtain ⟨g, off, cap, hal, hcap, hg⟩ := hrow.form
    rw [hal] at c5 hrow
    obtain ⟨q, hq⟩ : ∃ q, all.getLast? = some q := by
      cases h : all.getLast? with
      | none => exact absurd (List.getLast?_eq_none_iff.1 h) hne
      | some q => exact ⟨q, rfl⟩
    have hqn : all.getD n (0, 0) = q := by
      have : all[all.length - 1]? = some q := by rw [← List.getLast?_eq_getElem?]; exact hq
      rw [hn, Nat.add_sub_cancel] at this
      simp [List.getD, this]
    have hcells := row_bases hn hrow
    have hq0 := (hcells n (by omega)).1
    rw [show all[n]?.getD (0, 0) = q from hqn] at hq0
    have hbs : bsOf all = Rr all (q.1 / 60000 - 9) 10 := by unfold bsOf; rw [hq]
    have hqm := List.mem_of_getLast? hq
    have hq1 := (hk.ord q hq q hqm).1
    have hq2 := hk.tm q hqm
    have HCE := Lib.hid hcells
    have HN := Lib.hid hn
    have HDL := Lib.hid hk.dl
    have HBS := Lib.hid hbs
    have HTM : Hid (∀ p ∈ all, 0 ≤ p.1 ∧ p.1 ≤ 1000000000) := Lib.hid (fun p hp => ⟨(hk.ord q hq p hp).1, hk.tm p hp⟩)
    rw [hbs]
    obtain ⟨t, ht⟩ : ∃ t, q.1 = t := ⟨_, rfl⟩
    rw [ht] at hq0 hq1 hq2 ⊢
    obtain ⟨L, hL⟩ : ∃ L, t / 60000 = L := ⟨_, rfl⟩
    have hL1 : 0 ≤ L := by omega
    have hL2 : L ≤ 16667 := by omega
    have HL := Lib.hid hL
    rw [hL]
    clear h hk hal hrow hn hq hqn hcells hbs hqm ht hL
    go_enter Try.func32, Try.ntmps32
    have hw1 : IntKind.i64.wrap ((n : Int) + 1 - 1) = (n : Int) := by rw [IntKind.wrap_i64]; omega
    have hw2 : IntKind.i64.wrap (t.tdiv 60000) = L := by rw [IntKind.wrap_i64, Int.tdiv_eq_ediv_of_nonneg hq1, HL.out]; omega
    have hn0 : (0 : Int) ≤ (n : Int) := by omega
    have hnz : ((n : Int) + 1 == 0) = false := by simp; omega
    have hn1 : (n : Int) < (n : Int) + 1 := by omega
    go_wp2_with fail
    go_quiet (fail)
    have hL := HL.out
    go_wp2_with fail
    clear hL hw1 hw2
    go_loopw [4, 5, 6, 8, 46] (fun o m _ _ _ wr => ∃ (j : Nat) (M : Int), j ≤ 10 ∧ M = L - 9 + j ∧ m = .int .i64 M ∧ OR wr w.heap.size o ((Rr all (L - 9) j).map Prod.snd) ∧ Below w.heap.size w wr) (fun _ m _ _ _ _ => (L + 1 - intOf m).toNat)
    case atStart => exact ⟨0, L - 10 + 1, by omega, by omega, rfl, OR.nil_ _ _, blw_drewN (Below.refl _ w) nq⟩
    case round =>
      obtain ⟨j, M, hj, hM, rfl, hown, hB⟩ := hrel
      obtain ⟨W1, hW1⟩ : ∃ W1, W1 = wr := ⟨_, rfl⟩
      subst hW1
      have hM1 : L - 9 + j ≤ M := by omega
      have hM2 : M ≤ L - 9 + j := by omega
      have HMe := Lib.hid hM
      clear hM
      have hBs := hB.size
      by_cases hle : M ≤ L
      · have k5 := (hB.cell (p := ⟨c, 5, none⟩) hlt).trans c5
        have HO := Lib.hid hown
        have HB := Lib.hid hB
        clear hown hB
        go_wp2_with fail
        go_loopw [6, 8, 46] (fun l _ i wr => ∃ k : Nat, k ≤ n + 1 ∧ i = .int .i64 k ∧ OR wr W1.heap.size l (inm (all.take k) M) ∧ Below W1.heap.size W1 wr) (fun _ _ i _ => n + 1 - (intOf i).toNat)
        case atStart => exact ⟨0, Nat.zero_le _, rfl, OR.nil_ _ _, Below.refl _ _⟩
        case round =>
          obtain ⟨k, hk, rfl, hown, hbl⟩ := hrel
          have hbls := hbl.size
          by_cases hltk : k < n + 1
          · obtain ⟨e0, e1⟩ := HCE.out k hltk
            have d0 := (hbl.cell (p := ⟨g, off + k * 2, none⟩) (show g < W1.heap.size by omega)).trans ((HB.out.cell (p := ⟨g, off + k * 2, none⟩) hg).trans e0)
            have d1 := (hbl.cell (p := ⟨g, off + k * 2 + 1, none⟩) (show g < W1.heap.size by omega)).trans ((HB.out.cell (p := ⟨g, off + k * 2 + 1, none⟩) hg).trans e1)
            have hstep := inm_tk all M k (by rw [HN.out]; exact hltk)
            have hgd : all.getD k (0, 0) = all[k]?.getD (0, 0) := by simp [List.getD]
            rw [hgd] at hstep
            have hmem : all[k]?.getD (0, 0) ∈ all := by
              rw [List.getElem?_eq_getElem (by rw [HN.out]; exact hltk)]; exact List.getElem_mem _
            have ht := HTM.out _ hmem
            have hll : (inm (all.take k) M).length ≤ k := Nat.le_trans (inm_le _ _) (by rw [List.length_take]; omega)
            generalize all[k]?.getD (0, 0) = p at d0 d1 hstep ht
            obtain ⟨p1, p2⟩ := p
            simp only at d0 d1 hstep ht
            obtain ⟨t1, t2⟩ := ht
            have hown1 := (hown.alloc_ (.cells #[.int .i64 p1, .int .i64 p2] 75)).alloc_ (.cells #[.int .i64 p2] 3)
            have hbl1 := (hbl.alloc hbl.size (.cells #[.int .i64 p1, .int .i64 p2] 75)).alloc (by simp; omega) (.cells #[.int .i64 p2] 3)
            have hown0 := hown.alloc_ (.cells #[.int .i64 p1, .int .i64 p2] 75)
            have hbl0 := hbl.alloc hbl.size (.cells #[.int .i64 p1, .int .i64 p2] 75)
            clear e0 e1 hgd hmem hown hbl
            generalize inm (all.take k) M = y at *
            have hcl := cI_len y
            have HCL := Lib.hid hcl
            clear hcl
            by_cases hqm : p1 / 60000 = M
            · rw [if_pos hqm] at hstep
              have HS := Lib.hid hstep
              have hqb : (p1 / 60000 == M) = true := by simp [hqm]
              clear hstep hqm hown0 hbl0
              go_wp2_with (at_builtin; refine wpList_append_own _ rfl _ _ 51 rfl W1.heap.size 3 i0 (.int .i64 0) 1 8 Try.underlying51 hi hz0 hz1 hz2 rfl (by decide) _ _ _ rfl hown1 ⟨wr.heap.size + 1, 0, none⟩ 1 1 [.int .i64 p2] rfl rfl (by have := cell_one_new (wr.alloc (.cells #[.int .i64 p1, .int .i64 p2] 75)) (.int .i64 p2) 3; rwa [World.size_alloc] at this) (by simp [Value.oneCell']) (by unfold maxLen; omega) (by omega) hbl1.size ?_; intro v' w2 hown' hgrow _; have hbl2 := hown1.grow_ hbl1 hgrow hbl1.size; clear hgrow)
              exact ⟨⟨k + 1, by omega, by go_num, by rw [HS.out]; unfold OR; rw [cI_snoc, List.length_append]; exact hown', hbl2⟩, by simp [intOf]; omega⟩
            · rw [if_neg hqm] at hstep
              have HS := Lib.hid hstep
              have hqb : (p1 / 60000 == M) = false := by simp [hqm]
              clear hstep hqm hown1 hbl1
              go_wp2_with fail
              exact ⟨⟨k + 1, by omega, by go_num, by rw [HS.out]; exact hown0, hbl0⟩, by simp [intOf]; omega⟩
          · obtain rfl : k = n + 1 := by omega
            rw [List.take_of_length_le (show all.length ≤ n + 1 by rw [HN.out]; exact Nat.le_refl _)] at hown
            have hO2 := HO.out.below_ hbl
            have hB2 : Below w.heap.size w wr := HB.out.trans (hbl.mono hBs)
            have hsn := Rr_snoc all (L - 9) j
            rw [← HMe.out] at hsn
            have hjl : ((Rr all (L - 9) j).map Prod.snd).length ≤ j := by rw [List.length_map]; exact Rr_len _ _ _
            have hdl := inm_dl HDL.out M
            by_cases hy : inm all M = []
            · rw [mb_none hy, Option.toList_none, List.append_nil] at hsn
              have HSN := Lib.hid hsn
              rw [hy] at hown
              obtain ⟨a6, cap6, rfl⟩ := hown.slice_
              have HO2 := Lib.hid hO2
              have HB2 := Lib.hid hB2
              clear hown hbl hO2 hB2 hsn hy hdl
              go_wp2_with fail
              exact ⟨⟨j + 1, M + 1, by omega, by omega, rfl, by rw [HSN.out]; exact HO2.out, HB2.out⟩, by simp [intOf]; omega⟩
            · rw [mb_some hy, Option.toList_some] at hsn
              obtain ⟨a6, cap6, rfl, hrow6, hcap6⟩ := row2 hown (fun z hz => WalkArith.wf_i64 (by have := hdl z hz; omega))
              have hy1 : 0 < (inm all M).length := List.length_pos_iff.2 hy
              have hy2 : (inm all M).length ≤ n + 1 := by have := inm_le all M; rw [HN.out] at this; exact this
              have HSM := Lib.hid (smallest_any a6 (inm all M).length cap6 (inm all M) wr hrow6 hcap6 hy1 hdl)
              clear hrow6 hown hdl hy hbl
              generalize (lst (inm all M)).getD 0 = x at hsn HSM
              generalize (inm all M).length = ln at hy1 hy2 HSM hcap6
              have hsn2 : (Rr all (L - 9) (j + 1)).map Prod.snd = (Rr all (L - 9) j).map Prod.snd ++ [x] := by rw [hsn, List.map_append]; rfl
              have HSN := Lib.hid hsn2
              clear hsn hsn2
              generalize (Rr all (L - 9) j).map Prod.snd = y at *
              have hcl := cI_len y
              have HCL := Lib.hid hcl
              clear hcl
              have hO3 := hO2.alloc_ (.cells #[.int .i64 x] 3)
              have hB3 := hB2.alloc hB2.size (.cells #[.int .i64 x] 3)
              clear hO2
              go_wp2_with fail
              refine HSM.out.mono ?_
              rintro e w2 ⟨rfl, rfl⟩
              go_wp2_with (at_builtin; refine wpList_append_own _ rfl _ _ 51 rfl w.heap.size 3 i0 (.int .i64 0) 1 8 Try.underlying51 hi hz0 hz1 hz2 rfl (by decide) _ _ _ rfl hO3 ⟨wr.heap.size, 0, none⟩ 1 1 [.int .i64 x] rfl rfl (cell_one_new _ _ _) (by simp [Value.oneCell']) (by unfold maxLen; omega) (by omega) hB3.size ?_; intro v' w2 hown' hgrow _; have hbl2 := hO3.grow_ hB3 hgrow hB3.size; clear hgrow)
              exact ⟨⟨j + 1, M + 1, by omega, by omega, rfl, by rw [HSN.out]; unfold OR; rw [cI_snoc, List.length_append]; exact hown', hbl2⟩, by simp [intOf]; omega⟩
      · obtain rfl : j = 10 := by omega
        have HO := Lib.hid hown
        have HB := Lib.hid hB
        clear hown hB
        go_wp2
        go_ret
        exact ⟨_, rfl, HO.out, HB.out⟩
end Go.Proofs.Ythjhbceepkoifaa.Fs
