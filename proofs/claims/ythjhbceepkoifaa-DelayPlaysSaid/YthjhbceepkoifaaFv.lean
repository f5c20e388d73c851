/-
  The reference's Sample.
-/
import Derived.Test.YthjhbceepkoifaaFu
namespace Go.Proofs.Ythjhbceepkoifaa.Fv
open Go Go.RowKit Go.Proofs.Ythjhbceepkoifaa.Ec Go.Proofs.Ythjhbceepkoifaa.Ee Go.Proofs.Ythjhbceepkoifaa.Rg Go.Proofs.Ythjhbceepkoifaa.Fa Go.Proofs.Ythjhbceepkoifaa.Fb Go.Proofs.Ythjhbceepkoifaa.Fc Go.Proofs.Ythjhbceepkoifaa.Fd Go.Proofs.Ythjhbceepkoifaa.Fe Go.Proofs.Ythjhbceepkoifaa.Fg Go.Proofs.Ythjhbceepkoifaa.Fh Go.Proofs.Ythjhbceepkoifaa.Fi Go.Proofs.Ythjhbceepkoifaa.Fj Go.Proofs.Ythjhbceepkoifaa.Fk Go.Proofs.Ythjhbceepkoifaa.Fl Go.Proofs.Ythjhbceepkoifaa.Fq Go.Proofs.Ythjhbceepkoifaa.Fr Go.Proofs.Ythjhbceepkoifaa.Fs Go.Proofs.Ythjhbceepkoifaa.Ft Go.Proofs.Ythjhbceepkoifaa.Fu Go.Proofs.Ythjhbceepkoifaa.Or Go.Proofs.Ythjhbceepkoifaa.Rw Go.Proofs.Ythjhbceepkoifaa.Hz

theorem lk_snoc {s : St} {all : List (Int × Int)} {t d : Int} (h : Lk s all) (hI : Inv s) (l : Int) (h1 : s.now ≤ t) (h2 : t ≤ 1000000000) (h3 : 0 ≤ d) (h4 : d < 4294967296) :
    Lk { s with now := t, limit := l, bs := cpt (t / 60000) d s.bs, zs := trim 4 (s.zs ++ [d]) } (all ++ [(t, d)]) := by
  have hq : ∀ q, all.getLast? = some q → q.1 ≤ t := fun q hq => Int.le_trans (h.nw q hq) h1
  refine ⟨ordd_snoc h.ord (Int.le_trans hI.n1 h1) hq, ?_, ?_, ?_, ?_, ?_⟩
  · show cpt (t / 60000) d s.bs = _
    rw [h.bs]; exact bsOf_snoc h.ord hq
  · show trim 4 (s.zs ++ [d]) = _
    rw [h.zs]; exact l4_snoc all t d
  · intro q hq2
    rw [List.getLast?_append] at hq2
    obtain rfl : (t, d) = q := by simpa using hq2
    exact Int.le_refl _
  · intro p hp
    rcases List.mem_append.1 hp with hp | hp
    · exact h.tm p hp
    · obtain rfl : p = (t, d) := by simpa using hp
      exact h2
  · intro p hp
    rcases List.mem_append.1 hp with hp | hp
    · exact h.dl p hp
    · obtain rfl : p = (t, d) := by simpa using hp
      exact ⟨h3, h4⟩

section
variable {w : World} {c : Nat} {s : St} {all : List (Int × Int)} {al : Value} {t b d u : Int}
/-- what is appended -/
theorem append_all (h : Ra w c s all al) (hlen : all.length ≤ 79) (t d : Int) (w0 : World) : True := trivial

set_option maxHeartbeats 1600000 in
theorem RSample_no (h : Ra w c s all al) (hok : okS s.now t b d u = false) :
    Calls Try.prog 23 #[.pointer (some ⟨c, 0, none⟩), .int .i64 t, .int .i64 b, .int .i64 d, .int .i64 u] w fun e w' => e = .returned (.int .i64 7) ∧ w = w' := by
  have c4 := h.ctl.c4
  have HT := Lib.hid (right_any t s.now 1000000000)
  have HB := Lib.hid (right_any b 0 1000000)
  have HD := Lib.hid (right_any d 0 4294967295)
  have HU := Lib.hid (right_any u 0 1000000)
  have hc : wn t s.now 1000000000 = false ∨ (wn t s.now 1000000000 = true ∧ wn b 0 1000000 = false) ∨ (wn t s.now 1000000000 = true ∧ wn b 0 1000000 = true ∧ wn d 0 4294967295 = false) ∨ (wn t s.now 1000000000 = true ∧ wn b 0 1000000 = true ∧ wn d 0 4294967295 = true ∧ wn u 0 1000000 = false) := by
    unfold okS at hok
    cases h1 : wn t s.now 1000000000 <;> cases h2 : wn b 0 1000000 <;> cases h3 : wn d 0 4294967295 <;> cases h4 : wn u 0 1000000 <;> simp_all
  clear h hok
  rcases hc with k1 | ⟨k1, k2⟩ | ⟨k1, k2, k3⟩ | ⟨k1, k2, k3, k4⟩
  · rw [k1] at HT
    clear k1
    go_enter Try.func23, Try.ntmps23
    go_wp2_with fail
    refine (HT.out _).mono ?_
    rintro e w1 ⟨rfl, rfl⟩
    go_wp2
    go_ret
    exact ⟨rfl, rfl⟩
  · rw [k1] at HT
    rw [k2] at HB
    clear k1 k2
    go_enter Try.func23, Try.ntmps23
    go_wp2_with fail
    refine (HT.out _).mono ?_
    rintro e w1 ⟨rfl, rfl⟩
    go_wp2_with fail
    refine (HB.out _).mono ?_
    rintro e w1 ⟨rfl, rfl⟩
    go_wp2
    go_ret
    exact ⟨rfl, rfl⟩
  · rw [k1] at HT
    rw [k2] at HB
    rw [k3] at HD
    clear k1 k2 k3
    go_enter Try.func23, Try.ntmps23
    go_wp2_with fail
    refine (HT.out _).mono ?_
    rintro e w1 ⟨rfl, rfl⟩
    go_wp2_with fail
    refine (HB.out _).mono ?_
    rintro e w1 ⟨rfl, rfl⟩
    go_wp2_with fail
    refine (HD.out _).mono ?_
    rintro e w1 ⟨rfl, rfl⟩
    go_wp2
    go_ret
    exact ⟨rfl, rfl⟩
  · rw [k1] at HT
    rw [k2] at HB
    rw [k3] at HD
    rw [k4] at HU
    clear k1 k2 k3 k4
    go_enter Try.func23, Try.ntmps23
    go_wp2_with fail
    refine (HT.out _).mono ?_
    rintro e w1 ⟨rfl, rfl⟩
    go_wp2_with fail
    refine (HB.out _).mono ?_
    rintro e w1 ⟨rfl, rfl⟩
    go_wp2_with fail
    refine (HD.out _).mono ?_
    rintro e w1 ⟨rfl, rfl⟩
    go_wp2_with fail
    refine (HU.out _).mono ?_
    rintro e w1 ⟨rfl, rfl⟩
    go_wp2
    go_ret
    exact ⟨rfl, rfl⟩

set_option maxRecDepth 100000 in
set_option maxHeartbeats 8000000 in
theorem RSample_yes (h : Ra w c s all al) (hk : Lk s all) (hI : Inv s) (hlen : all.length ≤ 79) (hok : okS s.now t b d u = true) :
    Calls Try.prog 23 #[.pointer (some ⟨c, 0, none⟩), .int .i64 t, .int .i64 b, .int .i64 d, .int .i64 u] w fun e w' => e = .returned (.int .i64 0) ∧
      ∃ al', Ra w' c (smp s t b d u) (all ++ [(t, d)]) al' ∧ Nx w w' c al nl al' nl := by
  have hi3 : (Try.prog.info? 75).map (fun i => (i.zero, i.size, i.bytes)) = some (some (.agg #[.int .i64 0, .int .i64 0]), 2, 16) := by kernel_rfl
  obtain ⟨i0, hi, hz0, hz1, hz2⟩ := info_parts hi3
  obtain ⟨o1, o2, o3, o4⟩ : wn t s.now 1000000000 = true ∧ wn b 0 1000000 = true ∧ wn d 0 4294967295 = true ∧ wn u 0 1000000 = true := by unfold okS at hok; simpa using hok
  obtain ⟨t1, t2⟩ := wn_in o1
  obtain ⟨b1, b2⟩ := wn_in o2
  obtain ⟨d1, d2⟩ := wn_in o3
  obtain ⟨u1, u2⟩ := wn_in o4
  have c4 := h.ctl.c4
  have f4 := h.ctl.fz 4
  have HT := Lib.hid (right_any t s.now 1000000000)
  have HB := Lib.hid (right_any b 0 1000000)
  have HD := Lib.hid (right_any d 0 4294967295)
  have HU := Lib.hid (right_any u 0 1000000)
  rw [o1] at HT
  rw [o2] at HB
  rw [o3] at HD
  rw [o4] at HU
  have hsmp : smp s t b d u = { s with now := t, limit := mvd s.target s.limit (qd (cpt (t / 60000) d s.bs) (trim 4 (s.zs ++ [d]))) b u, bs := cpt (t / 60000) d s.bs, zs := trim 4 (s.zs ++ [d]) } := by unfold smp; rw [hok]; rfl
  have hk2 := lk_snoc hk hI s.limit t1 t2 d1 (by omega : d < 4294967296)
  have hb1 : all.length + 1 ≤ maxLen := by unfold maxLen; omega
  have hb2 : (all.length + 1) * 16 ≤ 140737488355328 := by omega
  have hg0 := gb_set w c 4 (.int .i64 t)
  have hR0 : Ra (w.setCell ⟨c, 4, none⟩ (.int .i64 t)) c { s with now := t } all al := h.ctl' (s' := { s with now := t }) (h.ctl.set4 t) hg0
  have HG0 := Lib.hid (Nx.gb (ml := al) (fl := nl) hg0)
  rw [hsmp]
  clear hsmp hok o1 o2 o3 o4
  obtain ⟨w0, hw0⟩ : ∃ w0, w.setCell ⟨c, 4, none⟩ (.int .i64 t) = w0 := ⟨_, rfl⟩
  rw [hw0] at hR0 HG0
  have HW0 := Lib.hid hw0
  have k5 := hR0.ctl.c5
  have hclt := hR0.ctl.lt
  have hn := hR0.row.len
  have hrow1 : Row (w0.alloc (.cells #[.int .i64 t, .int .i64 d] 75)) 2 al all.length (bcs all) := hR0.row.kept (World.grownBy_alloc w0 _ none) (by simp)
  have hC1 : Rt (w0.alloc (.cells #[.int .i64 t, .int .i64 d] 75)) c s.at' s.hv s.target s.limit t al := hR0.ctl.kept (World.grownBy_alloc w0 _ none) (by simp)
  have hN1 : Nx w (w0.alloc (.cells #[.int .i64 t, .int .i64 d] 75)) c al nl al nl := HG0.out.trans (Nx.gbn (World.grownBy_alloc w0 _ none))
  have hoc := hR0.oc
  have HR0 := Lib.hid hR0
  have HK2 := Lib.hid hk2
  have HI := Lib.hid hI
  clear hw0 h hk hR0 hk2 hI
  go_enter Try.func23, Try.ntmps23
  go_wp2_with fail
  refine (HT.out _).mono ?_
  rintro e w1 ⟨rfl, rfl⟩
  go_wp2_with fail
  refine (HB.out _).mono ?_
  rintro e w1 ⟨rfl, rfl⟩
  go_wp2_with fail
  refine (HD.out _).mono ?_
  rintro e w1 ⟨rfl, rfl⟩
  go_wp2_with fail
  refine (HU.out _).mono ?_
  rintro e w1 ⟨rfl, rfl⟩
  clear HT HB HD HU
  have hw0 := HW0.out
  go_wp2_with (at_builtin; go_loud (refine wpList_append_row rfl _ _ 61 rfl 75 i0 (.agg #[.int .i64 0, .int .i64 0]) 2 16 Try.underlying61 hi hz0 hz1 hz2 rfl (by decide) al all.length (bcs all) rfl hrow1 ⟨w0.heap.size, 0, none⟩ 1 [.int .i64 t, .int .i64 d] rfl rfl (World.news_of_block (World.alloc_heap_new w0 _)) (by simp [Value.oneCell']) hb1 hb2 ?_; intro g off cap w2 hrow2 hgrow hat; have hC2 := hC1.kept hgrow (Ne.symm hoc); have e5 := hC2.c5; have g5 := hC2.fz 5))
  have hgc : g ≠ c := by
    rcases hat with h | h
    · rintro rfl; exact hoc h
    · simp at h; omega
  have hws : w.heap.size ≤ w0.heap.size := HG0.out.kb.size
  have hgo : al.ownBlock = some g ∨ w.heap.size ≤ g := hat.imp id (fun h => by simp at h; omega)
  have hC3 := hC2.set5 (.slice (some ⟨g, off, none⟩) (all.length + 1) cap)
  have hrow3 := hrow2.kept (gb_set w2 c 5 (.slice (some ⟨g, off, none⟩) (all.length + 1) cap)) (fun k h e => hgc (by simp [Value.ownBlock] at h; rw [h]; exact (Option.some.inj e).symm))
  have hN3 : Nx w (w2.setCell ⟨c, 5, none⟩ (.slice (some ⟨g, off, none⟩) (all.length + 1) cap)) c al nl (.slice (some ⟨g, off, none⟩) (all.length + 1) cap) nl := by
    refine ⟨?_, kb_trans (kb_trans hN1.kb (Kb.of hgrow (may := fun i => al.ownBlock = some i) (fun i _ h => h)) (fun i _ h => .inr (.inl h))) (Kb.of (gb_set w2 c 5 _) (may := fun i => i = c) (fun i _ h => (Option.some.inj h).symm)) (fun i _ h => .inl h)⟩
    rintro i (rfl | h6 | h6)
    · exact .inl (.inl rfl)
    · have : g = i := by simpa [Value.ownBlock] using h6
      subst this
      exact hgo.imp (fun h => .inr (.inl h)) id
    · cases h6
  generalize w2.setCell ⟨c, 5, none⟩ (.slice (some ⟨g, off, none⟩) (all.length + 1) cap) = w3 at hC3 hrow3 hN3 ⊢
  have hR3 : Ra w3 c { s with now := t, limit := s.limit, bs := cpt (t / 60000) d s.bs, zs := trim 4 (s.zs ++ [d]) } (all ++ [(t, d)]) (.slice (some ⟨g, off, none⟩) (all.length + 1) cap) :=
    ⟨hC3, by rw [List.length_append, bcs_append]; exact hrow3, by simpa [Value.ownBlock] using hgc⟩
  have HQ := Lib.hid (RQueueing_yes c _ _ _ w3 hR3 HK2.out (by simp; omega) (by simp))
  have hqe : qd (bsOf (all ++ [(t, d)])) (l4 (all ++ [(t, d)])) = qd (cpt (t / 60000) d s.bs) (trim 4 (s.zs ++ [d])) := by
    have e1 := HK2.out.bs
    have e2 := HK2.out.zs
    simp only at e1 e2
    rw [e1, e2]
  rw [hqe] at HQ
  have hqi := qd_in (cpt (t / 60000) d s.bs) (trim 4 (s.zs ++ [d]))
  have HR3 := Lib.hid hR3
  have HN3 := Lib.hid hN3
  have k2 := hC3.c2
  have k3 := hC3.c3
  have f3 := hC3.fz 3
  clear hrow2 hgrow hat hC2 e5 g5 hgo hC3 hrow3 hN3 hR3 hqe HR0 HK2 hN1 hC1 hrow1 hoc k5
  have ht1 := HI.out.t1
  have ht2 := HI.out.t2
  have hl1 := HI.out.l1
  have hl2 := HI.out.l2
  have HQ2 : Hid (∀ q, qd (cpt (t / 60000) d s.bs) (trim 4 (s.zs ++ [d])) = q → True) := Lib.hid (fun _ _ => trivial)
  obtain ⟨q, hq⟩ : ∃ q, qd (cpt (t / 60000) d s.bs) (trim 4 (s.zs ++ [d])) = q := ⟨_, rfl⟩
  rw [hq] at HQ hqi
  obtain ⟨q1, q2⟩ := hqi
  have HQE := Lib.hid hq
  clear hq HQ2
  obtain ⟨tg, htg⟩ : ∃ tg, s.target = tg := ⟨_, rfl⟩
  obtain ⟨lm, hlm⟩ : ∃ lm, s.limit = lm := ⟨_, rfl⟩
  rw [htg] at k2 ht1 ht2
  rw [hlm] at k3 hl1 hl2
  have HTG := Lib.hid htg
  have HLM := Lib.hid hlm
  clear htg hlm
  obtain ⟨p1, p2⟩ := off_in (q := q) ht1 ht2 q1
  obtain ⟨p3, p4⟩ := prod_in p1 p2 b1 b2
  obtain ⟨p5, p6⟩ := den_in ht1 ht2 hl1 hl2
  obtain ⟨p7, p8⟩ := quo_in p3 p4 p5
  have hw1 : IntKind.i64.wrap (-tg) = -tg := by rw [IntKind.wrap_i64]; omega
  have hw2 : IntKind.i64.wrap (tg - q) = tg - q := by rw [IntKind.wrap_i64]; omega
  have hm2 : (if tg - q < -tg then -tg else tg - q) = Fe.off tg q := by unfold Fe.off; split <;> omega
  have hdz : tg * lm ≠ 0 := by omega
  obtain ⟨of, hof⟩ : ∃ of, Fe.off tg q = of := ⟨_, rfl⟩
  have hch : chg tg lm q b = (3000 * of * b).tdiv (tg * lm) := by unfold chg; rw [hof]
  rw [hof] at p1 p2 p3 p4 p7 p8 hm2
  have hofc : (tg - q < -tg ∧ of = -tg) ∨ (-tg ≤ tg - q ∧ of = tg - q) := by unfold Fe.off at hof; omega
  have hw3 : IntKind.i64.wrap (3000 * of) = 3000 * of := by rw [IntKind.wrap_i64]; omega
  have hw4 : IntKind.i64.wrap (3000 * of * b) = 3000 * of * b := by rw [IntKind.wrap_i64]; omega
  have hw5 : IntKind.i64.wrap (tg * lm) = tg * lm := by rw [IntKind.wrap_i64]; omega
  obtain ⟨C, hC⟩ : ∃ C, (3000 * of * b).tdiv (tg * lm) = C := ⟨_, rfl⟩
  rw [hC] at hch p7 p8
  have hw6 : IntKind.i64.wrap ((3000 * of * b).tdiv (tg * lm)) = C := by rw [hC, IntKind.wrap_i64]; omega
  have hmv : mvd tg lm q b u = if 0 < C then (if 2 * u < lm then lm else bnd (lm + min C b)) else bnd (lm + C) := by unfold mvd; rw [hch]
  have HMV := Lib.hid hmv
  clear hof hch hmv
  refine HQ.out.mono ?_
  rintro e w4 ⟨rfl, hb4⟩
  have hc3l : c < w3.heap.size := HR3.out.ctl.lt
  have m2 := (hb4.cell (p := ⟨c, 2, none⟩) hc3l).trans k2
  have m3 := (hb4.cell (p := ⟨c, 3, none⟩) hc3l).trans k3
  have n3 := (hb4.frozen (p := ⟨c, 3, none⟩) hc3l).trans f3
  have HF : Hid (∀ (k : Nat) (X : Int), mvd tg lm q b u = X → Ra ((w4.drewN k).setCell ⟨c, 3, none⟩ (.int .i64 X)) c { s with now := t, limit := mvd s.target s.limit (qd (cpt (t / 60000) d s.bs) (trim 4 (s.zs ++ [d]))) b u, bs := cpt (t / 60000) d s.bs, zs := trim 4 (s.zs ++ [d]) } (all ++ [(t, d)]) (.slice (some ⟨g, off, none⟩) (all.length + 1) cap) ∧
      Nx w ((w4.drewN k).setCell ⟨c, 3, none⟩ (.int .i64 X)) c al nl (.slice (some ⟨g, off, none⟩) (all.length + 1) cap) nl) := Lib.hid (fun k X hX => by
    have hg4 : w3.grownBy (w4.drewN k) none := gb_trans (gb_below hb4 none) (gb_drew w4 k none)
    have hRz := HR3.out.quiet hg4
    have e : mvd s.target s.limit (qd (cpt (t / 60000) d s.bs) (trim 4 (s.zs ++ [d]))) b u = X := by rw [HQE.out, HTG.out, HLM.out]; exact hX
    rw [e]
    exact ⟨hRz.ctl' (s' := { s with now := t, limit := X, bs := cpt (t / 60000) d s.bs, zs := trim 4 (s.zs ++ [d]) }) (hRz.ctl.set3 X) (gb_set _ c 3 _), HN3.out.trans ((Nx.gbn hg4).trans (Nx.gb (gb_set _ c 3 _)))⟩)
  clear hb4 k2 k3 f3 HQ HR3 HN3 HQE HTG HLM
  go_wp2_with fail
  rcases hofc with ⟨h1, h2⟩ | ⟨h1, h2⟩
  · clear hw1 hm2
    have hw1 : IntKind.i64.wrap (-tg) = of := by rw [h2, IntKind.wrap_i64]; omega
    have h3 : tg - q < of := by omega
    have H2 := Lib.hid h2
    clear h1 h2
    go_quiet (fail)
    go_wp2_with fail
    go_quiet (fail)
    clear hC hw1 hw2 hw3 hw4 hw5 hw6
    go_wp2_with fail
    all_goals
      go_ret
      refine ⟨rfl, _, (HF.out _ _ ?_).1, (HF.out _ _ ?_).2⟩
    all_goals
      rw [HMV.out]
      unfold bnd
      (repeat' split) <;> omega
  · clear hw2 hm2
    have hw2 : IntKind.i64.wrap (tg - q) = of := by rw [h2, IntKind.wrap_i64]; omega
    have h3 : -tg ≤ of := by omega
    have H2 := Lib.hid h2
    clear h1 h2
    go_quiet (fail)
    go_wp2_with fail
    go_quiet (fail)
    clear hC hw1 hw2 hw3 hw4 hw5 hw6
    go_wp2_with fail
    all_goals
      go_ret
      refine ⟨rfl, _, (HF.out _ _ ?_).1, (HF.out _ _ ?_).2⟩
    all_goals
      rw [HMV.out]
      unfold bnd
      (repeat' split) <;> omega
end
end Go.Proofs.Ythjhbceepkoifaa.Fv
