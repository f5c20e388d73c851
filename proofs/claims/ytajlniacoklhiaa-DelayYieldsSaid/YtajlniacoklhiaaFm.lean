/-
  DelayYields: the plain mathematics, and the walk.
-/
import Derived.Test.YtajlniacoklhiaaFl
import Derived.Test.YtajlniacoklhiaaFx
namespace Go.Proofs.Ytajlniacoklhiaa.Fm
open Go Go.RowKit Go.Proofs.Ytajlniacoklhiaa.Ec Go.Proofs.Ytajlniacoklhiaa.Ee Go.Proofs.Ytajlniacoklhiaa.Rg Go.Proofs.Ytajlniacoklhiaa.Fa Go.Proofs.Ytajlniacoklhiaa.Fb Go.Proofs.Ytajlniacoklhiaa.Fc Go.Proofs.Ytajlniacoklhiaa.Fd Go.Proofs.Ytajlniacoklhiaa.Fe Go.Proofs.Ytajlniacoklhiaa.Fg Go.Proofs.Ytajlniacoklhiaa.Fh Go.Proofs.Ytajlniacoklhiaa.Fi Go.Proofs.Ytajlniacoklhiaa.Fj Go.Proofs.Ytajlniacoklhiaa.Fk Go.Proofs.Ytajlniacoklhiaa.Fl

theorem chg_up {t l q b : Int} (h : t ≤ q) (ht : 1 ≤ t) (hl : 1500 ≤ l) (hb : 0 ≤ b) : chg t l q b ≤ 0 := by
  have ho : off t q ≤ 0 := by unfold off; omega
  have hn : 3000 * off t q * b ≤ 0 := Int.mul_nonpos_of_nonpos_of_nonneg (by omega) hb
  have hd : 0 < t * l := Int.mul_pos (by omega) (by omega)
  unfold chg
  rw [show 3000 * off t q * b = -(-(3000 * off t q * b)) by omega, Int.neg_tdiv]
  have := Int.tdiv_nonneg (a := -(3000 * off t q * b)) (b := t * l) (by omega) (by omega)
  omega
theorem chg_down {t l q b : Int} (h : q ≤ t) (ht : 1 ≤ t) (hl : 1500 ≤ l) (hb : 0 ≤ b) : 0 ≤ chg t l q b := by
  have ho : 0 ≤ off t q := by unfold off; omega
  have hn : 0 ≤ 3000 * off t q * b := Int.mul_nonneg (by omega) hb
  have hd : 0 < t * l := Int.mul_pos (by omega) (by omega)
  exact Int.tdiv_nonneg hn (by omega)
theorem mvd_up {t l q b u : Int} (h : t ≤ q) (ht : 1 ≤ t) (hl : 1500 ≤ l) (hl2 : l ≤ 1000000) (hb : 0 ≤ b) : mvd t l q b u ≤ l := by
  have := chg_up h ht hl hb
  unfold mvd bnd
  repeat' split
  all_goals omega
theorem mvd_down {t l q b u : Int} (h : q ≤ t) (ht : 1 ≤ t) (hl : 1500 ≤ l) (hl2 : l ≤ 1000000) (hb : 0 ≤ b) : l ≤ mvd t l q b u := by
  have := chg_down h ht hl hb
  unfold mvd bnd
  repeat' split
  all_goals omega

theorem los_now (s : St) (t tr : Int) (h : losOk s t tr = true) : (los s t tr).now = t := by
  unfold los; rw [h]; simp only [if_true]; split <;> rfl
theorem los_soon {s : St} {t tr : Int} (h : losOk s t tr = true) (hs : soon s t tr = true) : los s t tr = { s with now := t } := by unfold los; rw [h, hs]; rfl
theorem losOk_mk {s : St} {t tr : Int} (h : s.now ≤ t) (ht : t ≤ 1000000000) (h1 : 0 ≤ tr) (h2 : tr ≤ 60000) : losOk s t tr = true := by
  unfold losOk wn; simp; omega
theorem three {s : St} {t tr : Int} (h : s.now ≤ t) (ht : t ≤ 900000000) (h1 : 2 ≤ tr) (h2 : tr ≤ 60000) :
    losE s t tr = 0 ∧ losE (los s t tr) t tr = 0 ∧ losR (los s t tr) t tr = false ∧ losE (los (los s t tr) t tr) (t + (tr - 1)) tr = 0 ∧ (losR s t tr = true → losR (los (los s t tr) t tr) (t + (tr - 1)) tr = false) ∧ (los (los (los s t tr) t tr) (t + (tr - 1)) tr).now = t + (tr - 1) := by
  have k1 : losOk s t tr = true := losOk_mk h (by omega) (by omega) h2
  have n1 := los_now s t tr k1
  have k2 : losOk (los s t tr) t tr = true := losOk_mk (by omega) (by omega) (by omega) h2
  have n2 := los_now _ t tr k2
  have k3 : losOk (los (los s t tr) t tr) (t + (tr - 1)) tr = true := losOk_mk (by omega) (by omega) (by omega) h2
  have n3 := los_now _ _ tr k3
  have hs2 : soon (los s t tr) t tr = true := by
    unfold los; rw [k1]; simp only [if_true]
    split
    · rename_i hs; unfold soon at hs ⊢; exact hs
    · unfold soon; simp
  refine ⟨by unfold losE; rw [k1]; rfl, by unfold losE; rw [k2]; rfl, by unfold losR; rw [hs2]; simp, by unfold losE; rw [k3]; rfl, fun hr => ?_, n3⟩
  have hs1 : soon s t tr = false := by unfold losR at hr; rw [k1] at hr; simpa using hr
  have e2 : los (los s t tr) t tr = { los s t tr with now := t } := by
    exact los_soon k2 hs2
  unfold losR
  rw [e2]
  have hs3 : soon { los s t tr with now := t } (t + (tr - 1)) tr = true := by
    unfold los; rw [k1, hs1]
    unfold soon; simp; omega
  rw [hs3]; simp

/-- what a round of the law has -/
structure RY (w wr : World) (c : Nat) (target : Int) (k : Nat) (t' : Int) (s : St) (ml fl : Value) : Prop where
  t0 : 0 ≤ t'
  t1 : t' ≤ k * 1060000
  nw : s.now ≤ t'
  inv : Inv s
  tg : s.target = target
  ri : Ri wr c s ml fl
  ow : ∀ i, Bl c ml fl i → w.heap.size ≤ i
  be : Below w.heap.size w wr
theorem below_nx {w wr w1 : World} {c : Nat} {ml fl m1 f1 : Value} (hb : Below w.heap.size w wr) (ow : ∀ i, Bl c ml fl i → w.heap.size ≤ i) (n : Nx wr w1 c ml fl m1 f1) : Below w.heap.size w w1 ∧ ∀ i, Bl c m1 f1 i → w.heap.size ≤ i :=
  ⟨hb.trans ⟨n.kb.os, n.kb.tape, n.kb.output, n.kb.size, fun k hk => n.kb.block k (Nat.lt_of_lt_of_le hk hb.size) (fun h => by have := ow k h; omega)⟩, fun i hi => by
    rcases n.own i hi with h | h
    · exact ow i h
    · exact Nat.le_trans hb.size h⟩
theorem smp_target (s : St) (t b d u : Int) : (smp s t b d u).target = s.target := by unfold smp; split <;> rfl
theorem los_target (s : St) (t tr : Int) : (los s t tr).target = s.target := by
  unfold los; split
  · split <;> rfl
  · rfl
theorem smp_ok {s : St} {t b d u : Int} (hI : Inv s) (h : okS s.now t b d u = true) : (smp s t b d u).now = t ∧ queE (smp s t b d u) = 0 ∧ (s.target ≤ que (smp s t b d u) → (smp s t b d u).limit ≤ s.limit) ∧ (que (smp s t b d u) ≤ s.target → s.limit ≤ (smp s t b d u).limit) := by
  obtain ⟨_, o2, _, _⟩ : wn t s.now 1000000000 = true ∧ wn b 0 1000000 = true ∧ wn d 0 4294967295 = true ∧ wn u 0 1000000 = true := by unfold okS at h; simpa using h
  have hb := (wn_in o2).1
  have hz : trim 4 (s.zs ++ [d]) ≠ [] := trim_ne _ _ _ (by decide)
  unfold smp; rw [h]; simp only [if_true]
  refine ⟨trivial, if_neg hz, ?_, ?_⟩
  · rw [show que { s with now := t, limit := mvd s.target s.limit (qd (cpt (t / 60000) d s.bs) (trim 4 (s.zs ++ [d]))) b u, bs := cpt (t / 60000) d s.bs, zs := trim 4 (s.zs ++ [d]) } = qd (cpt (t / 60000) d s.bs) (trim 4 (s.zs ++ [d])) from if_neg hz]
    exact fun hq => mvd_up hq hI.t1 hI.l1 hI.l2 hb
  · rw [show que { s with now := t, limit := mvd s.target s.limit (qd (cpt (t / 60000) d s.bs) (trim 4 (s.zs ++ [d]))) b u, bs := cpt (t / 60000) d s.bs, zs := trim 4 (s.zs ++ [d]) } = qd (cpt (t / 60000) d s.bs) (trim 4 (s.zs ++ [d])) from if_neg hz]
    exact fun hq => mvd_down hq hI.t1 hI.l1 hI.l2 hb
theorem smp_no {s : St} {t b d u : Int} (h : okS s.now t b d u = false) : smp s t b d u = s := by unfold smp; rw [h]; rfl

set_option maxRecDepth 100000 in
set_option maxHeartbeats 8000000 in
theorem yields_any (target : Int) (htw : (Lit.int .i64 target).wf = true) (a : Option Addr) (len cap : Nat) (w : World) (hR : Sr.Cells w a len 6) :
    Calls Try.prog 4 #[.int .i64 target, .slice a len cap] w fun e w' => e = .returned (.bool true) ∧ Below w.heap.size w w' := by
  have HL := Lib.hid (Fx.light_any a len cap w hR)
  have HR := Lib.hid hR
  clear hR htw
  go_enter Try.func4, Try.ntmps4
  go_wp2_with fail
  refine HL.out.mono ?_
  rintro e w1 ⟨hB1, rfl | ⟨rfl, hlen, hlat⟩⟩
  · go_wp2_with fail
    refine (awake_any _).mono ?_
    rintro e w2 ⟨rfl, hb2⟩
    go_wp2
    go_ret
    exact ⟨rfl, Hz.blw hB1 hb2⟩
  · have HLat := Lib.hid hlat
    clear hlat HL
    have htg : wn target 1 1000 = true ∨ wn target 1 1000 = false := by cases wn target 1 1000 <;> simp
    rcases htg with htg | htg
    · obtain ⟨hg1, hg2⟩ := wn_in htg
      have HI0 := Lib.hid (new0_inv htg)
      go_wp2_with fail
      refine (New_yes target w1 htg).mono ?_
      rintro e w2 ⟨rfl, hri, hb2⟩
      have hc : w.heap.size ≤ w1.heap.size + 3 := by have := hB1.size; omega
      have HRi := Lib.hid hri
      have HB2 := Lib.hid (Hz.blw hB1 hb2)
      clear hri hb2 hB1 htg
      obtain ⟨c, hcc⟩ : ∃ c, w1.heap.size + 3 = c := ⟨_, rfl⟩
      rw [hcc] at HRi hc ⊢
      clear hcc
      go_wp2_with fail
      go_loopw [7, 9, 10, 11, 12, 13, 14, 15, 16, 17, 18, 33] (fun t _ _ _ _ _ _ _ _ _ _ i wr => ∃ (k : Nat) (t' : Int) (s : St) (ml fl : Value), k ≤ len ∧ i = .int .i64 k ∧ t = .int .i64 t' ∧ RY w wr c target k t' s ml fl) (fun _ _ _ _ _ _ _ _ _ _ _ i _ => len - (intOf i).toNat)
      case atStart => exact ⟨0, 0, new0 target, _, _, Nat.zero_le _, rfl, rfl, ⟨Int.le_refl _, by simp, Int.le_refl _, HI0.out, rfl, HRi.out, fun i hi => by simp [Bl, Value.ownBlock] at hi; omega, HB2.out⟩⟩
      case round =>
        obtain ⟨k, t', s, ml, fl, hk, rfl, rfl, hY⟩ := hrel
        have hBw := hY.be.size
        have ht0 := hY.t0
        have ht1 := hY.t1
        have hnw := hY.nw
        by_cases hlt : k < len
        · obtain ⟨b, off, ha, hb, hcell⟩ := HR.out.2 (by omega)
          subst ha
          obtain ⟨z0, w0', e0⟩ := hcell (k * 6 + 0) (by omega)
          have d0 : wr.cell? ⟨b, off + k * 6, none⟩ = some (.int .i64 z0) := (hY.be.cell (p := ⟨b, off + (k * 6 + 0), none⟩) hb).trans e0
          obtain ⟨z1, w1', e1⟩ := hcell (k * 6 + 1) (by omega)
          have d1 : wr.cell? ⟨b, off + k * 6 + 1, none⟩ = some (.int .i64 z1) := (hY.be.cell (p := ⟨b, off + (k * 6 + 1), none⟩) hb).trans e1
          obtain ⟨z2, w2', e2⟩ := hcell (k * 6 + 2) (by omega)
          have d2 : wr.cell? ⟨b, off + k * 6 + 2, none⟩ = some (.int .i64 z2) := (hY.be.cell (p := ⟨b, off + (k * 6 + 2), none⟩) hb).trans e2
          obtain ⟨z3, w3', e3⟩ := hcell (k * 6 + 3) (by omega)
          have d3 : wr.cell? ⟨b, off + k * 6 + 3, none⟩ = some (.int .i64 z3) := (hY.be.cell (p := ⟨b, off + (k * 6 + 3), none⟩) hb).trans e3
          obtain ⟨z4, w4', e4⟩ := hcell (k * 6 + 4) (by omega)
          have d4 : wr.cell? ⟨b, off + k * 6 + 4, none⟩ = some (.int .i64 z4) := (hY.be.cell (p := ⟨b, off + (k * 6 + 4), none⟩) hb).trans e4
          obtain ⟨z5, w5', e5⟩ := hcell (k * 6 + 5) (by omega)
          have d5 : wr.cell? ⟨b, off + k * 6 + 5, none⟩ = some (.int .i64 z5) := (hY.be.cell (p := ⟨b, off + (k * 6 + 5), none⟩) hb).trans e5
          obtain ⟨hz1, hz2⟩ := HLat.out b off rfl k hlt z1 e1
          have hk80 : k < 80 := by omega
          have g0 : wr.grownBy (wr.alloc (.cells #[.int .i64 z0, .int .i64 z1, .int .i64 z2, .int .i64 z3, .int .i64 z4, .int .i64 z5] 30)) none := World.grownBy_alloc _ _ _
          have n0 : Nx wr (wr.alloc (.cells #[.int .i64 z0, .int .i64 z1, .int .i64 z2, .int .i64 z3, .int .i64 z4, .int .i64 z5] 30)) c ml fl ml fl := Nx.gbn g0
          obtain ⟨wa, hwa⟩ : ∃ wa, wr.alloc (.cells #[.int .i64 z0, .int .i64 z1, .int .i64 z2, .int .i64 z3, .int .i64 z4, .int .i64 z5] 30) = wa := ⟨_, rfl⟩
          have hYri := hY.ri
          have x0 : Cel wa c ml fl wr.heap.size 0 (.int .i64 z0) := by rw [← hwa]; exact ⟨by simp [go_sem], fun hb => by have := rings_lt hYri _ hb; omega⟩
          have x2 : Cel wa c ml fl wr.heap.size 2 (.int .i64 z2) := by rw [← hwa]; exact ⟨by simp [go_sem], fun hb => by have := rings_lt hYri _ hb; omega⟩
          have x3 : Cel wa c ml fl wr.heap.size 3 (.int .i64 z3) := by rw [← hwa]; exact ⟨by simp [go_sem], fun hb => by have := rings_lt hYri _ hb; omega⟩
          have x4 : Cel wa c ml fl wr.heap.size 4 (.int .i64 z4) := by rw [← hwa]; exact ⟨by simp [go_sem], fun hb => by have := rings_lt hYri _ hb; omega⟩
          have x5 : Cel wa c ml fl wr.heap.size 5 (.int .i64 z5) := by rw [← hwa]; exact ⟨by simp [go_sem], fun hb => by have := rings_lt hYri _ hb; omega⟩
          have HX0 := Lib.hid x0
          have HX5 := Lib.hid x5
          rw [hwa] at n0
          have HN0 := Lib.hid n0
          have HRa : Hid (Ri wa c s ml fl) := Lib.hid (rings_kb hYri (Kb.of (hwa ▸ g0) (may := fun _ => False) (by simp)) (fun _ _ h => h))
          have HY := Lib.hid hY
          have HWA := Lib.hid hwa
          have y2 := Lib.hid x2.cell
          have y3 := Lib.hid x3.cell
          have y4 := Lib.hid x4.cell
          clear e0 e1 e2 e3 e4 e5 g0 n0 hcell hY hYri x0 x5 x2 x3 x4 hwa
          by_cases hneg : z1 < 0
          · go_wp2_with fail
            refine (awake_any _).mono ?_
            rintro e w2 ⟨rfl, hb2⟩
            go_wp2
            go_ret
            exact ⟨rfl, Hz.blw (Hz.blw_alloc HY.out.be) hb2⟩
          · go_wp2_with fail
            rw [HWA.out]
            clear HWA d0 d1 d2 d3 d4 d5
            refine (Limit_any HRa.out).mono ?_
            rintro e w3 ⟨rfl, rfl⟩
            have c2 := y2.out
            have c3 := y3.out
            have c4 := y4.out
            obtain ⟨T, hT⟩ : ∃ T, t' + z1 = T := ⟨_, rfl⟩
            have hT1 : T ≤ (k + 1 : Nat) * 1060000 - 60000 := by omega
            have hT2 : s.now ≤ T := by omega
            have hT3 : 0 ≤ T := by omega
            have hTm : T ≤ 84800000 := by omega
            rw [hT]
            have HT := Lib.hid hT
            clear hT
            have HI := Lib.hid HY.out.inv
            have HTG := Lib.hid HY.out.tg
            have hok : okS s.now T z2 z3 z4 = true ∨ okS s.now T z2 z3 z4 = false := by cases okS s.now T z2 z3 z4 <;> simp
            rcases hok with hok | hok
            · obtain ⟨q1, q2, q3, q4⟩ := smp_ok HI.out hok
              have hE : smpE s T z2 z3 z4 = 0 := by unfold smpE; rw [hok]; rfl
              have HS := Lib.hid (Sample_any HRa.out HI.out T z2 z3 z4)
              have HI1 := smp_inv HI.out T z2 z3 z4
              have htg1 := smp_target s T z2 z3 z4
              rw [hE] at HS
              rw [HTG.out] at q3 q4 htg1
              generalize smp s T z2 z3 z4 = s1 at HS q1 q2 q3 q4 HI1 htg1
              obtain ⟨l0, hl0⟩ : ∃ l0, s.limit = l0 := ⟨_, rfl⟩
              rw [hl0] at q3 q4 ⊢
              obtain ⟨qu, hqu⟩ : ∃ qu, que s1 = qu := ⟨_, rfl⟩
              rw [hqu] at q3 q4
              obtain ⟨l1, hl1⟩ : ∃ l1, s1.limit = l1 := ⟨_, rfl⟩
              rw [hl1] at q3 q4
              have HQU := Lib.hid hqu
              have HL1 := Lib.hid hl1
              have HQ1 := Lib.hid q1
              have HQ2 := Lib.hid q2
              have HTG1 := Lib.hid htg1
              have HI1' := Lib.hid HI1
              clear hqu hl1 hl0 q1 q2 htg1 HI1 hE hok
              go_wp2_with fail
              refine HS.out.mono ?_
              rintro e w4 ⟨rfl, ml4, fl4, hR4, n4⟩
              have x40 := (HX0.out.nx n4).cell
              have x45 := (HX5.out.nx n4).cell
              have HX5 := Lib.hid (HX5.out.nx n4)
              have HR4 := Lib.hid hR4
              have HN4 := Lib.hid (HN0.out.trans n4)
              clear hR4 n4 HS c2 c3 c4 y2 y3 y4 HX0 HRa
              go_wp2_with fail
              refine (Queueing_any HR4.out HI1'.out).mono ?_
              rintro e w5 ⟨rfl, hb5⟩
              rw [HQU.out, HQ2.out]
              have n5 : Nx w4 w5 c ml4 fl4 ml4 fl4 := Nx.gbn (gb_below hb5 none)
              have HR5 : Hid (Ri w5 c s1 ml4 fl4) := Lib.hid (HR4.out.below hb5)
              have y40 := Hz.kcell hb5 x40
              have y45 := Hz.kcell hb5 x45
              have HX5 := Lib.hid (HX5.out.nx n5)
              have HN5 := Lib.hid (HN4.out.trans n5)
              clear n5 hb5 HN4 HR4 x40 x45
              have hcase : (target ≤ qu ∧ l1 ≤ l0 ∧ (qu ≤ target → l0 ≤ l1)) ∨ (qu < target ∧ l0 ≤ l1) := by
                by_cases h : target ≤ qu
                · exact .inl ⟨h, q3 h, q4⟩
                · exact .inr ⟨by omega, q4 (by omega)⟩
              clear q3 q4
              have HLim : Hid (Calls Try.prog 12 #[.pointer (some ⟨c, 0, none⟩)] w5 fun e w' => e = .returned (.int .i64 l1) ∧ w5 = w') := Lib.hid (by have := Limit_any HR5.out; rwa [HL1.out] at this)
              obtain ⟨hb5, ho5⟩ := below_nx HY.out.be HY.out.ow HN5.out
              have HY5 : Hid (RY w w5 c target (k + 1) T s1 ml4 fl4) := Lib.hid ⟨hT3, by omega, by rw [HQ1.out]; exact Int.le_refl _, HI1'.out, HTG1.out, HR5.out, ho5, hb5⟩
              clear hb5 ho5
              have hcase2 : (target ≤ qu ∧ l1 ≤ l0 ∧ qu ≤ target ∧ l0 ≤ l1) ∨ (target ≤ qu ∧ l1 ≤ l0 ∧ target < qu) ∨ (qu < target ∧ l0 ≤ l1) := by
                rcases hcase with ⟨h1, h2, h3⟩ | ⟨h1, h2⟩
                · by_cases h4 : qu ≤ target
                  · exact .inl ⟨h1, h2, h4, h3 h4⟩
                  · exact .inr (.inl ⟨h1, h2, by omega⟩)
                · exact .inr (.inr ⟨h1, h2⟩)
              clear hcase
              have hkind : z0 ≠ 5 ∨ (z0 = 5 ∧ z5 ≤ 1) ∨ (z0 = 5 ∧ 60000 < z5) ∨ (z0 = 5 ∧ 1 < z5 ∧ z5 ≤ 60000) := by omega
              rcases hkind with hkd | ⟨hk5, hkd⟩ | ⟨hk5, hkd⟩ | ⟨hk5, hkd1, hkd2⟩
              · have hz : (z0 == 5) = false := by simpa using hkd
                clear hkd
                rcases hcase2 with ⟨v1, v2, v3, v4⟩ | ⟨v1, v2, v3⟩ | ⟨v1, v2⟩
                all_goals
                  go_wp2_with (go_at_call 12; refine HLim.out.mono ?_; rintro e w6 ⟨rfl, rfl⟩)
                  exact ⟨⟨k + 1, T, s1, ml4, fl4, by omega, by go_num, rfl, HY5.out⟩, by simp [intOf]; omega⟩
              · subst hk5
                rcases hcase2 with ⟨v1, v2, v3, v4⟩ | ⟨v1, v2, v3⟩ | ⟨v1, v2⟩
                all_goals
                  go_wp2_with (go_at_call 12; refine HLim.out.mono ?_; rintro e w6 ⟨rfl, rfl⟩)
                  exact ⟨⟨k + 1, T, s1, ml4, fl4, by omega, by go_num, rfl, HY5.out⟩, by simp [intOf]; omega⟩
              · subst hk5
                rcases hcase2 with ⟨v1, v2, v3, v4⟩ | ⟨v1, v2, v3⟩ | ⟨v1, v2⟩
                all_goals
                  go_wp2_with (go_at_call 12; refine HLim.out.mono ?_; rintro e w6 ⟨rfl, rfl⟩)
                  exact ⟨⟨k + 1, T, s1, ml4, fl4, by omega, by go_num, rfl, HY5.out⟩, by simp [intOf]; omega⟩
              · subst hk5
                obtain ⟨f1, f2, f3, f4, f5, f6⟩ := three (s := s1) (t := T) (tr := z5) (by rw [HQ1.out]; exact Int.le_refl _) (by omega) (by omega) (by omega)
                have HA1 := Lib.hid (Loss_any HR5.out HI1'.out T z5)
                have I2 := los_inv HI1'.out T z5
                have HA2 := Lib.hid (fun W ml fl (h : Ri W c (los s1 T z5) ml fl) => Loss_any h I2 T z5)
                have I3 := los_inv I2 T z5
                have HA3 := Lib.hid (fun W ml fl (h : Ri W c (los (los s1 T z5) T z5) ml fl) => Loss_any h I3 (T + (z5 - 1)) z5)
                have I4 := los_inv I3 (T + (z5 - 1)) z5
                have G4 : (los (los (los s1 T z5) T z5) (T + (z5 - 1)) z5).target = target := by rw [los_target, los_target, los_target]; exact HTG1.out
                rw [f1] at HA1
                simp only [f2, f3] at HA2
                simp only [f4] at HA3
                clear f1 f2 f3 f4
                generalize los (los (los s1 T z5) T z5) (T + (z5 - 1)) z5 = s4 at HA3 I4 G4 f6
                generalize losR (los (los s1 T z5) T z5) (T + (z5 - 1)) z5 = r3 at HA3 f5
                generalize los (los s1 T z5) T z5 = s3 at HA2 HA3 I3
                generalize los s1 T z5 = s2 at HA1 HA2 I2
                generalize losR s1 T z5 = r1 at HA1 f5
                have HI4 := Lib.hid I4
                have HG4 := Lib.hid G4
                have HF6 := Lib.hid f6
                clear I2 I3 I4 G4 f6
                have hr : (r1 = true ∧ r3 = false) ∨ (r1 = false ∧ r3 = true) ∨ (r1 = false ∧ r3 = false) := by
                  cases r1 <;> cases r3 <;> simp_all
                clear f5
                rcases hcase2 with ⟨v1, v2, v3, v4⟩ | ⟨v1, v2, v3⟩ | ⟨v1, v2⟩
                all_goals
                  rcases hr with ⟨rfl, rfl⟩ | ⟨rfl, rfl⟩ | ⟨rfl, rfl⟩
                  all_goals
                    go_wp2_with (go_at_call 12; refine HLim.out.mono ?_; rintro e w6 ⟨rfl, rfl⟩)
                    refine HA1.out.mono ?_
                    rintro e w7 ⟨rfl, ml7, fl7, hR7, n7⟩
                    have HX7 := Lib.hid (HX5.out.nx n7)
                    have c7 := HX7.out.cell
                    have HN7 := Lib.hid (HN5.out.trans n7)
                    have HR7 := Lib.hid hR7
                    clear y40 y45 n7 hR7
                    go_wp2_with fail
                    refine (HA2.out _ _ _ HR7.out).mono ?_
                    rintro e w8 ⟨rfl, ml8, fl8, hR8, n8⟩
                    have HX8 := Lib.hid (HX7.out.nx n8)
                    have c8 := HX8.out.cell
                    have HN8 := Lib.hid (HN7.out.trans n8)
                    have HR8 := Lib.hid hR8
                    clear c7 n8 hR8
                    go_wp2_with fail
                    refine (HA3.out _ _ _ HR8.out).mono ?_
                    rintro e w9 ⟨rfl, ml9, fl9, hR9, n9⟩
                    obtain ⟨hb9, ho9⟩ := below_nx HY.out.be HY.out.ow (HN8.out.trans n9)
                    have HY9 : Hid (RY w w9 c target (k + 1) (T + (z5 - 1)) s4 ml9 fl9) := Lib.hid ⟨by omega, by omega, by rw [HF6.out]; exact Int.le_refl _, HI4.out, HG4.out, hR9, ho9, hb9⟩
                    clear c8 n9 hR9 hb9 ho9
                    go_wp2_with fail
                    exact ⟨⟨k + 1, T + (z5 - 1), s4, ml9, fl9, by omega, by go_num, rfl, HY9.out⟩, by simp [intOf]; omega⟩
            · have hE : smpE s T z2 z3 z4 = 7 := by unfold smpE; rw [hok]; rfl
              have HS := Lib.hid (Sample_any HRa.out HI.out T z2 z3 z4)
              rw [hE, smp_no hok] at HS
              clear hE hok
              go_wp2_with fail
              refine HS.out.mono ?_
              rintro e w4 ⟨rfl, ml4, fl4, hR4, n4⟩
              obtain ⟨hb4, ho4⟩ := below_nx HY.out.be HY.out.ow (HN0.out.trans n4)
              have HY4 : Hid (RY w w4 c target (k + 1) T s ml4 fl4) := Lib.hid ⟨hT3, by omega, hT2, HI.out, HTG.out, hR4, ho4, hb4⟩
              clear hR4 n4 HS c2 c3 c4 hb4 ho4
              go_wp2_with fail
              exact ⟨⟨k + 1, T, s, ml4, fl4, by omega, by go_num, rfl, HY4.out⟩, by simp [intOf]; omega⟩
        · obtain rfl : k = len := by omega
          have HB := Lib.hid hY.be
          clear hY
          go_wp2_with fail
          refine (awake_any _).mono ?_
          rintro e w7 ⟨rfl, hb7⟩
          go_wp2
          go_ret
          exact ⟨rfl, Hz.blw HB.out hb7⟩
    · go_wp2_with fail
      refine (New_no target w1 htg).mono ?_
      rintro e w2 ⟨rfl, hb2⟩
      have HB := Lib.hid (Hz.blw hB1 hb2)
      clear hB1 hb2 htg
      go_wp2_with fail
      refine (awake_any _).mono ?_
      rintro e w3 ⟨rfl, hb3⟩
      go_wp2
      go_ret
      exact ⟨rfl, Hz.blw HB.out hb3⟩

end Go.Proofs.Ytajlniacoklhiaa.Fm
