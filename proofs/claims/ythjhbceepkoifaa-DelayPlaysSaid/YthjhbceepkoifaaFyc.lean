/-
  DelayPlays: the walk.
-/
import Derived.Test.YthjhbceepkoifaaFyb
namespace Go.Proofs.Ythjhbceepkoifaa.Fy
open Go Go.RowKit Go.Proofs.Ythjhbceepkoifaa.Ec Go.Proofs.Ythjhbceepkoifaa.Ee Go.Proofs.Ythjhbceepkoifaa.Rg Go.Proofs.Ythjhbceepkoifaa.Fa Go.Proofs.Ythjhbceepkoifaa.Fb Go.Proofs.Ythjhbceepkoifaa.Fc Go.Proofs.Ythjhbceepkoifaa.Fd Go.Proofs.Ythjhbceepkoifaa.Fe Go.Proofs.Ythjhbceepkoifaa.Fg Go.Proofs.Ythjhbceepkoifaa.Fh Go.Proofs.Ythjhbceepkoifaa.Fi Go.Proofs.Ythjhbceepkoifaa.Fj Go.Proofs.Ythjhbceepkoifaa.Fk Go.Proofs.Ythjhbceepkoifaa.Fl Go.Proofs.Ythjhbceepkoifaa.Fq Go.Proofs.Ythjhbceepkoifaa.Fr Go.Proofs.Ythjhbceepkoifaa.Fs Go.Proofs.Ythjhbceepkoifaa.Ft Go.Proofs.Ythjhbceepkoifaa.Fu Go.Proofs.Ythjhbceepkoifaa.Fv Go.Proofs.Ythjhbceepkoifaa.Fw

/-- what a round of the law has -/
structure RP (w wr : World) (c1 c2 : Nat) (k : Nat) (t' : Int) (s : St) (all : List (Int × Int)) (m1 f1 al : Value) : Prop where
  t0 : 0 ≤ t'
  t1 : t' ≤ k * 1000000
  inv : Inv s
  lk : Lk s all
  len : all.length ≤ k
  bo : Bo w wr c1 c2 s all m1 f1 al

set_option maxRecDepth 100000 in
set_option maxHeartbeats 8000000 in
theorem plays_any (target : Int) (a : Option Addr) (len cap : Nat) (w : World) (hR : Sr.Cells w a len 6) :
    Calls Try.prog 3 #[.int .i64 target, .slice a len cap] w fun e w' => e = .returned (.bool true) ∧ Below w.heap.size w w' := by
  have HL := Lib.hid (Fx.light_any a len cap w hR)
  have HR := Lib.hid hR
  clear hR
  go_enter Try.func3, Try.ntmps3
  go_wp2_with fail
  refine HL.out.mono ?_
  rintro e w1 ⟨hB1, rfl | ⟨rfl, hlen, hlat⟩⟩
  · go_wp2_with fail
    refine (awake_any _).mono ?_
    rintro e w2 ⟨rfl, hb2⟩
    go_wp2
    go_ret
    exact ⟨rfl, Hz.blw hB1 hb2⟩
  · have HLat := Lib.hid hlat
    clear hlat HL
    have htg := wn_or target 1 1000
    rcases htg with htg | htg
    · obtain ⟨hg1, hg2⟩ := wn_in htg
      have HI0 := Lib.hid (new0_inv htg)
      go_wp2_with fail
      refine (New_yes target w1 htg).mono ?_
      rintro e w2 ⟨rfl, hri, hb2⟩
      have HB2 := Lib.hid (Hz.blw hB1 hb2)
      have HRi := Lib.hid hri
      have hc1 : w.heap.size ≤ w1.heap.size + 3 := by have := hB1.size; omega
      clear hri htg hb2 hB1
      obtain ⟨c1, hcc⟩ : ∃ c, w1.heap.size + 3 = c := ⟨_, rfl⟩
      rw [hcc] at HRi hc1 ⊢
      clear hcc
      go_wp2_with fail
      refine (RNew_yes target w2 hg1 hg2).mono ?_
      rintro e w3 ⟨rfl, hra, hb3⟩
      have hc1l : c1 < w2.heap.size := HRi.out.ctl.lt
      have hBo : Bo w w3 c1 w2.heap.size (new0 target) [] (.slice none 0 0) (.slice none 0 0) nl := by
        refine ⟨HRi.out.below hb3, hra, fun i h1 h2 => ?_, fun i h1 => ?_, fun i h1 => ?_, Hz.blw HB2.out hb3⟩
        · simp [Bl, Value.ownBlock] at h1 h2; omega
        · simp [Bl, Value.ownBlock] at h1; omega
        · simp [Bl, Value.ownBlock] at h1; have := HB2.out.size; omega
      have HBo := Lib.hid hBo
      have HLk : Hid (Lk (new0 target) []) := Lib.hid ⟨fun q hq => (by cases hq), rfl, rfl, fun q hq => (by cases hq), fun p hp => (by cases hp), fun p hp => (by cases hp)⟩
      clear hBo hra hb3 hc1l hc1
      obtain ⟨c2, hcc⟩ : ∃ c, w2.heap.size = c := ⟨_, rfl⟩
      rw [hcc] at HBo ⊢
      clear hcc HRi HB2
      go_wp2_with fail
      go_loopw [9, 11, 45] (fun t _ i wr => ∃ (k : Nat) (t' : Int) (s : St) (all : List (Int × Int)) (m1 f1 al : Value), k ≤ len ∧ i = .int .i64 k ∧ t = .int .i64 t' ∧ RP w wr c1 c2 k t' s all m1 f1 al) (fun _ _ i _ => len - (intOf i).toNat)
      case atStart => exact ⟨0, 0, new0 target, [], _, _, _, Nat.zero_le _, rfl, rfl, ⟨Int.le_refl _, by simp, HI0.out, HLk.out, Nat.le_refl _, HBo.out⟩⟩
      case round =>
        obtain ⟨k, t', s, all, m1, f1, al, hk, rfl, rfl, hY⟩ := hrel
        have hBw := hY.bo.be.size
        have ht0 := hY.t0
        have ht1 := hY.t1
        by_cases hlt : k < len
        · obtain ⟨b, off, ha, hb, hcell⟩ := HR.out.2 (by omega)
          subst ha
          obtain ⟨z0, w0', e0⟩ := hcell (k * 6 + 0) (by omega)
          have d0 : wr.cell? ⟨b, off + k * 6, none⟩ = some (.int .i64 z0) := (hY.bo.be.cell (p := ⟨b, off + (k * 6 + 0), none⟩) hb).trans e0
          obtain ⟨z1, w1', e1⟩ := hcell (k * 6 + 1) (by omega)
          have d1 : wr.cell? ⟨b, off + k * 6 + 1, none⟩ = some (.int .i64 z1) := (hY.bo.be.cell (p := ⟨b, off + (k * 6 + 1), none⟩) hb).trans e1
          obtain ⟨z2, w2', e2⟩ := hcell (k * 6 + 2) (by omega)
          have d2 : wr.cell? ⟨b, off + k * 6 + 2, none⟩ = some (.int .i64 z2) := (hY.bo.be.cell (p := ⟨b, off + (k * 6 + 2), none⟩) hb).trans e2
          obtain ⟨z3, w3', e3⟩ := hcell (k * 6 + 3) (by omega)
          have d3 : wr.cell? ⟨b, off + k * 6 + 3, none⟩ = some (.int .i64 z3) := (hY.bo.be.cell (p := ⟨b, off + (k * 6 + 3), none⟩) hb).trans e3
          obtain ⟨z4, w4', e4⟩ := hcell (k * 6 + 4) (by omega)
          have d4 : wr.cell? ⟨b, off + k * 6 + 4, none⟩ = some (.int .i64 z4) := (hY.bo.be.cell (p := ⟨b, off + (k * 6 + 4), none⟩) hb).trans e4
          obtain ⟨z5, w5', e5⟩ := hcell (k * 6 + 5) (by omega)
          have d5 : wr.cell? ⟨b, off + k * 6 + 5, none⟩ = some (.int .i64 z5) := (hY.bo.be.cell (p := ⟨b, off + (k * 6 + 5), none⟩) hb).trans e5
          obtain ⟨hz1, hz2⟩ := HLat.out b off rfl k hlt z1 e1
          have hk80 : k < 80 := by omega
          obtain ⟨wa, hwa⟩ : ∃ wa, wr.alloc (.cells #[.int .i64 z0, .int .i64 z1, .int .i64 z2, .int .i64 z3, .int .i64 z4, .int .i64 z5] 33) = wa := ⟨_, rfl⟩
          have g0 : wr.grownBy wa none := by rw [← hwa]; exact World.grownBy_alloc _ _ _
          have y0 : wa.cell? ⟨wr.heap.size, 0, none⟩ = some (.int .i64 z0) := by rw [← hwa]; simp [go_sem]
          have y1 : wa.cell? ⟨wr.heap.size, 1, none⟩ = some (.int .i64 z1) := by rw [← hwa]; simp [go_sem]
          have y2 : wa.cell? ⟨wr.heap.size, 2, none⟩ = some (.int .i64 z2) := by rw [← hwa]; simp [go_sem]
          have y3 : wa.cell? ⟨wr.heap.size, 3, none⟩ = some (.int .i64 z3) := by rw [← hwa]; simp [go_sem]
          have y4 : wa.cell? ⟨wr.heap.size, 4, none⟩ = some (.int .i64 z4) := by rw [← hwa]; simp [go_sem]
          have y5 : wa.cell? ⟨wr.heap.size, 5, none⟩ = some (.int .i64 z5) := by rw [← hwa]; simp [go_sem]
          have hBa := hY.bo.quiet g0
          have x1 : Ce2 wa c1 c2 m1 f1 al wr.heap.size 1 (.int .i64 z1) := ⟨y1, fun hb => by have := rings_lt hY.bo.a _ hb; omega, fun hb => by have := hY.bo.b.lt _ hb; omega⟩
          obtain ⟨T, hT⟩ : ∃ T, t' + z1 = T := ⟨_, rfl⟩
          obtain ⟨all', hk', hlen', hD⟩ := do_any (T := T) (z0 := z0) (z1 := z1) (z2 := z2) (z3 := z3) (z4 := z4) (z5 := z5) hBa hY.inv hY.lk (by have := hY.len; omega)
          have hI' := act_inv (T := T) (z0 := z0) (z2 := z2) (z3 := z3) (z4 := z4) (z5 := z5) hY.inv
          have hal : all'.length ≤ k + 1 := by have := hY.len; omega
          have HD := Lib.hid hD
          generalize act s T z0 z2 z3 z4 z5 = s' at HD hk' hI'
          have HK := Lib.hid hk'
          have HI := Lib.hid hI'
          have hl1 := hI'.l1
          have hl2 := hI'.l2
          have HAK : Hid (∀ W m f x, Bo w W c1 c2 s' all' m f x → Calls Try.prog 11 #[.pointer (some ⟨c1, 0, none⟩), .pointer (some ⟨c2, 0, none⟩)] W fun e w' => e = .returned (.bool true) ∧ Below W.heap.size W w') := Lib.hid (fun W m f x h => alike_any w W c1 c2 s' all' m f x h HI.out HK.out (by omega))
          have HLM : Hid (∀ W m f x, Bo w W c1 c2 s' all' m f x → Calls Try.prog 12 #[.pointer (some ⟨c1, 0, none⟩)] W fun e w' => e = .returned (.int .i64 s'.limit) ∧ W = w') := Lib.hid (fun W m f x h => Fk.Limit_any h.a)
          generalize s'.limit = lm at hl1 hl2 HLM
          have HX1 := Lib.hid x1
          have HWA := Lib.hid hwa
          clear e0 e1 e2 e3 e4 e5 g0 hcell hY hBa x1 hwa hD hk' hI' hlen'
          have hz : z1 < 0 ∨ 0 ≤ z1 := by omega
          go_wp2_with fail
          rw [HWA.out]
          go_wp2_with fail
          refine HD.out.mono ?_
          rintro e w4 ⟨rfl, m4, f4, al4, hBo4, hC4⟩
          have v1 := (hC4 _ _ _ HX1.out)
          have HBo4 := Lib.hid hBo4
          have HV1 := Lib.hid v1
          clear hBo4 hC4 v1 d0 d1 d2 d3 d4 d5 y0 y1 y2 y3 y4 y5
          go_wp2_with fail
          refine (HAK.out _ _ _ _ HBo4.out).mono ?_
          rintro e w5 ⟨rfl, hb5⟩
          have HBo5 := Lib.hid (HBo4.out.quiet (gb_below hb5 none))
          have v1 := (HV1.out.quiet (gb_below hb5 none)).cell
          clear hb5
          have hT2 := hT
          clear hT
          rcases hz with hz | hz
          all_goals
            go_wp2_with (go_at_call 12; refine (HLM.out _ _ _ _ HBo5.out).mono ?_; rintro e w6 ⟨rfl, rfl⟩)
            first
              | exact ⟨⟨k + 1, t', s', all', _, _, _, by omega, by go_num, rfl, ⟨by omega, by omega, HI.out, HK.out, hal, HBo5.out⟩⟩, by simp [intOf]; omega⟩
              | exact ⟨⟨k + 1, t' + z1, s', all', _, _, _, by omega, by go_num, rfl, ⟨by omega, by omega, HI.out, HK.out, hal, HBo5.out⟩⟩, by simp [intOf]; omega⟩
              | exact ⟨⟨k + 1, T, s', all', _, _, _, by omega, by go_num, rfl, ⟨by omega, by omega, HI.out, HK.out, hal, HBo5.out⟩⟩, by simp [intOf]; omega⟩
        · obtain rfl : k = len := by omega
          have HB := Lib.hid hY.bo.be
          clear hY
          go_wp2_with fail
          refine (awake_any _).mono ?_
          rintro e w7 ⟨rfl, hb7⟩
          go_wp2
          go_ret
          exact ⟨rfl, Hz.blw HB.out hb7⟩
    · have hto : target < 1 ∨ 1000 < target := by unfold wn at htg; simp at htg; omega
      go_wp2_with fail
      refine (New_no target w1 htg).mono ?_
      rintro e w2 ⟨rfl, hb2⟩
      have HB := Lib.hid (Hz.blw hB1 hb2)
      clear hB1 hb2 htg
      go_wp2_with fail
      refine (RNew_no target w2 hto).mono ?_
      rintro e w3 ⟨rfl, rfl⟩
      go_wp2_with fail
      refine (awake_any _).mono ?_
      rintro e w4 ⟨rfl, hb4⟩
      go_wp2
      go_ret
      exact ⟨rfl, Hz.blw HB.out hb4⟩
end Go.Proofs.Ythjhbceepkoifaa.Fy
