/-
  DelayShifts: the walk.
-/
import Derived.Test.YtajlniacoklhiaaFn
import Derived.Deep.RegionHeld3
namespace Go.Proofs.Ytajlniacoklhiaa.Fo
open Go Go.RowKit Go.Proofs.Ytajlniacoklhiaa.Ec Go.Proofs.Ytajlniacoklhiaa.Ee Go.Proofs.Ytajlniacoklhiaa.Rg Go.Proofs.Ytajlniacoklhiaa.Fa Go.Proofs.Ytajlniacoklhiaa.Fb Go.Proofs.Ytajlniacoklhiaa.Fc Go.Proofs.Ytajlniacoklhiaa.Fd Go.Proofs.Ytajlniacoklhiaa.Fe Go.Proofs.Ytajlniacoklhiaa.Fg Go.Proofs.Ytajlniacoklhiaa.Fh Go.Proofs.Ytajlniacoklhiaa.Fi Go.Proofs.Ytajlniacoklhiaa.Fj Go.Proofs.Ytajlniacoklhiaa.Fk Go.Proofs.Ytajlniacoklhiaa.Fl Go.Proofs.Ytajlniacoklhiaa.Fn

/-- two controls in memory that share nothing, both behind w -/
structure Two (w wr : World) (c1 c2 : Nat) (s1 s2 : St) (m1 f1 m2 f2 : Value) : Prop where
  a : Ri wr c1 s1 m1 f1
  b : Ri wr c2 s2 m2 f2
  dis : ∀ i, Bl c1 m1 f1 i → ¬ Bl c2 m2 f2 i
  oa : ∀ i, Bl c1 m1 f1 i → w.heap.size ≤ i
  ob : ∀ i, Bl c2 m2 f2 i → w.heap.size ≤ i
  be : Below w.heap.size w wr
section
variable {w wr w1 : World} {c1 c2 : Nat} {s1 s2 s' : St} {m1 f1 m2 f2 m f : Value}
theorem Two.quiet (h : Two w wr c1 c2 s1 s2 m1 f1 m2 f2) (hb : wr.grownBy w1 none) : Two w w1 c1 c2 s1 s2 m1 f1 m2 f2 :=
  ⟨rings_kb h.a (Kb.of hb (may := fun _ => False) (by simp)) (fun _ _ h => h), rings_kb h.b (Kb.of hb (may := fun _ => False) (by simp)) (fun _ _ h => h), h.dis, h.oa, h.ob,
    h.be.trans ⟨hb.os, hb.tape, hb.output, hb.size, fun k hk => hb.block k (Nat.lt_of_lt_of_le hk h.be.size) (by simp)⟩⟩
theorem Two.stepA (h : Two w wr c1 c2 s1 s2 m1 f1 m2 f2) (hR : Ri w1 c1 s' m f) (n : Nx wr w1 c1 m1 f1 m f) : Two w w1 c1 c2 s' s2 m f m2 f2 :=
  ⟨hR, rings_kb h.b n.kb (fun i hi k => h.dis i k hi), fun i hi hj => by
      rcases n.own i hi with h2 | h2
      · exact h.dis i h2 hj
      · have := rings_lt h.b i hj; omega,
    fun i hi => by
      rcases n.own i hi with h2 | h2
      · exact h.oa i h2
      · exact Nat.le_trans h.be.size h2,
    h.ob, h.be.trans ⟨n.kb.os, n.kb.tape, n.kb.output, n.kb.size, fun k hk => n.kb.block k (Nat.lt_of_lt_of_le hk h.be.size) (fun e => by have := h.oa k e; omega)⟩⟩
theorem Two.stepB (h : Two w wr c1 c2 s1 s2 m1 f1 m2 f2) (hR : Ri w1 c2 s' m f) (n : Nx wr w1 c2 m2 f2 m f) : Two w w1 c1 c2 s1 s' m1 f1 m f :=
  ⟨rings_kb h.a n.kb (fun i hi k => h.dis i hi k), hR, fun i hi hj => by
      rcases n.own i hj with h2 | h2
      · exact h.dis i hi h2
      · have := rings_lt h.a i hi; omega,
    h.oa, fun i hi => by
      rcases n.own i hi with h2 | h2
      · exact h.ob i h2
      · exact Nat.le_trans h.be.size h2,
    h.be.trans ⟨n.kb.os, n.kb.tape, n.kb.output, n.kb.size, fun k hk => n.kb.block k (Nat.lt_of_lt_of_le hk h.be.size) (fun e => by have := h.ob k e; omega)⟩⟩
/-- a cell that is of neither -/
structure Ce2 (W : World) (c1 c2 : Nat) (m1 f1 m2 f2 : Value) (p k : Nat) (v : Value) : Prop where
  cell : W.cell? ⟨p, k, none⟩ = some v
  na : ¬ Bl c1 m1 f1 p
  nb : ¬ Bl c2 m2 f2 p
theorem Ce2.quiet {p k : Nat} {v : Value} (h : Ce2 wr c1 c2 m1 f1 m2 f2 p k v) (hb : wr.grownBy w1 none) : Ce2 w1 c1 c2 m1 f1 m2 f2 p k v :=
  ⟨(World.cell?_of_block (a := ⟨p, k, none⟩) (hb.block p (World.block_lt_of_cell? _ _ h.cell) (by simp))).trans h.cell, h.na, h.nb⟩
theorem Ce2.stepA {p k : Nat} {v : Value} (h : Ce2 wr c1 c2 m1 f1 m2 f2 p k v) (n : Nx wr w1 c1 m1 f1 m f) : Ce2 w1 c1 c2 m f m2 f2 p k v :=
  have h1 := Cel.nx ⟨h.cell, h.na⟩ n
  ⟨h1.cell, h1.no, h.nb⟩
theorem Ce2.stepB {p k : Nat} {v : Value} (h : Ce2 wr c1 c2 m1 f1 m2 f2 p k v) (n : Nx wr w1 c2 m2 f2 m f) : Ce2 w1 c1 c2 m1 f1 m f p k v :=
  have h1 := Cel.nx ⟨h.cell, h.nb⟩ n
  ⟨h1.cell, h.na, h1.no⟩
end

/-- what a round of the law has -/
structure RS (w wr : World) (c1 c2 : Nat) (y : Int) (k : Nat) (t' : Int) (s : St) (m1 f1 m2 f2 : Value) : Prop where
  t0 : 0 ≤ t'
  t1 : t' ≤ k * 1000000
  inv : Inv s
  two : Two w wr c1 c2 s (shS y s) m1 f1 m2 f2

set_option maxRecDepth 100000 in
set_option maxHeartbeats 8000000 in
theorem shifts_any (target y : Int) (htw : (Lit.int .i64 target).wf = true) (hyw : (Lit.int .i64 y).wf = true) (a : Option Addr) (len cap : Nat) (w : World) (hR : Sr.Cells w a len 6) :
    Calls Try.prog 3 #[.int .i64 target, .int .i64 y, .slice a len cap] w fun e w' => e = .returned (.bool true) ∧ Below w.heap.size w w' := by
  have HL := Lib.hid (Fx.light_any a len cap w hR)
  have HR := Lib.hid hR
  have hy : (y < 0 ∨ 4294967296 ≤ y) ∨ (0 ≤ y ∧ y < 4294967296) := by omega
  clear hR htw hyw
  rcases hy with hy | ⟨hy1, hy2⟩
  · rcases hy with hy | hy
    all_goals
      go_enter Try.func3, Try.ntmps3
      go_wp2_with fail
      refine HL.out.mono ?_
      rintro e w1 ⟨hB1, rfl | ⟨rfl, hlen, hlat⟩⟩
      all_goals
        go_wp2_with fail
        refine (awake_any _).mono ?_
        rintro e w2 ⟨rfl, hb2⟩
        go_wp2
        go_ret
        exact ⟨rfl, Hz.blw hB1 hb2⟩
  · go_enter Try.func3, Try.ntmps3
    go_wp2_with fail
    refine HL.out.mono ?_
    rintro e w1 ⟨hB1, rfl | ⟨rfl, hlen, hlat⟩⟩
    · go_wp2_with fail
      refine (awake_any _).mono ?_
      rintro e w2 ⟨rfl, hb2⟩
      go_wp2
      go_ret
      exact ⟨rfl, Hz.blw hB1 hb2⟩
    · have HLat := Lib.hid hlat
      clear hlat HL
      have htg : wn target 1 1000 = true ∨ wn target 1 1000 = false := by cases wn target 1 1000 <;> simp
      rcases htg with htg | htg
      · have HI0 := Lib.hid (new0_inv htg)
        have HTG := Lib.hid htg
        go_wp2_with fail
        refine (New_yes target w1 htg).mono ?_
        rintro e w2 ⟨rfl, hri, hb2⟩
        have HB2 := Lib.hid (Hz.blw hB1 hb2)
        have HRi := Lib.hid hri
        have hc1 : w.heap.size ≤ w1.heap.size + 3 := by have := hB1.size; omega
        clear hri htg hb2 hB1
        obtain ⟨c1, hcc⟩ : ∃ c, w1.heap.size + 3 = c := ⟨_, rfl⟩
        rw [hcc] at HRi hc1 ⊢
        clear hcc
        go_wp2_with fail
        refine (New_yes target w2 HTG.out).mono ?_
        rintro e w3 ⟨rfl, hri2, hb3⟩
        have hc1l : c1 < w2.heap.size := HRi.out.ctl.lt
        have hTwo : Two w w3 c1 (w2.heap.size + 3) (new0 target) (shS y (new0 target)) (.slice none 0 0) (.slice none 0 0) (.slice none 0 0) (.slice none 0 0) := by
          refine ⟨HRi.out.below hb3, hri2, fun i h1 h2 => ?_, fun i h1 => ?_, fun i h1 => ?_, Hz.blw HB2.out hb3⟩
          · simp [Bl, Value.ownBlock] at h1 h2; omega
          · simp [Bl, Value.ownBlock] at h1; omega
          · simp [Bl, Value.ownBlock] at h1; have := HB2.out.size; omega
        have HTwo := Lib.hid hTwo
        clear hTwo hri2 hb3 hc1l hc1
        obtain ⟨c2, hcc⟩ : ∃ c, w2.heap.size + 3 = c := ⟨_, rfl⟩
        rw [hcc] at HTwo ⊢
        clear hcc HRi HB2
        go_wp2_with fail
        go_loopw [11, 13, 14, 15, 16, 17, 49] (fun t _ _ _ _ _ i wr => ∃ (k : Nat) (t' : Int) (s : St) (m1 f1 m2 f2 : Value), k ≤ len ∧ i = .int .i64 k ∧ t = .int .i64 t' ∧ RS w wr c1 c2 y k t' s m1 f1 m2 f2) (fun _ _ _ _ _ _ i _ => len - (intOf i).toNat)
        case atStart => exact ⟨0, 0, new0 target, _, _, _, _, Nat.zero_le _, rfl, rfl, ⟨Int.le_refl _, by simp, HI0.out, HTwo.out⟩⟩
        case round =>
          obtain ⟨k, t', s, m1, f1, m2, f2, hk, rfl, rfl, hY⟩ := hrel
          have hBw := hY.two.be.size
          have ht0 := hY.t0
          have ht1 := hY.t1
          by_cases hlt : k < len
          · obtain ⟨b, off, ha, hb, hcell⟩ := HR.out.2 (by omega)
            subst ha
            obtain ⟨z0, w0', e0⟩ := hcell (k * 6 + 0) (by omega)
            have d0 : wr.cell? ⟨b, off + k * 6, none⟩ = some (.int .i64 z0) := (hY.two.be.cell (p := ⟨b, off + (k * 6 + 0), none⟩) hb).trans e0
            obtain ⟨z1, w1', e1⟩ := hcell (k * 6 + 1) (by omega)
            have d1 : wr.cell? ⟨b, off + k * 6 + 1, none⟩ = some (.int .i64 z1) := (hY.two.be.cell (p := ⟨b, off + (k * 6 + 1), none⟩) hb).trans e1
            obtain ⟨z2, w2', e2⟩ := hcell (k * 6 + 2) (by omega)
            have d2 : wr.cell? ⟨b, off + k * 6 + 2, none⟩ = some (.int .i64 z2) := (hY.two.be.cell (p := ⟨b, off + (k * 6 + 2), none⟩) hb).trans e2
            obtain ⟨z3, w3', e3⟩ := hcell (k * 6 + 3) (by omega)
            have d3 : wr.cell? ⟨b, off + k * 6 + 3, none⟩ = some (.int .i64 z3) := (hY.two.be.cell (p := ⟨b, off + (k * 6 + 3), none⟩) hb).trans e3
            obtain ⟨z4, w4', e4⟩ := hcell (k * 6 + 4) (by omega)
            have d4 : wr.cell? ⟨b, off + k * 6 + 4, none⟩ = some (.int .i64 z4) := (hY.two.be.cell (p := ⟨b, off + (k * 6 + 4), none⟩) hb).trans e4
            obtain ⟨z5, w5', e5⟩ := hcell (k * 6 + 5) (by omega)
            have d5 : wr.cell? ⟨b, off + k * 6 + 5, none⟩ = some (.int .i64 z5) := (hY.two.be.cell (p := ⟨b, off + (k * 6 + 5), none⟩) hb).trans e5
            obtain ⟨hz1, hz2⟩ := HLat.out b off rfl k hlt z1 e1
            have hk80 : k < 80 := by omega
            have g0 : wr.grownBy (wr.alloc (.cells #[.int .i64 z0, .int .i64 z1, .int .i64 z2, .int .i64 z3, .int .i64 z4, .int .i64 z5] 30)) none := World.grownBy_alloc _ _ _
            obtain ⟨wa, hwa⟩ : ∃ wa, wr.alloc (.cells #[.int .i64 z0, .int .i64 z1, .int .i64 z2, .int .i64 z3, .int .i64 z4, .int .i64 z5] 30) = wa := ⟨_, rfl⟩
            have hTw := hY.two
            have x2 : Ce2 wa c1 c2 m1 f1 m2 f2 wr.heap.size 2 (.int .i64 z2) := by rw [← hwa]; exact ⟨by simp [go_sem], fun hb => by have := rings_lt hTw.a _ hb; omega, fun hb => by have := rings_lt hTw.b _ hb; omega⟩
            have HX2 := Lib.hid x2
            have x3 : Ce2 wa c1 c2 m1 f1 m2 f2 wr.heap.size 3 (.int .i64 z3) := by rw [← hwa]; exact ⟨by simp [go_sem], fun hb => by have := rings_lt hTw.a _ hb; omega, fun hb => by have := rings_lt hTw.b _ hb; omega⟩
            have HX3 := Lib.hid x3
            have x4 : Ce2 wa c1 c2 m1 f1 m2 f2 wr.heap.size 4 (.int .i64 z4) := by rw [← hwa]; exact ⟨by simp [go_sem], fun hb => by have := rings_lt hTw.a _ hb; omega, fun hb => by have := rings_lt hTw.b _ hb; omega⟩
            have HX4 := Lib.hid x4
            have x5 : Ce2 wa c1 c2 m1 f1 m2 f2 wr.heap.size 5 (.int .i64 z5) := by rw [← hwa]; exact ⟨by simp [go_sem], fun hb => by have := rings_lt hTw.a _ hb; omega, fun hb => by have := rings_lt hTw.b _ hb; omega⟩
            have HX5 := Lib.hid x5
            rw [hwa] at g0
            have HTa := Lib.hid (hTw.quiet g0)
            have HI := Lib.hid hY.inv
            have HBa := Lib.hid hTw.be
            have HWA := Lib.hid hwa
            clear e0 e1 e2 e3 e4 e5 g0 hcell hY hTw x2 x3 x4 x5 hwa
            have hbad : (z1 < 0 ∨ (0 ≤ z1 ∧ z3 < 0) ∨ (0 ≤ z1 ∧ 0 ≤ z3 ∧ 4294967296 ≤ z3)) ∨ (0 ≤ z1 ∧ 0 ≤ z3 ∧ z3 < 4294967296) := by omega
            rcases hbad with hbad | ⟨p1, p2, p3⟩
            · have HB := Lib.hid (Hz.blw_alloc HBa.out (o := .cells #[.int .i64 z0, .int .i64 z1, .int .i64 z2, .int .i64 z3, .int .i64 z4, .int .i64 z5] 30))
              clear HTa HI HBa HWA HX2 HX3 HX4 HX5
              rcases hbad with v1 | ⟨v1, v2⟩ | ⟨v1, v2, v3⟩
              all_goals
                go_wp2_with fail
                refine (awake_any _).mono ?_
                rintro e w2 ⟨rfl, hb2⟩
                go_wp2
                go_ret
                exact ⟨rfl, Hz.blw HB.out hb2⟩
            · obtain ⟨T, hT⟩ : ∃ T, t' + z1 = T := ⟨_, rfl⟩
              have hT1 : T ≤ (k + 1 : Nat) * 1000000 := by omega
              have hT3 : 0 ≤ T := by omega
              have hTm : T ≤ 80000000 := by omega
              -- the end of a round, for any state that both are in
              by_cases q5 : z0 = 5
              · subst q5
                have y5 := HX5.out.cell
                have HA := Lib.hid (Loss_any HTa.out.a HI.out T z5)
                have hI2 := los_inv HI.out T z5
                have HA2 := Lib.hid (fun W m f (h : Ri W c2 (shS y s) m f) => Loss_any h (inv_sh HI.out) T z5)
                rw [los_sh] at HA2
                generalize los s T z5 = s' at HA HA2 hI2
                have HI2 := Lib.hid hI2
                clear hI2
                have HLa : Hid (∀ W m f, Ri W c1 s' m f → Calls Try.prog 12 #[.pointer (some ⟨c1, 0, none⟩)] W fun e w' => e = .returned (.int .i64 s'.limit) ∧ W = w') := Lib.hid (fun W m f h => Limit_any h)
                have HLb : Hid (∀ W m f, Ri W c2 (shS y s') m f → Calls Try.prog 12 #[.pointer (some ⟨c2, 0, none⟩)] W fun e w' => e = .returned (.int .i64 s'.limit) ∧ W = w') := Lib.hid (fun W m f h => Limit_any (s := shS y s') h)
                have HQa : Hid (∀ W m f, Ri W c1 s' m f → Calls Try.prog 11 #[.pointer (some ⟨c1, 0, none⟩)] W fun e w' => e = .returned (.tuple #[.int .i64 (que s'), .int .i64 (queE s')]) ∧ Below W.heap.size W w') := Lib.hid (fun W m f h => Queueing_any h HI2.out)
                have HQb : Hid (∀ W m f, Ri W c2 (shS y s') m f → Calls Try.prog 11 #[.pointer (some ⟨c2, 0, none⟩)] W fun e w' => e = .returned (.tuple #[.int .i64 (que s'), .int .i64 (queE s')]) ∧ Below W.heap.size W w') := Lib.hid (fun W m f h => by have := Queueing_any h (inv_sh HI2.out); rwa [(que_sh HI2.out).1, (que_sh HI2.out).2] at this)
                generalize s'.limit = l at HLa HLb
                generalize que s' = qu at HQa HQb
                generalize queE s' = qe at HQa HQb
                go_wp2_with fail
                rw [HWA.out]
                clear HWA d0 d1 d2 d3 d4 d5
                refine HA.out.mono ?_
                rintro e w4 ⟨rfl, m4, f4, hR4, n4⟩
                have HT4 := Lib.hid (HTa.out.stepA hR4 n4)
                have y5 := (HX5.out.stepA n4).cell
                clear hR4 n4
                go_wp2_with fail
                refine (HA2.out _ _ _ HT4.out.b).mono ?_
                rintro e w5 ⟨rfl, m5, f5, hR5, n5⟩
                have HTz := Lib.hid (HT4.out.stepB hR5 n5)
                clear hR5 n5 y5
                go_wp2_with fail
                refine (HQa.out _ _ _ HTz.out.a).mono ?_
                rintro e w6 ⟨rfl, hb6⟩
                have HT6 := Lib.hid (HTz.out.quiet (gb_below hb6 none))
                clear hb6
                go_wp2_with fail
                refine (HQb.out _ _ _ HT6.out.b).mono ?_
                rintro e w7 ⟨rfl, hb7⟩
                have HT7 := Lib.hid (HT6.out.quiet (gb_below hb7 none))
                clear hb7
                go_wp2_with (first
                  | (go_at_call_of 12 (Value.pointer (some (Addr.mk c1 0 none))); refine (HLa.out _ _ _ HT7.out.a).mono ?_; rintro e w8 ⟨rfl, rfl⟩)
                  | (go_at_call_of 12 (Value.pointer (some (Addr.mk c2 0 none))); refine (HLb.out _ _ _ HT7.out.b).mono ?_; rintro e w8 ⟨rfl, rfl⟩))
                exact ⟨⟨k + 1, T, s', _, _, _, _, by omega, by go_num, rfl, ⟨hT3, by omega, HI2.out, HT7.out⟩⟩, by simp [intOf]; omega⟩
              · by_cases q6 : z0 = 6
                · subst q6
                  have HA := Lib.hid (Out_any HTa.out.a HI.out T)
                  have hI2 := out_inv HI.out T
                  have HA2 := Lib.hid (fun W m f (h : Ri W c2 (shS y s) m f) => Out_any h (inv_sh HI.out) T)
                  rw [out_sh] at HA2
                  generalize out' s T = s' at HA HA2 hI2
                  have HI2 := Lib.hid hI2
                  clear hI2
                  have HLa : Hid (∀ W m f, Ri W c1 s' m f → Calls Try.prog 12 #[.pointer (some ⟨c1, 0, none⟩)] W fun e w' => e = .returned (.int .i64 s'.limit) ∧ W = w') := Lib.hid (fun W m f h => Limit_any h)
                  have HLb : Hid (∀ W m f, Ri W c2 (shS y s') m f → Calls Try.prog 12 #[.pointer (some ⟨c2, 0, none⟩)] W fun e w' => e = .returned (.int .i64 s'.limit) ∧ W = w') := Lib.hid (fun W m f h => Limit_any (s := shS y s') h)
                  have HQa : Hid (∀ W m f, Ri W c1 s' m f → Calls Try.prog 11 #[.pointer (some ⟨c1, 0, none⟩)] W fun e w' => e = .returned (.tuple #[.int .i64 (que s'), .int .i64 (queE s')]) ∧ Below W.heap.size W w') := Lib.hid (fun W m f h => Queueing_any h HI2.out)
                  have HQb : Hid (∀ W m f, Ri W c2 (shS y s') m f → Calls Try.prog 11 #[.pointer (some ⟨c2, 0, none⟩)] W fun e w' => e = .returned (.tuple #[.int .i64 (que s'), .int .i64 (queE s')]) ∧ Below W.heap.size W w') := Lib.hid (fun W m f h => by have := Queueing_any h (inv_sh HI2.out); rwa [(que_sh HI2.out).1, (que_sh HI2.out).2] at this)
                  generalize s'.limit = l at HLa HLb
                  generalize que s' = qu at HQa HQb
                  generalize queE s' = qe at HQa HQb
                  go_wp2_with fail
                  rw [HWA.out]
                  clear HWA d0 d1 d2 d3 d4 d5
                  refine HA.out.mono ?_
                  rintro e w4 ⟨rfl, m4, f4, hR4, n4⟩
                  have HT4 := Lib.hid (HTa.out.stepA hR4 n4)
                  clear hR4 n4
                  go_wp2_with fail
                  refine (HA2.out _ _ _ HT4.out.b).mono ?_
                  rintro e w5 ⟨rfl, m5, f5, hR5, n5⟩
                  have HTz := Lib.hid (HT4.out.stepB hR5 n5)
                  clear hR5 n5
                  go_wp2_with fail
                  refine (HQa.out _ _ _ HTz.out.a).mono ?_
                  rintro e w6 ⟨rfl, hb6⟩
                  have HT6 := Lib.hid (HTz.out.quiet (gb_below hb6 none))
                  clear hb6
                  go_wp2_with fail
                  refine (HQb.out _ _ _ HT6.out.b).mono ?_
                  rintro e w7 ⟨rfl, hb7⟩
                  have HT7 := Lib.hid (HT6.out.quiet (gb_below hb7 none))
                  clear hb7
                  go_wp2_with (first
                    | (go_at_call_of 12 (Value.pointer (some (Addr.mk c1 0 none))); refine (HLa.out _ _ _ HT7.out.a).mono ?_; rintro e w8 ⟨rfl, rfl⟩)
                    | (go_at_call_of 12 (Value.pointer (some (Addr.mk c2 0 none))); refine (HLb.out _ _ _ HT7.out.b).mono ?_; rintro e w8 ⟨rfl, rfl⟩))
                  exact ⟨⟨k + 1, T, s', _, _, _, _, by omega, by go_num, rfl, ⟨hT3, by omega, HI2.out, HT7.out⟩⟩, by simp [intOf]; omega⟩
                · have HA := Lib.hid (fun W m f (h : Ri W c1 s m f) => Sample_any h HI.out T z2 z3 z4)
                  have hI2 := smp_inv HI.out T z2 z3 z4
                  have HA2 := Lib.hid (fun W m f (h : Ri W c2 (shS y s) m f) => Sample_any h (inv_sh HI.out) T z2 (sh y z3) z4)
                  rw [smp_sh p2 p3, smpE_sh p2 p3] at HA2
                  generalize smp s T z2 z3 z4 = s' at HA HA2 hI2
                  generalize smpE s T z2 z3 z4 = se at HA HA2
                  have HI2 := Lib.hid hI2
                  clear hI2
                  have HLa : Hid (∀ W m f, Ri W c1 s' m f → Calls Try.prog 12 #[.pointer (some ⟨c1, 0, none⟩)] W fun e w' => e = .returned (.int .i64 s'.limit) ∧ W = w') := Lib.hid (fun W m f h => Limit_any h)
                  have HLb : Hid (∀ W m f, Ri W c2 (shS y s') m f → Calls Try.prog 12 #[.pointer (some ⟨c2, 0, none⟩)] W fun e w' => e = .returned (.int .i64 s'.limit) ∧ W = w') := Lib.hid (fun W m f h => Limit_any (s := shS y s') h)
                  have HQa : Hid (∀ W m f, Ri W c1 s' m f → Calls Try.prog 11 #[.pointer (some ⟨c1, 0, none⟩)] W fun e w' => e = .returned (.tuple #[.int .i64 (que s'), .int .i64 (queE s')]) ∧ Below W.heap.size W w') := Lib.hid (fun W m f h => Queueing_any h HI2.out)
                  have HQb : Hid (∀ W m f, Ri W c2 (shS y s') m f → Calls Try.prog 11 #[.pointer (some ⟨c2, 0, none⟩)] W fun e w' => e = .returned (.tuple #[.int .i64 (que s'), .int .i64 (queE s')]) ∧ Below W.heap.size W w') := Lib.hid (fun W m f h => by have := Queueing_any h (inv_sh HI2.out); rwa [(que_sh HI2.out).1, (que_sh HI2.out).2] at this)
                  generalize s'.limit = l at HLa HLb
                  generalize que s' = qu at HQa HQb
                  generalize queE s' = qe at HQa HQb
                  have y2 := HX2.out.cell
                  have y3 := HX3.out.cell
                  have y4 := HX4.out.cell
                  have hw : IntKind.i64.wrap (z3 + y) = z3 + y := by rw [IntKind.wrap_i64]; omega
                  have hm : (z3 + y).tmod 4294967296 = sh y z3 := by unfold sh; rw [Int.tmod_eq_emod_of_nonneg (by omega)]
                  go_wp2_with fail
                  rw [HWA.out]
                  clear HWA d0 d1 d2 d3 d4 d5
                  have HTd : Hid (Two w wa.drew c1 c2 s (shS y s) m1 f1 m2 f2) := Lib.hid (HTa.out.quiet (gb_drew wa 1 none))
                  have HX2d : Hid (Ce2 wa.drew c1 c2 m1 f1 m2 f2 wr.heap.size 2 (.int .i64 z2)) := Lib.hid (HX2.out.quiet (gb_drew wa 1 none))
                  have HX3d : Hid (Ce2 wa.drew c1 c2 m1 f1 m2 f2 wr.heap.size 3 (.int .i64 z3)) := Lib.hid (HX3.out.quiet (gb_drew wa 1 none))
                  have HX4d : Hid (Ce2 wa.drew c1 c2 m1 f1 m2 f2 wr.heap.size 4 (.int .i64 z4)) := Lib.hid (HX4.out.quiet (gb_drew wa 1 none))
                  go_region_held3 (fun w' => w'.cell? ⟨wr.heap.size, 2, none⟩ = some (.int .i64 z2) ∧ w'.cell? ⟨wr.heap.size, 3, none⟩ = some (.int .i64 z3) ∧ w'.cell? ⟨wr.heap.size, 4, none⟩ = some (.int .i64 z4))
                    (first
                      | exact ⟨u2, u3, u4⟩
                      | exact ⟨v2, v3, v4⟩
                      | exact ⟨HX2d.out.cell, HX3d.out.cell, HX4d.out.cell⟩)
                    (first
                      | (go_at_call_of 10 (Value.pointer (some (Addr.mk c1 0 none)))
                         refine (HA.out _ _ _ HTd.out.a).mono ?_
                         rintro e wq ⟨rfl, m4, f4, hR4, n4⟩
                         have HT4 := Lib.hid (HTd.out.stepA hR4 n4)
                         have v2 := (HX2d.out.stepA n4).cell
                         have v3 := (HX3d.out.stepA n4).cell
                         have v4 := (HX4d.out.stepA n4).cell
                         have HV2 := Lib.hid (HX2d.out.stepA n4)
                         have HV3 := Lib.hid (HX3d.out.stepA n4)
                         have HV4 := Lib.hid (HX4d.out.stepA n4))
                      | (go_at_call_of 10 (Value.pointer (some (Addr.mk c2 0 none)))
                         refine (HA2.out _ _ _ HT4.out.b).mono ?_
                         rintro e wz ⟨rfl, m5, f5, hR5, n5⟩
                         have HTz := Lib.hid (HT4.out.stepB hR5 n5)
                         have u2 := (HV2.out.stepB n5).cell
                         have u3 := (HV3.out.stepB n5).cell
                         have u4 := (HV4.out.stepB n5).cell))
                  all_goals
                    clear y2 y3 y4 v2 v3 v4 u2 u3 u4 hR4 n4 hR5 n5 hw hm
                    go_wp2_with fail
                    refine (HQa.out _ _ _ HTz.out.a).mono ?_
                    rintro e w6 ⟨rfl, hb6⟩
                    have HT6 := Lib.hid (HTz.out.quiet (gb_below hb6 none))
                    clear hb6
                    go_wp2_with fail
                    refine (HQb.out _ _ _ HT6.out.b).mono ?_
                    rintro e w7 ⟨rfl, hb7⟩
                    have HT7 := Lib.hid (HT6.out.quiet (gb_below hb7 none))
                    clear hb7
                    go_wp2_with (first
                      | (go_at_call_of 12 (Value.pointer (some (Addr.mk c1 0 none))); refine (HLa.out _ _ _ HT7.out.a).mono ?_; rintro e w8 ⟨rfl, rfl⟩)
                      | (go_at_call_of 12 (Value.pointer (some (Addr.mk c2 0 none))); refine (HLb.out _ _ _ HT7.out.b).mono ?_; rintro e w8 ⟨rfl, rfl⟩))
                    exact ⟨⟨k + 1, T, s', _, _, _, _, by omega, by go_num, rfl, ⟨hT3, by omega, HI2.out, HT7.out⟩⟩, by simp [intOf]; omega⟩
          · obtain rfl : k = len := by omega
            have HB := Lib.hid hY.two.be
            clear hY
            go_wp2_with fail
            refine (awake_any _).mono ?_
            rintro e w7 ⟨rfl, hb7⟩
            go_wp2
            go_ret
            exact ⟨rfl, Hz.blw HB.out hb7⟩
      · have HTG := Lib.hid htg
        go_wp2_with fail
        refine (New_no target w1 htg).mono ?_
        rintro e w2 ⟨rfl, hb2⟩
        have HB := Lib.hid (Hz.blw hB1 hb2)
        clear hB1 hb2 htg
        go_wp2_with fail
        refine (New_no target w2 HTG.out).mono ?_
        rintro e w3 ⟨rfl, hb3⟩
        have HB3 := Lib.hid (Hz.blw HB.out hb3)
        clear hb3
        go_wp2_with fail
        refine (awake_any _).mono ?_
        rintro e w4 ⟨rfl, hb4⟩
        go_wp2
        go_ret
        exact ⟨rfl, Hz.blw HB3.out hb4⟩
end Go.Proofs.Ytajlniacoklhiaa.Fo
