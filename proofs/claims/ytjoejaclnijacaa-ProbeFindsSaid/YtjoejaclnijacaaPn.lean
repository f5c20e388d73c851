/-
  Next: the program's function.
-/
import Derived.Test.YtjoejaclnijacaaPs
import Derived.IntWalk
namespace Go.Proofs.Ytjoejaclnijacaa.Ps
open Go Go.RowKit Go.Proofs.Ytjoejaclnijacaa.Sx Go.Proofs.Ytjoejaclnijacaa.Pm

/-- how often the size that is asked next was lost -/
def nk (m a k : Int) : Int := if m = a then k else 0

set_option maxHeartbeats 1600000 in
theorem Next1_go (c ps pn : Nat) (l h f n s t a k now : Int) (w : World) (H : Sb w c l h f n s t 0 a k) (h0 : f ≠ 0) (h1 : 0 ≤ now) (h2 : now ≤ 1000000000) (h3 : n ≤ now) (t1 : 0 ≤ t) (t2 : t ≤ 1000000) (b1 : 0 ≤ l) (b2 : h ≤ 9000) (hc : 16 ≤ h - l)
    (cp : w.cell? ⟨ps, 0, none⟩ = some (.pointer (some ⟨c, 0, none⟩))) (cn : w.cell? ⟨pn, 0, none⟩ = some (.int .i64 now)) (ne1 : ps ≠ c) (ne2 : pn ≠ c) :
    Calls Try.prog 38 #[.pointer (some ⟨ps, 0, none⟩), .pointer (some ⟨pn, 0, none⟩)] w fun e w' => e = .returned (.bool true) ∧ Sb w' c l h f now s (t + 1) (t + 1) (mid l h) (nk (mid l h) a k) ∧ w.grownBy w' (some c) := by
  have HA := Lib.hid (ask_t c l h f n s t 0 a k now w H h0 h1 h2 h3)
  have HH := Lib.hid H
  have c0 := H.c0
  have c1 := H.c1
  have c6 := H.c6
  clear H h0
  go_enter Try.func38, Try.ntmps38
  go_wp2_with fail
  refine HA.out.mono ?_
  rintro e w1 ⟨rfl, rfl⟩
  go_wp2_with fail
  refine (Pb.refuse_no _ _).mono ?_
  rintro e w1 ⟨rfl, rfl⟩
  go_wp2_with fail
  refine (close_f l h _ b1 b2 hc).mono ?_
  rintro e w1 ⟨rfl, g1⟩
  have cp1 := gb_cell g1 cp (by simp)
  have cn1 := gb_cell g1 cn (by simp)
  have H1 := HH.out.kept g1 (by simp)
  have hG1 := gb_none g1 (some c)
  clear cp cn c0 c1 c6 g1
  have HS := H1.set3 now
  have c3 := H1.c3
  have f3 := H1.fz 3
  have d0 := HS.c0
  have d1 := HS.c1
  have dp := gb_cell (gb_set w1 c 3 (.int .i64 now)) cp1 (by simpa using ne1)
  have dn := gb_cell (gb_set w1 c 3 (.int .i64 now)) cn1 (by simpa using ne2)
  have HSS := Lib.hid HS
  have HGS := Lib.hid (gb_trans hG1 (gb_set w1 c 3 (.int .i64 now)))
  clear HS H1
  go_wp2_with fail
  refine (middle_any l h _ (by omega) (by omega) (by omega) (by omega)).mono ?_
  rintro e w2 ⟨rfl, g2⟩
  have H2 := HSS.out.kept g2 (by simp)
  have ep := gb_cell g2 dp (by simp)
  have en := gb_cell g2 dn (by simp)
  have e4 := H2.c4
  have e5 := H2.c5
  have e6 := H2.c6
  have e7 := H2.c7
  have e8 := H2.c8
  have x4 := H2.fz 4
  have x5 := H2.fz 5
  have x6 := H2.fz 6
  have x7 := H2.fz 7
  have x8 := H2.fz 8
  have HG2 := Lib.hid (gb_trans HGS.out (gb_none g2 (some c)))
  have H2H := Lib.hid H2
  clear H2 g2 dp dn d0 d1 c3 f3 cp1 cn1
  obtain ⟨m, hm⟩ : ∃ m, mid l h = m := ⟨_, rfl⟩
  have hm1 : m ≤ 9000 := by rw [← hm]; exact Int.le_trans (mid_in (by omega)).2.1 (by omega)
  rw [hm]
  have hmm := Lib.hid hm
  clear hm
  by_cases hma : m = a
  · subst hma
    have HE := Lib.hid (show Sb ((w2.setCell ⟨c, 5, none⟩ (.int .i64 (t + 1))).setCell ⟨c, 6, none⟩ (.int .i64 (t + 1))).drew c l h f now s (t + 1) (t + 1) m (nk m m k) from by rw [show nk m m k = k from if_pos rfl]; exact (H2H.out.set5 (t + 1)).set6 (t + 1))
    have HGE := Lib.hid (gb_trans (gb_trans (gb_trans HG2.out (gb_set w2 c 5 (.int .i64 (t + 1)))) (gb_set (w2.setCell ⟨c, 5, none⟩ (.int .i64 (t + 1))) c 6 (.int .i64 (t + 1)))) (gb_drew1 _ _))
    go_wp2_with fail
    all_goals go_region
    all_goals go_wp2
    all_goals
      go_ret
      exact ⟨rfl, by rw [hmm.out]; exact HE.out, HGE.out⟩
  · have hb1 : (m == a) = false := by simpa using hma
    have hb2 : (m != a) = true := by simpa using hma
    have HE := Lib.hid (show Sb ((((w2.setCell ⟨c, 7, none⟩ (.int .i64 m)).setCell ⟨c, 8, none⟩ (.int .i64 0)).setCell ⟨c, 5, none⟩ (.int .i64 (t + 1))).setCell ⟨c, 6, none⟩ (.int .i64 (t + 1))).drew c l h f now s (t + 1) (t + 1) m (nk m a k) from by rw [show nk m a k = 0 from if_neg hma]; exact (((H2H.out.set7 m).set8 0).set5 (t + 1)).set6 (t + 1))
    have HGE := Lib.hid (gb_trans (gb_trans (gb_trans (gb_trans (gb_trans HG2.out (gb_set w2 c 7 (.int .i64 m))) (gb_set (w2.setCell ⟨c, 7, none⟩ (.int .i64 m)) c 8 (.int .i64 0))) (gb_set ((w2.setCell ⟨c, 7, none⟩ (.int .i64 m)).setCell ⟨c, 8, none⟩ (.int .i64 0)) c 5 (.int .i64 (t + 1)))) (gb_set (((w2.setCell ⟨c, 7, none⟩ (.int .i64 m)).setCell ⟨c, 8, none⟩ (.int .i64 0)).setCell ⟨c, 5, none⟩ (.int .i64 (t + 1))) c 6 (.int .i64 (t + 1)))) (gb_drew1 _ _))
    clear hma
    go_wp2_with fail
    all_goals go_region
    all_goals go_wp2
    all_goals
      go_ret
      exact ⟨rfl, by rw [hmm.out]; exact HE.out, HGE.out⟩

set_option maxHeartbeats 1600000 in
theorem Next1_rest (c ps pn : Nat) (l h f n s t a k now : Int) (w : World) (H : Sb w c l h f n s t 0 a k) (h0 : f ≠ 0) (h1 : 0 ≤ now) (h2 : now ≤ 1000000000) (h3 : n ≤ now) (t1 : 0 ≤ t) (t2 : t ≤ 1000000) (b1 : 0 ≤ l) (b2 : h ≤ 9000) (b3 : -9000 ≤ h - l) (hc : h - l < 16) (s1 : 0 ≤ s) (s2 : s ≤ 1000000000) (hs : now < s + 600000)
    (cp : w.cell? ⟨ps, 0, none⟩ = some (.pointer (some ⟨c, 0, none⟩))) (cn : w.cell? ⟨pn, 0, none⟩ = some (.int .i64 now)) (ne1 : ps ≠ c) (ne2 : pn ≠ c) :
    Calls Try.prog 38 #[.pointer (some ⟨ps, 0, none⟩), .pointer (some ⟨pn, 0, none⟩)] w fun e w' => e = .panicked [{ v := .iface 24 (.int .i64 8), recovered := false }] ∧ Sb w' c l h f n s t 0 a k ∧ w.grownBy w' (some c) := by
  have e1 : decide (now < s + 600000) = true := by simpa using hs
  have ew := Lib.hid (IntWalk.i64_in (s + 600000) (by omega))
  have HA := Lib.hid (ask_t c l h f n s t 0 a k now w H h0 h1 h2 h3)
  have HH := Lib.hid H
  have c0 := H.c0
  have c1 := H.c1
  have c6 := H.c6
  clear H h0
  go_enter Try.func38, Try.ntmps38
  go_wp2_with fail
  refine HA.out.mono ?_
  rintro e w1 ⟨rfl, rfl⟩
  go_wp2_with fail
  refine (Pb.refuse_no _ _).mono ?_
  rintro e w1 ⟨rfl, rfl⟩
  go_wp2_with fail
  refine (close_t l h _ b1 b2 b3 hc).mono ?_
  rintro e w1 ⟨rfl, g1⟩
  have cp1 := gb_cell g1 cp (by simp)
  have cn1 := gb_cell g1 cn (by simp)
  have H1 := HH.out.kept g1 (by simp)
  have hG1 := gb_none g1 (some c)
  clear cp cn c0 c1 c6 g1 HA HH
  have z4 := H1.c4
  have HH := Lib.hid H1
  clear H1
  have HR := Lib.hid (fun w => Pb.refuse_yes 8 w)
  go_wp2_with fail
  go_region_dies
  all_goals
    rw [ew.out, e1]
    refine (HR.out _).mono ?_
    rintro e w2 ⟨rfl, rfl⟩
    exact ⟨rfl, rfl, HH.out, gb_trans hG1 (gb_drew1 _ _)⟩

set_option maxHeartbeats 1600000 in
theorem Next1_end (c ps pn : Nat) (l h f n s t a k now : Int) (w : World) (H : Sb w c l h f n s t 0 a k) (h0 : f ≠ 0) (h1 : 0 ≤ now) (h2 : now ≤ 1000000000) (h3 : n ≤ now) (t1 : 0 ≤ t) (t2 : t ≤ 1000000) (b1 : 0 ≤ l) (b2 : h ≤ 9000) (b3 : -9000 ≤ h - l) (hc : h - l < 16) (s1 : 0 ≤ s) (s2 : s ≤ 1000000000) (hs : s + 600000 ≤ now) (b4 : 0 ≤ f) (b5 : f ≤ 9000) (hf : f - l < 16) (b6 : -9000 ≤ f - l)
    (cp : w.cell? ⟨ps, 0, none⟩ = some (.pointer (some ⟨c, 0, none⟩))) (cn : w.cell? ⟨pn, 0, none⟩ = some (.int .i64 now)) (ne1 : ps ≠ c) (ne2 : pn ≠ c) :
    Calls Try.prog 38 #[.pointer (some ⟨ps, 0, none⟩), .pointer (some ⟨pn, 0, none⟩)] w fun e w' => e = .panicked [{ v := .iface 24 (.int .i64 8), recovered := false }] ∧ Sb w' c l f f now now t 0 a k ∧ w.grownBy w' (some c) := by
  have HA := Lib.hid (ask_t c l h f n s t 0 a k now w H h0 h1 h2 h3)
  have HH := Lib.hid H
  have c0 := H.c0
  have c1 := H.c1
  have c6 := H.c6
  clear H h0
  go_enter Try.func38, Try.ntmps38
  go_wp2_with fail
  refine HA.out.mono ?_
  rintro e w1 ⟨rfl, rfl⟩
  go_wp2_with fail
  refine (Pb.refuse_no _ _).mono ?_
  rintro e w1 ⟨rfl, rfl⟩
  go_wp2_with fail
  refine (close_t l h _ b1 b2 b3 hc).mono ?_
  rintro e w1 ⟨rfl, g1⟩
  have cp1 := gb_cell g1 cp (by simp)
  have cn1 := gb_cell g1 cn (by simp)
  have H1 := HH.out.kept g1 (by simp)
  have hG1 := gb_none g1 (some c)
  clear cp cn c0 c1 c6 g1 HA HH
  have z4 := H1.c4
  have y1 := H1.c1
  have y2 := H1.c2
  have g1 := H1.fz 1
  have HH := Lib.hid H1
  have HR := Lib.hid (fun q => (Pb.refuse_no 8 (w1.drewN q)).mono (R' := fun e w' => e = .returned (.tuple #[]) ∧ w' = w1.drewN q) fun _ _ h => ⟨h.1, h.2.symm⟩)
  clear H1
  go_wp2_with fail
  have ew := IntWalk.i64_in (s + 600000) (by omega)
  have e1 : decide (now < s + 600000) = false := by simpa using hs
  go_quiet ((go_at_call 21; exact Calls.quiet_of_same (HR.out _)))
  clear ew e1
  go_wp2_with fail
  all_goals go_region
  have H2 : Sb ((w1.drewN (nq + 1)).setCell ⟨c, 1, none⟩ (.int .i64 f)) c l f f n s t 0 a k := Sb.set1 (W := w1.drewN (nq + 1)) HH.out f
  have G2 : w.grownBy ((w1.drewN (nq + 1)).setCell ⟨c, 1, none⟩ (.int .i64 f)) (some c) := gb_trans (gb_trans hG1 (gb_drew w1 _ _)) (gb_set (w1.drewN (nq + 1)) c 1 (.int .i64 f))
  have cp2 := gb_cell (gb_trans (gb_drew w1 (nq + 1) (some c)) (gb_set (w1.drewN (nq + 1)) c 1 (.int .i64 f))) cp1 (by simpa using ne1)
  have cn2 := gb_cell (gb_trans (gb_drew w1 (nq + 1) (some c)) (gb_set (w1.drewN (nq + 1)) c 1 (.int .i64 f))) cn1 (by simpa using ne2)
  generalize (w1.drewN (nq + 1)).setCell ⟨c, 1, none⟩ (.int .i64 f) = w2 at H2 G2 cp2 cn2 ⊢
  clear z4 y1 y2 g1 HH HR cp1 cn1 hG1
  go_wp2_with fail
  refine (tell_t c l f f n s t 0 a k now _ H2 b1 b5 b6 hf).mono ?_
  rintro e w3 ⟨rfl, H3, g3⟩
  have cp3 := gb_cell g3 cp2 (by simpa using ne1)
  have cn3 := gb_cell g3 cn2 (by simpa using ne2)
  have G3 := Lib.hid (gb_trans G2 g3)
  have z0 := H3.c0
  have z1 := H3.c1
  have HH3 := Lib.hid H3
  clear H2 G2 cp2 cn2 g3 H3
  go_wp2_with fail
  refine (close_t l f _ b1 b5 b6 hf).mono ?_
  rintro e w4 ⟨rfl, g4⟩
  have H4 := HH3.out.kept g4 (by simp)
  have G4 := gb_trans G3.out (gb_none g4 (some c))
  have cp4 := gb_cell g4 cp3 (by simp)
  have cn4 := gb_cell g4 cn3 (by simp)
  clear HH3 G3 g4 z0 z1 cp3 cn3
  have HH4 := Lib.hid H4
  clear H4
  go_wp2_with fail
  refine (Pb.refuse_yes _ _).mono ?_
  rintro e w5 ⟨rfl, rfl⟩
  go_wp2_with fail
  simp [bodyPost]
  exact ⟨HH4.out, G4⟩

set_option maxHeartbeats 3200000 in
theorem Next1_anew (c ps pn : Nat) (l h f n s t a k now : Int) (w : World) (H : Sb w c l h f n s t 0 a k) (h0 : f ≠ 0) (h1 : 0 ≤ now) (h2 : now ≤ 1000000000) (h3 : n ≤ now) (t1 : 0 ≤ t) (t2 : t ≤ 1000000) (b1 : 0 ≤ l) (b2 : h ≤ 9000) (b3 : -9000 ≤ h - l) (hc : h - l < 16) (s1 : 0 ≤ s) (s2 : s ≤ 1000000000) (hs : s + 600000 ≤ now) (b4 : 0 ≤ f) (b5 : f ≤ 9000) (hf : 16 ≤ f - l)
    (cp : w.cell? ⟨ps, 0, none⟩ = some (.pointer (some ⟨c, 0, none⟩))) (cn : w.cell? ⟨pn, 0, none⟩ = some (.int .i64 now)) (ne1 : ps ≠ c) (ne2 : pn ≠ c) :
    Calls Try.prog 38 #[.pointer (some ⟨ps, 0, none⟩), .pointer (some ⟨pn, 0, none⟩)] w fun e w' => e = .returned (.bool true) ∧ Sb w' c l f f now s (t + 1) (t + 1) (mid l f) (nk (mid l f) a k) ∧ w.grownBy w' (some c) := by
  have HA := Lib.hid (ask_t c l h f n s t 0 a k now w H h0 h1 h2 h3)
  have HH := Lib.hid H
  have c0 := H.c0
  have c1 := H.c1
  have c6 := H.c6
  clear H h0
  go_enter Try.func38, Try.ntmps38
  go_wp2_with fail
  refine HA.out.mono ?_
  rintro e w1 ⟨rfl, rfl⟩
  go_wp2_with fail
  refine (Pb.refuse_no _ _).mono ?_
  rintro e w1 ⟨rfl, rfl⟩
  go_wp2_with fail
  refine (close_t l h _ b1 b2 b3 hc).mono ?_
  rintro e w1 ⟨rfl, g1⟩
  have cp1 := gb_cell g1 cp (by simp)
  have cn1 := gb_cell g1 cn (by simp)
  have H1 := HH.out.kept g1 (by simp)
  have hG1 := gb_none g1 (some c)
  clear cp cn c0 c1 c6 g1 HA HH
  have z4 := H1.c4
  have y1 := H1.c1
  have y2 := H1.c2
  have g1 := H1.fz 1
  have HH := Lib.hid H1
  have HR := Lib.hid (fun q => (Pb.refuse_no 8 (w1.drewN q)).mono (R' := fun e w' => e = .returned (.tuple #[]) ∧ w' = w1.drewN q) fun _ _ h => ⟨h.1, h.2.symm⟩)
  clear H1
  go_wp2_with fail
  have ew := IntWalk.i64_in (s + 600000) (by omega)
  have e1 : decide (now < s + 600000) = false := by simpa using hs
  go_quiet ((go_at_call 21; exact Calls.quiet_of_same (HR.out _)))
  clear ew e1
  go_wp2_with fail
  all_goals go_region
  have H2 : Sb ((w1.drewN (nq + 1)).setCell ⟨c, 1, none⟩ (.int .i64 f)) c l f f n s t 0 a k := Sb.set1 (W := w1.drewN (nq + 1)) HH.out f
  have G2 : w.grownBy ((w1.drewN (nq + 1)).setCell ⟨c, 1, none⟩ (.int .i64 f)) (some c) := gb_trans (gb_trans hG1 (gb_drew w1 _ _)) (gb_set (w1.drewN (nq + 1)) c 1 (.int .i64 f))
  have cp2 := gb_cell (gb_trans (gb_drew w1 (nq + 1) (some c)) (gb_set (w1.drewN (nq + 1)) c 1 (.int .i64 f))) cp1 (by simpa using ne1)
  have cn2 := gb_cell (gb_trans (gb_drew w1 (nq + 1) (some c)) (gb_set (w1.drewN (nq + 1)) c 1 (.int .i64 f))) cn1 (by simpa using ne2)
  generalize (w1.drewN (nq + 1)).setCell ⟨c, 1, none⟩ (.int .i64 f) = w2 at H2 G2 cp2 cn2 ⊢
  clear z4 y1 y2 g1 HH HR cp1 cn1 hG1
  go_wp2_with fail
  refine (tell_f c l f f n s t 0 a k now _ H2 b1 b5 hf).mono ?_
  rintro e w3 ⟨rfl, H3, g3⟩
  have cp3 := gb_cell g3 cp2 (by simpa using ne1)
  have cn3 := gb_cell g3 cn2 (by simpa using ne2)
  have G3 := Lib.hid (gb_trans G2 g3)
  have z0 := H3.c0
  have z1 := H3.c1
  have HH3 := Lib.hid H3
  clear H2 G2 cp2 cn2 g3 H3
  go_wp2_with fail
  refine (close_f l f _ b1 b5 hf).mono ?_
  rintro e w4 ⟨rfl, g4⟩
  have H4 := HH3.out.kept g4 (by simp)
  have G4 := gb_trans G3.out (gb_none g4 (some c))
  have cp4 := gb_cell g4 cp3 (by simp)
  have cn4 := gb_cell g4 cn3 (by simp)
  clear HH3 G3 g4 z0 z1 cp3 cn3
  go_wp2_with fail
  refine (Pb.refuse_no _ _).mono ?_
  rintro e w1 ⟨rfl, rfl⟩
  have HS := H4.set3 now
  have c3 := H4.c3
  have f3 := H4.fz 3
  have d0 := HS.c0
  have d1 := HS.c1
  have dp := gb_cell (gb_set w4 c 3 (.int .i64 now)) cp4 (by simpa using ne1)
  have dn := gb_cell (gb_set w4 c 3 (.int .i64 now)) cn4 (by simpa using ne2)
  have HSS := Lib.hid HS
  have HGS := Lib.hid (gb_trans G4 (gb_set w4 c 3 (.int .i64 now)))
  clear HS H4
  go_wp2_with fail
  refine (middle_any l f _ (by omega) (by omega) (by omega) (by omega)).mono ?_
  rintro e w2 ⟨rfl, g2⟩
  have H2 := HSS.out.kept g2 (by simp)
  have ep := gb_cell g2 dp (by simp)
  have en := gb_cell g2 dn (by simp)
  have e4 := H2.c4
  have e5 := H2.c5
  have e6 := H2.c6
  have e7 := H2.c7
  have e8 := H2.c8
  have x4 := H2.fz 4
  have x5 := H2.fz 5
  have x6 := H2.fz 6
  have x7 := H2.fz 7
  have x8 := H2.fz 8
  have HG2 := Lib.hid (gb_trans HGS.out (gb_none g2 (some c)))
  have H2H := Lib.hid H2
  clear H2 g2 dp dn d0 d1 c3 f3 cp4 cn4
  obtain ⟨m, hm⟩ : ∃ m, mid l f = m := ⟨_, rfl⟩
  have hm1 : m ≤ 9000 := by rw [← hm]; exact Int.le_trans (mid_in (by omega)).2.1 (by omega)
  rw [hm]
  have hmm := Lib.hid hm
  clear hm
  by_cases hma : m = a
  · subst hma
    have HE := Lib.hid (show Sb ((w2.setCell ⟨c, 5, none⟩ (.int .i64 (t + 1))).setCell ⟨c, 6, none⟩ (.int .i64 (t + 1))).drew c l f f now s (t + 1) (t + 1) m (nk m m k) from by rw [show nk m m k = k from if_pos rfl]; exact (H2H.out.set5 (t + 1)).set6 (t + 1))
    have HGE := Lib.hid (gb_trans (gb_trans (gb_trans HG2.out (gb_set w2 c 5 (.int .i64 (t + 1)))) (gb_set (w2.setCell ⟨c, 5, none⟩ (.int .i64 (t + 1))) c 6 (.int .i64 (t + 1)))) (gb_drew1 _ _))
    go_wp2_with fail
    all_goals go_region
    all_goals go_wp2
    all_goals
      go_ret
      exact ⟨rfl, by rw [hmm.out]; exact HE.out, HGE.out⟩
  · have hb1 : (m == a) = false := by simpa using hma
    have hb2 : (m != a) = true := by simpa using hma
    have HE := Lib.hid (show Sb ((((w2.setCell ⟨c, 7, none⟩ (.int .i64 m)).setCell ⟨c, 8, none⟩ (.int .i64 0)).setCell ⟨c, 5, none⟩ (.int .i64 (t + 1))).setCell ⟨c, 6, none⟩ (.int .i64 (t + 1))).drew c l f f now s (t + 1) (t + 1) m (nk m a k) from by rw [show nk m a k = 0 from if_neg hma]; exact (((H2H.out.set7 m).set8 0).set5 (t + 1)).set6 (t + 1))
    have HGE := Lib.hid (gb_trans (gb_trans (gb_trans (gb_trans (gb_trans HG2.out (gb_set w2 c 7 (.int .i64 m))) (gb_set (w2.setCell ⟨c, 7, none⟩ (.int .i64 m)) c 8 (.int .i64 0))) (gb_set ((w2.setCell ⟨c, 7, none⟩ (.int .i64 m)).setCell ⟨c, 8, none⟩ (.int .i64 0)) c 5 (.int .i64 (t + 1)))) (gb_set (((w2.setCell ⟨c, 7, none⟩ (.int .i64 m)).setCell ⟨c, 8, none⟩ (.int .i64 0)).setCell ⟨c, 5, none⟩ (.int .i64 (t + 1))) c 6 (.int .i64 (t + 1)))) (gb_drew1 _ _))
    clear hma
    go_wp2_with fail
    all_goals go_region
    all_goals go_wp2
    all_goals
      go_ret
      exact ⟨rfl, by rw [hmm.out]; exact HE.out, HGE.out⟩

end Go.Proofs.Ytjoejaclnijacaa.Ps