/-
  The law's do.
-/
import Derived.Test.YthjhbceepkoifaaFya
import Derived.Deep.RegionHeld3
namespace Go.Proofs.Ythjhbceepkoifaa.Fy
open Go Go.RowKit Go.Proofs.Ythjhbceepkoifaa.Ec Go.Proofs.Ythjhbceepkoifaa.Ee Go.Proofs.Ythjhbceepkoifaa.Rg Go.Proofs.Ythjhbceepkoifaa.Fa Go.Proofs.Ythjhbceepkoifaa.Fb Go.Proofs.Ythjhbceepkoifaa.Fc Go.Proofs.Ythjhbceepkoifaa.Fd Go.Proofs.Ythjhbceepkoifaa.Fe Go.Proofs.Ythjhbceepkoifaa.Fg Go.Proofs.Ythjhbceepkoifaa.Fh Go.Proofs.Ythjhbceepkoifaa.Fi Go.Proofs.Ythjhbceepkoifaa.Fj Go.Proofs.Ythjhbceepkoifaa.Fk Go.Proofs.Ythjhbceepkoifaa.Fl Go.Proofs.Ythjhbceepkoifaa.Fq Go.Proofs.Ythjhbceepkoifaa.Fr Go.Proofs.Ythjhbceepkoifaa.Fs Go.Proofs.Ythjhbceepkoifaa.Ft Go.Proofs.Ythjhbceepkoifaa.Fu Go.Proofs.Ythjhbceepkoifaa.Fv Go.Proofs.Ythjhbceepkoifaa.Fw Go.Proofs.Ythjhbceepkoifaa.Or Go.Proofs.Ythjhbceepkoifaa.Rw

section
variable {w wr : World} {c1 c2 : Nat} {s : St} {all : List (Int × Int)} {m1 f1 al : Value} {T z0 z1 z2 z3 z4 z5 : Int}
theorem wn_or (n a b : Int) : wn n a b = true ∨ wn n a b = false := by cases wn n a b <;> simp
theorem lk_out {t : Int} (h : Lk s all) : Lk (out' s t) all := by
  unfold out'; split
  · rename_i o1
    obtain ⟨k1, _⟩ := wn_in o1
    exact ⟨h.ord, h.bs, h.zs, fun q hq => Int.le_trans (h.nw q hq) k1, h.tm, h.dl⟩
  · exact h
theorem lk_los {t tr : Int} (h : Lk s all) : Lk (los s t tr) all := by
  unfold los; split
  · rename_i hok
    obtain ⟨o1, _⟩ : wn t s.now 1000000000 = true ∧ wn tr 0 60000 = true := by unfold losOk at hok; simpa using hok
    obtain ⟨k1, _⟩ := wn_in o1
    split
    · exact ⟨h.ord, h.bs, h.zs, fun q hq => Int.le_trans (h.nw q hq) k1, h.tm, h.dl⟩
    · exact ⟨h.ord, h.bs, h.zs, fun q hq => Int.le_trans (h.nw q hq) k1, h.tm, h.dl⟩
  · exact h

/-- what a sample leaves of the reference, told or refused -/
theorem RSample_any (hR : Ra wr c2 s all al) (hI : Inv s) (hk : Lk s all) (hlen : all.length ≤ 79) (t b d u : Int) :
    ∃ all', Lk (smp s t b d u) all' ∧ all'.length ≤ all.length + 1 ∧ ∀ W a', Ra W c2 s all a' → Calls Try.prog 23 #[.pointer (some ⟨c2, 0, none⟩), .int .i64 t, .int .i64 b, .int .i64 d, .int .i64 u] W fun e w' => e = .returned (.int .i64 (smpE s t b d u)) ∧
      ∃ al', Ra w' c2 (smp s t b d u) all' al' ∧ Nx W w' c2 a' nl al' nl := by
  cases hok : okS s.now t b d u
  · refine ⟨all, by unfold smp; rw [hok]; exact hk, by omega, fun W a' h => ?_⟩
    refine (RSample_no h hok).mono fun e w' ⟨he, hw⟩ => ?_
    subst hw
    exact ⟨by rw [he]; unfold smpE; rw [hok]; rfl, a', by unfold smp; rw [hok]; exact h, Nx.refl _ _ _ _⟩
  · obtain ⟨o1, o2, o3, o4⟩ : wn t s.now 1000000000 = true ∧ wn b 0 1000000 = true ∧ wn d 0 4294967295 = true ∧ wn u 0 1000000 = true := by unfold okS at hok; simpa using hok
    obtain ⟨t1, t2⟩ := wn_in o1
    obtain ⟨d1, d2⟩ := wn_in o3
    refine ⟨all ++ [(t, d)], ?_, by simp, fun W a' h => ?_⟩
    · unfold smp; rw [hok]; exact lk_snoc hk hI _ t1 t2 d1 (by omega)
    · refine (RSample_yes h hk hI hlen hok).mono fun e w' ⟨he, hw⟩ => ?_
      exact ⟨by rw [he]; unfold smpE; rw [hok]; rfl, hw⟩

/-- the state behind an act -/
def act (s : St) (T z0 z2 z3 z4 z5 : Int) : St := if z0 = 5 then los s T z5 else if z0 = 6 then out' s T else smp s T z2 z3 z4
theorem act_inv (h : Inv s) : Inv (act s T z0 z2 z3 z4 z5) := by
  unfold act; split
  · exact los_inv h _ _
  · split
    · exact out_inv h _
    · exact smp_inv h _ _ _ _

set_option maxRecDepth 100000 in
set_option maxHeartbeats 8000000 in
theorem do_any (h : Bo w wr c1 c2 s all m1 f1 al) (hI : Inv s) (hk : Lk s all) (hlen : all.length ≤ 79) :
    ∃ all', Lk (act s T z0 z2 z3 z4 z5) all' ∧ all'.length ≤ all.length + 1 ∧
    Calls Try.prog 10 #[.pointer (some ⟨c1, 0, none⟩), .pointer (some ⟨c2, 0, none⟩), .int .i64 T, .agg #[.int .i64 z0, .int .i64 z1, .int .i64 z2, .int .i64 z3, .int .i64 z4, .int .i64 z5]] wr fun e w' => e = .returned (.bool true) ∧
      (∃ m2 f2 al2, Bo w w' c1 c2 (act s T z0 z2 z3 z4 z5) all' m2 f2 al2 ∧ ∀ (p k : Nat) (v : Value), Ce2 wr c1 c2 m1 f1 al p k v → Ce2 w' c1 c2 m2 f2 al2 p k v) := by
  obtain ⟨wa, hwa⟩ : ∃ wa, wr.alloc (.cells #[.int .i64 z0, .int .i64 z1, .int .i64 z2, .int .i64 z3, .int .i64 z4, .int .i64 z5] 33) = wa := ⟨_, rfl⟩
  have g0 : wr.grownBy wa none := by rw [← hwa]; exact World.grownBy_alloc _ _ _
  have hCE : ∀ (k : Nat) (v : Value), wa.cell? ⟨wr.heap.size, k, none⟩ = some v → Ce2 wa c1 c2 m1 f1 al wr.heap.size k v := fun k v hc => ⟨hc, fun hb => by have := rings_lt h.a _ hb; omega, fun hb => by have := h.b.lt _ hb; omega⟩
  have x2 : Ce2 wa c1 c2 m1 f1 al wr.heap.size 2 (.int .i64 z2) := hCE _ _ (by rw [← hwa]; simp [go_sem])
  have x3 : Ce2 wa c1 c2 m1 f1 al wr.heap.size 3 (.int .i64 z3) := hCE _ _ (by rw [← hwa]; simp [go_sem])
  have x4 : Ce2 wa c1 c2 m1 f1 al wr.heap.size 4 (.int .i64 z4) := hCE _ _ (by rw [← hwa]; simp [go_sem])
  have x5 : Ce2 wa c1 c2 m1 f1 al wr.heap.size 5 (.int .i64 z5) := hCE _ _ (by rw [← hwa]; simp [go_sem])
  have hBa := h.quiet g0
  have HCQ : Hid (∀ (p k : Nat) (v : Value), Ce2 wr c1 c2 m1 f1 al p k v → Ce2 wa c1 c2 m1 f1 al p k v) := Lib.hid (fun p k v h => h.quiet g0)
  have HBa := Lib.hid hBa
  have HWA := Lib.hid hwa
  have HX2 := Lib.hid x2
  have HX3 := Lib.hid x3
  have HX4 := Lib.hid x4
  have HX5 := Lib.hid x5
  unfold act
  by_cases q5 : z0 = 5
  · rw [if_pos q5]
    refine ⟨all, lk_los hk, by omega, ?_⟩
    subst q5
    have y5 := x5.cell
    have HA := Lib.hid (Loss_any hBa.a hI T z5)
    have HA2 : Hid (∀ W, Ra W c2 s all al → Calls Try.prog 21 #[.pointer (some ⟨c2, 0, none⟩), .int .i64 T, .int .i64 z5] W fun e w' => e = .returned (.tuple #[.bool (losR s T z5), .int .i64 (losE s T z5)]) ∧ Ra w' c2 (los s T z5) all al ∧ W.grownBy w' (some c2)) := Lib.hid (fun W h => RLoss_any h hI T z5)
    generalize los s T z5 = s' at *
    generalize losR s T z5 = lr at *
    generalize losE s T z5 = le at *
    clear h hI hk hlen x2 x3 x4 x5 hBa g0 hCE hwa
    go_enter Try.func10, Try.ntmps10
    go_wp2_with fail
    rw [HWA.out]
    refine HA.out.mono ?_
    rintro e w4 ⟨rfl, m4, f4, hR4, n4⟩
    have HH := Lib.hid (HBa.out.stepA hR4 n4)
    have y5 := (HX5.out.stepA n4).cell
    have HC4 : Hid (∀ (p k : Nat) (v : Value), Ce2 wr c1 c2 m1 f1 al p k v → Ce2 w4 c1 c2 m4 f4 al p k v) := Lib.hid (fun p k v h => (HCQ.out p k v h).stepA n4)
    clear hR4 n4
    go_wp2_with fail
    refine (HA2.out _ HH.out.b).mono ?_
    rintro e w5 ⟨rfl, hR5, hg5⟩
    have n5 : Nx w4 w5 c2 al nl al nl := Nx.gb hg5
    have HBz := Lib.hid (HH.out.stepB hR5 n5)
    have HC5 : Hid (∀ (p k : Nat) (v : Value), Ce2 wr c1 c2 m1 f1 al p k v → Ce2 w5 c1 c2 m4 f4 al p k v) := Lib.hid (fun p k v h => (HC4.out p k v h).stepB n5)
    clear hR5 hg5 n5 y5
    have hlr : lr = true ∨ lr = false := by cases lr <;> simp
    rcases hlr with rfl | rfl
    all_goals
      go_wp2
      go_ret
      exact ⟨rfl, m4, f4, al, HBz.out, HC5.out⟩
  · rw [if_neg q5]
    by_cases q6 : z0 = 6
    · rw [if_pos q6]
      refine ⟨all, lk_out hk, by omega, ?_⟩
      subst q6
      have HA := Lib.hid (Out_any hBa.a hI T)
      have HA2 : Hid (∀ W, Ra W c2 s all al → Calls Try.prog 22 #[.pointer (some ⟨c2, 0, none⟩), .int .i64 T] W fun e w' => e = .returned (.int .i64 (outE s T)) ∧ Ra w' c2 (out' s T) all al ∧ W.grownBy w' (some c2)) := Lib.hid (fun W h => ROut_any h (wn_or _ _ _))
      generalize out' s T = s' at *
      generalize outE s T = le at *
      clear h hI hk hlen x2 x3 x4 x5 hBa g0 hCE hwa q5
      go_enter Try.func10, Try.ntmps10
      go_wp2_with fail
      rw [HWA.out]
      refine HA.out.mono ?_
      rintro e w4 ⟨rfl, m4, f4, hR4, n4⟩
      have HH := Lib.hid (HBa.out.stepA hR4 n4)
      have HC4 : Hid (∀ (p k : Nat) (v : Value), Ce2 wr c1 c2 m1 f1 al p k v → Ce2 w4 c1 c2 m4 f4 al p k v) := Lib.hid (fun p k v h => (HCQ.out p k v h).stepA n4)
      clear hR4 n4
      go_wp2_with fail
      refine (HA2.out _ HH.out.b).mono ?_
      rintro e w5 ⟨rfl, hR5, hg5⟩
      have n5 : Nx w4 w5 c2 al nl al nl := Nx.gb hg5
      have HBz := Lib.hid (HH.out.stepB hR5 n5)
      have HC5 : Hid (∀ (p k : Nat) (v : Value), Ce2 wr c1 c2 m1 f1 al p k v → Ce2 w5 c1 c2 m4 f4 al p k v) := Lib.hid (fun p k v h => (HC4.out p k v h).stepB n5)
      clear hR5 hg5 n5
      go_wp2
      go_ret
      exact ⟨rfl, m4, f4, al, HBz.out, HC5.out⟩
    · rw [if_neg q6]
      obtain ⟨all', hk', hlen', hS⟩ := RSample_any hBa.b hI hk hlen T z2 z3 z4
      refine ⟨all', hk', hlen', ?_⟩
      have e5 : (z0 == 5) = false := by simpa using q5
      have e6 : (z0 == 6) = false := by simpa using q6
      have HA : Hid (∀ W m f, Ri W c1 s m f → Calls Try.prog 15 #[.pointer (some ⟨c1, 0, none⟩), .int .i64 T, .int .i64 z2, .int .i64 z3, .int .i64 z4] W fun e w' => e = .returned (.int .i64 (smpE s T z2 z3 z4)) ∧ ∃ ml' fl', Ri w' c1 (smp s T z2 z3 z4) ml' fl' ∧ Nx W w' c1 m f ml' fl') := Lib.hid (fun W m f h => Sample_any h hI T z2 z3 z4)
      have HA2 := Lib.hid hS
      generalize smp s T z2 z3 z4 = s' at *
      generalize smpE s T z2 z3 z4 = se at *
      clear h hI hk hlen x5 hBa g0 hCE hwa q5 q6 hk' hlen' hS
      have HBd : Hid (Bo w wa.drew c1 c2 s all m1 f1 al) := Lib.hid (HBa.out.quiet (gb_drew wa 1 none))
      have HX2d : Hid (Ce2 wa.drew c1 c2 m1 f1 al wr.heap.size 2 (.int .i64 z2)) := Lib.hid (HX2.out.quiet (gb_drew wa 1 none))
      have HX3d : Hid (Ce2 wa.drew c1 c2 m1 f1 al wr.heap.size 3 (.int .i64 z3)) := Lib.hid (HX3.out.quiet (gb_drew wa 1 none))
      have HX4d : Hid (Ce2 wa.drew c1 c2 m1 f1 al wr.heap.size 4 (.int .i64 z4)) := Lib.hid (HX4.out.quiet (gb_drew wa 1 none))
      have HCd : Hid (∀ (p k : Nat) (v : Value), Ce2 wr c1 c2 m1 f1 al p k v → Ce2 wa.drew c1 c2 m1 f1 al p k v) := Lib.hid (fun p k v h => (HCQ.out p k v h).quiet (gb_drew wa 1 none))
      have y2 := x2.cell
      have y3 := x3.cell
      have y4 := x4.cell
      clear x2 x3 x4
      go_enter Try.func10, Try.ntmps10
      go_wp2_with fail
      rw [HWA.out]
      go_region_held3 (fun w' => w'.cell? ⟨wr.heap.size, 2, none⟩ = some (.int .i64 z2) ∧ w'.cell? ⟨wr.heap.size, 3, none⟩ = some (.int .i64 z3) ∧ w'.cell? ⟨wr.heap.size, 4, none⟩ = some (.int .i64 z4))
        (first
          | exact ⟨u2, u3, u4⟩
          | exact ⟨v2, v3, v4⟩
          | exact ⟨HX2d.out.cell, HX3d.out.cell, HX4d.out.cell⟩)
        (first
          | (go_at_call 15
             refine (HA.out _ _ _ HBd.out.a).mono ?_
             rintro e wq ⟨rfl, m4, f4, hR4, n4⟩
             have HH := Lib.hid (HBd.out.stepA hR4 n4)
             have v2 := (HX2d.out.stepA n4).cell
             have v3 := (HX3d.out.stepA n4).cell
             have v4 := (HX4d.out.stepA n4).cell
             have HV2 := Lib.hid (HX2d.out.stepA n4)
             have HV3 := Lib.hid (HX3d.out.stepA n4)
             have HV4 := Lib.hid (HX4d.out.stepA n4)
             have HC4 : Hid (∀ (p k : Nat) (v : Value), Ce2 wr c1 c2 m1 f1 al p k v → Ce2 wq c1 c2 m4 f4 al p k v) := Lib.hid (fun p k v h => (HCd.out p k v h).stepA n4))
          | (go_at_call 23
             refine (HA2.out _ _ HH.out.b).mono ?_
             rintro e wz ⟨rfl, a5, hR5, n5⟩
             have HBz := Lib.hid (HH.out.stepB hR5 n5)
             have u2 := (HV2.out.stepB n5).cell
             have u3 := (HV3.out.stepB n5).cell
             have u4 := (HV4.out.stepB n5).cell
             have HC5 : Hid (∀ (p k : Nat) (v : Value), Ce2 wr c1 c2 m1 f1 al p k v → Ce2 wz c1 c2 m4 f4 a5 p k v) := Lib.hid (fun p k v h => (HC4.out p k v h).stepB n5)))
      all_goals
        clear y2 y3 y4 v2 v3 v4 u2 u3 u4 hR4 n4 hR5 n5
        go_wp2
        go_ret
        exact ⟨rfl, _, _, _, HBz.out, HC5.out⟩
end
end Go.Proofs.Ythjhbceepkoifaa.Fy
