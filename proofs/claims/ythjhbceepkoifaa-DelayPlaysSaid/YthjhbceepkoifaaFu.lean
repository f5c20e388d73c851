/-
  The reference's Sample, Loss, Out, Limit, Target, New.
-/
import Derived.Test.YthjhbceepkoifaaFt
namespace Go.Proofs.Ythjhbceepkoifaa.Fu
open Go Go.RowKit Go.Proofs.Ythjhbceepkoifaa.Ec Go.Proofs.Ythjhbceepkoifaa.Ee Go.Proofs.Ythjhbceepkoifaa.Rg Go.Proofs.Ythjhbceepkoifaa.Fa Go.Proofs.Ythjhbceepkoifaa.Fb Go.Proofs.Ythjhbceepkoifaa.Fc Go.Proofs.Ythjhbceepkoifaa.Fd Go.Proofs.Ythjhbceepkoifaa.Fe Go.Proofs.Ythjhbceepkoifaa.Fg Go.Proofs.Ythjhbceepkoifaa.Fh Go.Proofs.Ythjhbceepkoifaa.Fi Go.Proofs.Ythjhbceepkoifaa.Fj Go.Proofs.Ythjhbceepkoifaa.Fk Go.Proofs.Ythjhbceepkoifaa.Fl Go.Proofs.Ythjhbceepkoifaa.Fq Go.Proofs.Ythjhbceepkoifaa.Fr Go.Proofs.Ythjhbceepkoifaa.Fs Go.Proofs.Ythjhbceepkoifaa.Ft Go.Proofs.Ythjhbceepkoifaa.Or Go.Proofs.Ythjhbceepkoifaa.Rw Go.Proofs.Ythjhbceepkoifaa.Hz

section
variable {w : World} {c : Nat} {s : St} {all : List (Int × Int)} {al : Value} {t tr : Int}
set_option maxHeartbeats 400000 in
theorem RLimit_any (h : Ra w c s all al) :
    Calls Try.prog 27 #[.pointer (some ⟨c, 0, none⟩)] w fun e w' => e = .returned (.int .i64 s.limit) ∧ w = w' := by
  have c3 := h.ctl.c3
  clear h
  go_enter Try.func27, Try.ntmps27
  go_wp2
  go_ret
  exact ⟨rfl, rfl⟩
set_option maxHeartbeats 400000 in
theorem RTarget_any (h : Ra w c s all al) :
    Calls Try.prog 29 #[.pointer (some ⟨c, 0, none⟩)] w fun e w' => e = .returned (.int .i64 s.target) ∧ w = w' := by
  have c2 := h.ctl.c2
  clear h
  go_enter Try.func29, Try.ntmps29
  go_wp2
  go_ret
  exact ⟨rfl, rfl⟩
set_option maxHeartbeats 800000 in
theorem ROut_any (h : Ra w c s all al) (hl : wn t s.now 1000000000 = true ∨ wn t s.now 1000000000 = false) :
    Calls Try.prog 22 #[.pointer (some ⟨c, 0, none⟩), .int .i64 t] w fun e w' => e = .returned (.int .i64 (outE s t)) ∧ Ra w' c (out' s t) all al ∧ w.grownBy w' (some c) := by
  have c3 := h.ctl.c3
  have c4 := h.ctl.c4
  have f3 := h.ctl.fz 3
  have f4 := h.ctl.fz 4
  have HR := Lib.hid h
  have HW := Lib.hid (right_any t s.now 1000000000)
  clear h
  unfold outE out'
  rcases hl with hl | hl
  · rw [hl] at HW ⊢
    simp only [if_true]
    clear hl
    go_enter Try.func22, Try.ntmps22
    go_wp2_with fail
    refine (HW.out _).mono ?_
    rintro e w1 ⟨rfl, rfl⟩
    go_wp2
    go_ret
    have hg : w.grownBy ((w.setCell ⟨c, 4, none⟩ (.int .i64 t)).setCell ⟨c, 3, none⟩ (.int .i64 1500)) (some c) := gb_trans (gb_set w c 4 _) (gb_set _ c 3 _)
    exact ⟨rfl, HR.out.ctl' (s' := { s with now := t, limit := 1500 }) ((HR.out.ctl.set4 t).set3 1500) hg, hg⟩
  · rw [hl] at HW ⊢
    clear hl
    go_enter Try.func22, Try.ntmps22
    go_wp2_with fail
    refine (HW.out _).mono ?_
    rintro e w1 ⟨rfl, rfl⟩
    go_wp2
    go_ret
    exact ⟨rfl, HR.out, gb_drew w 0 _⟩

set_option maxHeartbeats 800000 in
theorem rloss_any (h : Ra w c s all al) (hI : Inv s) (j0 : 0 ≤ t) (j1 : t ≤ 1000000000) (j2 : 0 ≤ tr) (j3 : tr ≤ 60000) :
    Calls Try.prog 53 #[.pointer (some ⟨c, 0, none⟩), .int .i64 t, .int .i64 tr] w fun e w' => e = .returned (.bool (!soon s t tr)) ∧ Ra w' c (if soon s t tr = true then s else { s with hv := true, at' := t }) all al ∧ w.grownBy w' (some c) := by
  have c0 := h.ctl.c0
  have c1 := h.ctl.c1
  have f0 := h.ctl.fz 0
  have f1 := h.ctl.fz 1
  have i1 := hI.a1
  have i2 := hI.a2
  have HR := Lib.hid h
  have H2 := Lib.hid ((h.ctl.set0 t).set1 true)
  have HG := Lib.hid (gb_trans (gb_set w c 0 (.int .i64 t)) (gb_set (w.setCell ⟨c, 0, none⟩ (.int .i64 t)) c 1 (.bool true)))
  have hs : (s.hv = false ∧ soon s t tr = false) ∨ (s.hv = true ∧ soon s t tr = true ∧ 1 < tr ∧ t - s.at' < tr) ∨ (s.hv = true ∧ soon s t tr = true ∧ tr ≤ 1 ∧ t - s.at' < 1) ∨ (s.hv = true ∧ soon s t tr = false ∧ 1 < tr ∧ 1 ≤ t - s.at' ∧ tr ≤ t - s.at') ∨ (s.hv = true ∧ soon s t tr = false ∧ tr ≤ 1 ∧ 1 ≤ t - s.at' ∧ tr ≤ t - s.at') := by
    cases hh : s.hv
    · exact .inl ⟨rfl, by unfold soon; rw [hh]; rfl⟩
    · by_cases h1 : 1 < tr
      · by_cases h2 : t - s.at' < tr
        · exact .inr (.inl ⟨rfl, by unfold soon; rw [hh]; simp; omega, h1, h2⟩)
        · exact .inr (.inr (.inr (.inl ⟨rfl, by unfold soon; rw [hh]; simp; omega, h1, by omega, by omega⟩)))
      · by_cases h2 : t - s.at' < 1
        · exact .inr (.inr (.inl ⟨rfl, by unfold soon; rw [hh]; simp; omega, by omega, h2⟩))
        · exact .inr (.inr (.inr (.inr ⟨rfl, by unfold soon; rw [hh]; simp; omega, by omega, by omega, by omega⟩)))
  clear h hI
  rcases hs with ⟨e1, e2⟩ | ⟨e1, e2, e3, e4⟩ | ⟨e1, e2, e3, e4⟩ | ⟨e1, e2, e3, e4, e5⟩ | ⟨e1, e2, e3, e4, e5⟩
  all_goals
    rw [e1] at c1
    rw [e2]
    clear e1 e2
    go_enter Try.func53, Try.ntmps53
    go_wp2
    go_ret
    first
      | exact ⟨rfl, HR.out.ctl' (s' := { s with hv := true, at' := t }) H2.out HG.out, HG.out⟩
      | exact ⟨rfl, HR.out, gb_drew w 0 _⟩

set_option maxHeartbeats 1600000 in
theorem RLoss_any (h : Ra w c s all al) (hI : Inv s) (t tr : Int) :
    Calls Try.prog 21 #[.pointer (some ⟨c, 0, none⟩), .int .i64 t, .int .i64 tr] w fun e w' => e = .returned (.tuple #[.bool (losR s t tr), .int .i64 (losE s t tr)]) ∧ Ra w' c (los s t tr) all al ∧ w.grownBy w' (some c) := by
  have c4 := h.ctl.c4
  have f4 := h.ctl.fz 4
  have l1 := hI.l1
  have l2 := hI.l2
  have HR := Lib.hid h
  have HW := Lib.hid (right_any t s.now 1000000000)
  have HV := Lib.hid (right_any tr 0 60000)
  have hc : (wn t s.now 1000000000 = false) ∨ (wn t s.now 1000000000 = true ∧ wn tr 0 60000 = false) ∨ (wn t s.now 1000000000 = true ∧ wn tr 0 60000 = true) := by
    cases wn t s.now 1000000000 <;> cases wn tr 0 60000 <;> simp
  rcases hc with k1 | ⟨k1, k2⟩ | ⟨k1, k2⟩
  · have ho : losOk s t tr = false := by unfold losOk; rw [k1]; rfl
    have HE : Hid (losR s t tr = false ∧ losE s t tr = 7 ∧ los s t tr = s) := Lib.hid ⟨by unfold losR; rw [ho]; rfl, by unfold losE; rw [ho]; rfl, by unfold los; rw [ho]; rfl⟩
    rw [HE.out.1, HE.out.2.1, HE.out.2.2]
    rw [k1] at HW
    clear k1 ho h hI
    go_enter Try.func21, Try.ntmps21
    go_wp2_with fail
    refine (HW.out _).mono ?_
    rintro e w1 ⟨rfl, rfl⟩
    go_wp2
    go_ret2
    exact ⟨rfl, HR.out, gb_drew w 0 _⟩
  · have ho : losOk s t tr = false := by unfold losOk; rw [k1, k2]; rfl
    have HE : Hid (losR s t tr = false ∧ losE s t tr = 7 ∧ los s t tr = s) := Lib.hid ⟨by unfold losR; rw [ho]; rfl, by unfold losE; rw [ho]; rfl, by unfold los; rw [ho]; rfl⟩
    rw [HE.out.1, HE.out.2.1, HE.out.2.2]
    rw [k1] at HW
    rw [k2] at HV
    clear k1 k2 ho h hI
    go_enter Try.func21, Try.ntmps21
    go_wp2_with fail
    refine (HW.out _).mono ?_
    rintro e w1 ⟨rfl, rfl⟩
    go_wp2_with fail
    refine (HV.out _).mono ?_
    rintro e w1 ⟨rfl, rfl⟩
    go_wp2
    go_ret2
    exact ⟨rfl, HR.out, gb_drew w 0 _⟩
  · have ho : losOk s t tr = true := by unfold losOk; rw [k1, k2]; rfl
    obtain ⟨j1, j2⟩ := wn_in k1
    obtain ⟨j3, j4⟩ := wn_in k2
    have j0 := Int.le_trans hI.n1 j1
    have hg0 := gb_set w c 4 (.int .i64 t)
    have hR0 : Ra (w.setCell ⟨c, 4, none⟩ (.int .i64 t)) c { s with now := t } all al := h.ctl' (s' := { s with now := t }) (h.ctl.set4 t) hg0
    have HL := Lib.hid (rloss_any hR0 ⟨j0, j2, hI.a1, hI.a2, hI.t1, hI.t2, hI.l1, hI.l2, hI.ne⟩ j0 j2 j3 j4)
    have hso : soon { s with now := t } t tr = soon s t tr := rfl
    rw [hso] at HL
    have HG0 := Lib.hid hg0
    rw [k1] at HW
    rw [k2] at HV
    have hsn : soon s t tr = true ∨ soon s t tr = false := by cases soon s t tr <;> simp
    rcases hsn with hsn | hsn
    · have HE : Hid (losR s t tr = false ∧ losE s t tr = 0 ∧ los s t tr = { s with now := t }) := Lib.hid ⟨by unfold losR; rw [ho, hsn]; rfl, by unfold losE; rw [ho]; rfl, by unfold los; rw [ho, hsn]; rfl⟩
      rw [HE.out.1, HE.out.2.1, HE.out.2.2]
      rw [hsn] at HL
      clear k1 k2 ho h hI hso hsn hR0 hg0
      go_enter Try.func21, Try.ntmps21
      go_wp2_with fail
      refine (HW.out _).mono ?_
      rintro e w1 ⟨rfl, rfl⟩
      go_wp2_with fail
      refine (HV.out _).mono ?_
      rintro e w1 ⟨rfl, rfl⟩
      go_wp2_with fail
      refine HL.out.mono ?_
      rintro e w2 ⟨rfl, hR2, hg2⟩
      have HR2 := Lib.hid hR2
      have HG2 := Lib.hid (gb_trans HG0.out hg2)
      clear hR2 hg2
      go_wp2
      go_ret2
      exact ⟨rfl, HR2.out, HG2.out⟩
    · have hbb : bnd (s.limit / 2) = max (s.limit / 2) 1500 := by unfold bnd; omega
      have HE : Hid (losR s t tr = true ∧ losE s t tr = 0 ∧ los s t tr = { s with now := t, hv := true, at' := t, limit := max (s.limit / 2) 1500 }) := Lib.hid ⟨by unfold losR; rw [ho, hsn]; rfl, by unfold losE; rw [ho]; rfl, by unfold los; rw [ho, hsn, hbb]; rfl⟩
      rw [HE.out.1, HE.out.2.1, HE.out.2.2]
      rw [hsn] at HL
      have hcm : s.limit / 2 < 1500 ∨ 1500 ≤ s.limit / 2 := by omega
      clear k1 k2 ho h hI hso hsn hR0 hg0 hbb
      rcases hcm with hcm | hcm
      all_goals
        go_enter Try.func21, Try.ntmps21
        go_wp2_with fail
        refine (HW.out _).mono ?_
        rintro e w1 ⟨rfl, rfl⟩
        go_wp2_with fail
        refine (HV.out _).mono ?_
        rintro e w1 ⟨rfl, rfl⟩
        go_wp2_with fail
        refine HL.out.mono ?_
        rintro e w2 ⟨rfl, hR2, hg2⟩
        have d3 := hR2.ctl.c3
        have g3 := hR2.ctl.fz 3
        have HR2 := Lib.hid hR2
        have HG2 := Lib.hid (gb_trans HG0.out hg2)
        clear hR2 hg2
        simp only [Bool.false_eq_true, if_false] at d3
        go_wp2
        go_ret2
        refine ⟨rfl, ?_, gb_trans HG2.out (gb_set w2 c 3 _)⟩
        refine HR2.out.ctl' (s' := { s with now := t, hv := true, at' := t, limit := max (s.limit / 2) 1500 }) ?_ (gb_set w2 c 3 _)
        have := HR2.out.ctl.set3 (max (s.limit / 2) 1500)
        first
          | (rw [show max (s.limit / 2) 1500 = 1500 by omega] at this ⊢; exact this)
          | (rw [show max (s.limit / 2) 1500 = s.limit / 2 by omega] at this ⊢; exact this)
end

set_option maxHeartbeats 400000 in
theorem RNew_yes (target : Int) (w : World) (h1 : 1 ≤ target) (h2 : target ≤ 1000) :
    Calls Try.prog 9 #[.int .i64 target] w fun e w' => e = .returned (.tuple #[.pointer (some ⟨w.heap.size, 0, none⟩), .int .i64 0]) ∧ Ra w' w.heap.size (new0 target) [] nl ∧ Below w.heap.size w w' := by
  go_enter Try.func9, Try.ntmps9
  go_wp2
  go_ret2
  exact ⟨rfl, ⟨World.alloc_heap_new _ _, Row.nil _ _, by simp [Value.ownBlock]⟩, (Below.refl _ _).alloc (Nat.le_refl _) _⟩
set_option maxHeartbeats 400000 in
theorem RNew_no (target : Int) (w : World) (h : target < 1 ∨ 1000 < target) :
    Calls Try.prog 9 #[.int .i64 target] w fun e w' => e = .returned (.tuple #[.pointer none, .int .i64 7]) ∧ w = w' := by
  by_cases h1 : target < 1
  · clear h
    go_enter Try.func9, Try.ntmps9
    go_wp2
    go_ret2
    exact ⟨rfl, rfl⟩
  · have h2 : 1000 < target := by omega
    clear h
    go_enter Try.func9, Try.ntmps9
    go_wp2
    go_ret2
    exact ⟨rfl, rfl⟩
end Go.Proofs.Ythjhbceepkoifaa.Fu
