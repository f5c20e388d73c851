/-
  Loss, Out, Queueing of a control at any fill: the program's functions.
-/
import Derived.Test.YthjhbceepkoifaaFj
namespace Go.Proofs.Ythjhbceepkoifaa.Fk
open Go Go.RowKit Go.Proofs.Ythjhbceepkoifaa.Ec Go.Proofs.Ythjhbceepkoifaa.Ee Go.Proofs.Ythjhbceepkoifaa.Rg Go.Proofs.Ythjhbceepkoifaa.Fa Go.Proofs.Ythjhbceepkoifaa.Fb Go.Proofs.Ythjhbceepkoifaa.Fc Go.Proofs.Ythjhbceepkoifaa.Fd Go.Proofs.Ythjhbceepkoifaa.Fe Go.Proofs.Ythjhbceepkoifaa.Fg Go.Proofs.Ythjhbceepkoifaa.Fh Go.Proofs.Ythjhbceepkoifaa.Fi Go.Proofs.Ythjhbceepkoifaa.Fj

section
variable {W : World} {c : Nat} {now : Int} {hv : Bool} {at' target limit : Int} {ml fl : Value}
theorem ctl_c1 (h : Ctl W c now hv at' target limit ml fl) : W.cell? ⟨c, 1, none⟩ = some (.bool hv) := by simp [World.cell?, show W.heap[c]? = _ from h]
theorem ctl_c2 (h : Ctl W c now hv at' target limit ml fl) : W.cell? ⟨c, 2, none⟩ = some (.int .i64 at') := by simp [World.cell?, show W.heap[c]? = _ from h]
theorem ctl_set1 (h : Ctl W c now hv at' target limit ml fl) (x : Bool) : Ctl (W.setCell ⟨c, 1, none⟩ (.bool x)) c now x at' target limit ml fl := heap_setCell_same W c 1 _ _ (.bool x) h
theorem ctl_set2 (h : Ctl W c now hv at' target limit ml fl) (x : Int) : Ctl (W.setCell ⟨c, 2, none⟩ (.int .i64 x)) c now hv x target limit ml fl := heap_setCell_same W c 2 _ _ (.int .i64 x) h
end
section
variable {w : World} {c : Nat} {now : Int} {hv : Bool} {at' target limit : Int} {ml fl : Value} {t tr : Int}
set_option maxHeartbeats 800000 in
theorem halve_any (h : Ctl w c now hv at' target limit ml fl) (l1 : 1500 ≤ limit) (l2 : limit ≤ 1000000) :
    Calls Try.prog 85 #[.pointer (some ⟨c, 0, none⟩)] w fun e w' => e = .returned (.tuple #[]) ∧ Ctl w' c now hv at' target (bnd (limit / 2)) ml fl ∧ w.grownBy w' (some c) := by
  have c4 := h.c4
  have f4 := h.fz 4
  have H := Lib.hid h
  clear h
  go_enter Try.func85, Try.ntmps85
  go_wp2_with fail
  refine (bound_any _ _).mono ?_
  rintro e w1 ⟨rfl, rfl⟩
  go_wp2
  go_end0
  exact ⟨rfl, H.out.set4 _, gb_set _ c 4 _⟩
theorem method_halve (c : Nat) (w : World) : (method 214 25 (.pointer (some ⟨c, 0, none⟩)) "covey/delay.halve").run Try.prog w = .ok (85, .pointer (some ⟨c, 0, none⟩)) w := by kernel_rfl

set_option maxHeartbeats 800000 in
theorem loss_soon (h : Ctl w c now true at' target limit ml fl) (i1 : 0 ≤ at') (i2 : at' ≤ 1000000000) (i3 : 0 ≤ t) (i4 : t ≤ 1000000000) (_ : 0 ≤ tr) (_ : tr ≤ 60000) (hs : t - at' < 1 ∨ t - at' < tr) :
    Calls Try.prog 37 #[.pointer (some ⟨c, 0, none⟩), .iface 25 (.pointer (some ⟨c, 0, none⟩)), .int .i64 t, .int .i64 tr] w fun e w' => e = .returned (.bool false) ∧ Ctl w' c t true at' target limit ml fl ∧ w.grownBy w' (some c) := by
  have c0 := h.c0
  have c1 := ctl_c1 h
  have c2 := ctl_c2 h
  have f0 := h.fz 0
  have H2 := Lib.hid (h.set0 t)
  have HG := Lib.hid (gb_set w c 0 (.int .i64 t))
  clear h
  by_cases ht : 1 < tr
  · have hs' : t - at' < tr := by omega
    clear hs
    go_enter Try.func37, Try.ntmps37
    go_wp2
    go_ret
    exact ⟨rfl, H2.out, HG.out⟩
  · have hs' : t - at' < 1 := by omega
    clear hs
    go_enter Try.func37, Try.ntmps37
    go_wp2
    go_ret
    exact ⟨rfl, H2.out, HG.out⟩

set_option maxHeartbeats 800000 in
theorem loss_late (h : Ctl w c now hv at' target limit ml fl) (h1 : 1500 ≤ limit) (h2 : limit ≤ 1000000) (i1 : 0 ≤ at') (i2 : at' ≤ 1000000000) (i3 : 0 ≤ t) (i4 : t ≤ 1000000000) (_ : 0 ≤ tr) (_ : tr ≤ 60000) (hs : hv = true → 1 ≤ t - at' ∧ tr ≤ t - at') :
    Calls Try.prog 37 #[.pointer (some ⟨c, 0, none⟩), .iface 25 (.pointer (some ⟨c, 0, none⟩)), .int .i64 t, .int .i64 tr] w fun e w' => e = .returned (.bool true) ∧ Ctl w' c t true t target (bnd (limit / 2)) ml fl ∧ w.grownBy w' (some c) := by
  have c0 := h.c0
  have c1 := ctl_c1 h
  have c2 := ctl_c2 h
  have f0 := h.fz 0
  have f1 := h.fz 1
  have f2 := h.fz 2
  have H2 := Lib.hid (halve_any (ctl_set2 (ctl_set1 (h.set0 t) true) t) h1 h2)
  have HG := Lib.hid (gb_trans (gb_trans (gb_set w c 0 (.int .i64 t)) (gb_set (w.setCell ⟨c, 0, none⟩ (.int .i64 t)) c 1 (.bool true))) (gb_set ((w.setCell ⟨c, 0, none⟩ (.int .i64 t)).setCell ⟨c, 1, none⟩ (.bool true)) c 2 (.int .i64 t)))
  clear h
  have hm := method_halve c
  cases hv
  · clear hs
    go_enter Try.func37, Try.ntmps37
    go_wp2_with fail
    refine H2.out.mono ?_
    rintro e w1 ⟨rfl, hO, hg⟩
    go_wp2
    go_ret
    exact ⟨rfl, hO, gb_trans HG.out hg⟩
  · obtain ⟨s1, s2⟩ := hs rfl
    clear hs
    by_cases ht : 1 < tr
    · go_enter Try.func37, Try.ntmps37
      go_wp2_with fail
      refine H2.out.mono ?_
      rintro e w1 ⟨rfl, hO, hg⟩
      go_wp2
      go_ret
      exact ⟨rfl, hO, gb_trans HG.out hg⟩
    · go_enter Try.func37, Try.ntmps37
      go_wp2_with fail
      refine H2.out.mono ?_
      rintro e w1 ⟨rfl, hO, hg⟩
      go_wp2
      go_ret
      exact ⟨rfl, hO, gb_trans HG.out hg⟩

end
section
variable {w : World} {c : Nat} {s : St} {ml fl : Value} {t tr : Int} {po pn pt : Nat}
set_option maxHeartbeats 400000 in
theorem askLoss_yes (h : Ri w c s ml fl) (hk : losOk s t tr = true) :
    Calls Try.prog 36 #[.pointer (some ⟨c, 0, none⟩), .int .i64 t, .int .i64 tr] w fun e w' => e = .returned (.tuple #[]) ∧ w = w' := by
  obtain ⟨hw, ht⟩ : wn t s.now 1000000000 = true ∧ wn tr 0 60000 = true := by unfold losOk at hk; simpa using hk
  have HA := Lib.hid (askTime_yes h hw)
  have HT := Lib.hid (within_t _ _ _ ht)
  clear hw ht h hk
  go_enter Try.func36, Try.ntmps36
  go_wp2_with fail
  refine HA.out.mono ?_
  rintro e w1 ⟨rfl, rfl⟩
  go_wp2_with fail
  refine (HT.out _).mono ?_
  rintro e w1 ⟨rfl, rfl⟩
  go_wp2_with fail
  refine (Eb.refuse_no _ _).mono ?_
  rintro e w1 ⟨rfl, rfl⟩
  go_wp2
  go_end0
  exact ⟨rfl, rfl⟩
set_option maxHeartbeats 400000 in
theorem askLoss_no (h : Ri w c s ml fl) (hk : losOk s t tr = false) :
    Calls Try.prog 36 #[.pointer (some ⟨c, 0, none⟩), .int .i64 t, .int .i64 tr] w fun e w' => e = .panicked [{ v := .iface 26 (.int .i64 7), recovered := false }] ∧ w = w' := by
  cases h1 : wn t s.now 1000000000
  · have HA := Lib.hid (askTime_no h h1)
    clear h h1 hk
    go_enter Try.func36, Try.ntmps36
    go_wp2_with fail
    refine HA.out.mono ?_
    rintro e w1 ⟨rfl, rfl⟩
    go_wp2_with fail
    simp [bodyPost]
  · have ht : wn tr 0 60000 = false := by unfold losOk at hk; rw [h1] at hk; simpa using hk
    have HA := Lib.hid (askTime_yes h h1)
    have HT := Lib.hid (within_f _ _ _ ht)
    clear ht h h1 hk
    go_enter Try.func36, Try.ntmps36
    go_wp2_with fail
    refine HA.out.mono ?_
    rintro e w1 ⟨rfl, rfl⟩
    go_wp2_with fail
    refine (HT.out _).mono ?_
    rintro e w1 ⟨rfl, rfl⟩
    go_wp2_with fail
    refine (Eb.refuse_yes _ _).mono ?_
    rintro e w1 ⟨rfl, rfl⟩
    go_wp2_with fail
    simp [bodyPost]

set_option maxHeartbeats 1600000 in
theorem LossF_yes (h : Ri w c s ml fl) (hI : Inv s) (hk : losOk s t tr = true) (cp : w.cell? ⟨po, 0, none⟩ = some (.pointer (some ⟨c, 0, none⟩))) (cn : w.cell? ⟨pn, 0, none⟩ = some (.int .i64 t)) (ct : w.cell? ⟨pt, 0, none⟩ = some (.int .i64 tr)) :
    Calls Try.prog 34 #[.pointer (some ⟨po, 0, none⟩), .pointer (some ⟨pn, 0, none⟩), .pointer (some ⟨pt, 0, none⟩)] w fun e w' => e = .returned (.bool (!soon s t tr)) ∧ Ri w' c (los s t tr) ml fl ∧ Nx w w' c ml fl ml fl := by
  obtain ⟨hw, ht⟩ : wn t s.now 1000000000 = true ∧ wn tr 0 60000 = true := by unfold losOk at hk; simpa using hk
  obtain ⟨j1, j2⟩ := wn_in hw
  obtain ⟨j3, j4⟩ := wn_in ht
  have j0 := Int.le_trans hI.n1 j1
  have HR := Lib.hid h
  have HA := Lib.hid (ask_any h hI.t1)
  have HL := Lib.hid (fun k => (askLoss_yes (rings_drewN h k : Ri (w.drewN k) c s ml fl) hk).mono (R' := fun e w' => e = .returned (.tuple #[]) ∧ w' = w.drewN k) fun _ _ h => ⟨h.1, h.2.symm⟩)
  have HS : Hid (∀ k, Calls Try.prog 37 #[.pointer (some ⟨c, 0, none⟩), .iface 25 (.pointer (some ⟨c, 0, none⟩)), .int .i64 t, .int .i64 tr] (w.drewN k) fun e w' => e = .returned (.bool (!soon s t tr)) ∧ Ri w' c (los s t tr) ml fl ∧ (w.drewN k).grownBy w' (some c)) := Lib.hid (fun k => by
    have hR : Ri (w.drewN k) c s ml fl := rings_drewN h k
    cases hs : soon s t tr
    · have hs2 : s.hv = true → 1 ≤ t - s.at' ∧ tr ≤ t - s.at' := by
        intro e; unfold soon at hs; rw [e] at hs; simp at hs; omega
      refine (loss_late hR.ctl hI.l1 hI.l2 hI.a1 hI.a2 j0 j2 j3 j4 hs2).mono ?_
      rintro e w' ⟨rfl, hC, hg⟩
      exact ⟨rfl, by unfold los; rw [hk, hs]; exact rings_ctl hR hC hg, hg⟩
    · obtain ⟨hv1, hs2⟩ : s.hv = true ∧ (t - s.at' < 1 ∨ t - s.at' < tr) := by unfold soon at hs; simpa using hs
      have hC := hR.ctl
      rw [hv1] at hC
      refine (loss_soon hC hI.a1 hI.a2 j0 j2 j3 j4 hs2).mono ?_
      rintro e w' ⟨rfl, hC, hg⟩
      exact ⟨rfl, by unfold los; rw [hk, hs]; rw [← hv1] at hC; exact rings_ctl hR hC hg, hg⟩)
  clear h hI hw ht hk
  generalize soon s t tr = r at HS ⊢
  generalize los s t tr = s' at HS ⊢
  go_enter Try.func34, Try.ntmps34
  go_wp2_with fail
  refine HA.out.mono ?_
  rintro e w1 ⟨rfl, rfl⟩
  go_wp2_with fail
  go_quiet ((go_at_call 36; exact Calls.quiet_of_same (HL.out _)))
  go_wp2_with fail
  go_region_with (go_at_call 37; refine (HS.out _).mono ?_; rintro e w2 ⟨rfl, hO, hg⟩)
  all_goals
    go_wp2_with fail
    go_ret
    exact ⟨rfl, hO, Nx.gb (gb_trans (gb_drew w _ _) hg)⟩

set_option maxHeartbeats 800000 in
theorem LossF_no (h : Ri w c s ml fl) (hI : Inv s) (hk : losOk s t tr = false) (cp : w.cell? ⟨po, 0, none⟩ = some (.pointer (some ⟨c, 0, none⟩))) (cn : w.cell? ⟨pn, 0, none⟩ = some (.int .i64 t)) (ct : w.cell? ⟨pt, 0, none⟩ = some (.int .i64 tr)) :
    Calls Try.prog 34 #[.pointer (some ⟨po, 0, none⟩), .pointer (some ⟨pn, 0, none⟩), .pointer (some ⟨pt, 0, none⟩)] w fun e w' => e = .panicked [{ v := .iface 26 (.int .i64 7), recovered := false }] ∧ Below w.heap.size w w' := by
  have HA := Lib.hid (ask_any h hI.t1)
  have HL := Lib.hid (fun k => askLoss_no (rings_drewN h k : Ri (w.drewN k) c s ml fl) hk)
  clear h hI hk
  go_enter Try.func34, Try.ntmps34
  go_wp2_with fail
  refine HA.out.mono ?_
  rintro e w1 ⟨rfl, rfl⟩
  go_wp2_with fail
  go_region_dies
  all_goals
    refine (HL.out 1).mono ?_
    rintro e w1 ⟨rfl, rfl⟩
    exact ⟨rfl, rfl, below_drewN (Below.refl w.heap.size w) 1⟩

set_option maxHeartbeats 800000 in
theorem OutF_yes (h : Ri w c s ml fl) (hI : Inv s) (hk : wn t s.now 1000000000 = true) (cp : Cel w c ml fl po 0 (.pointer (some ⟨c, 0, none⟩))) (cn : Cel w c ml fl pn 0 (.int .i64 t)) :
    Calls Try.prog 38 #[.pointer (some ⟨po, 0, none⟩), .pointer (some ⟨pn, 0, none⟩)] w fun e w' => e = .returned (.bool true) ∧ Ri w' c (out' s t) ml fl ∧ Nx w w' c ml fl ml fl := by
  have c0 := h.ctl.c0
  have c4 := h.ctl.c4
  have f0 := h.ctl.fz 0
  have f4 := h.ctl.fz 4
  have p1 := cp.cell
  have p2 := cn.cell
  have HR := Lib.hid h
  have HA := Lib.hid (ask_any h hI.t1)
  have HL := Lib.hid (fun k => (askTime_yes (rings_drewN h k) hk).mono (R' := fun e w' => e = .returned (.tuple #[]) ∧ w' = w.drewN k) fun _ _ h => ⟨h.1, h.2.symm⟩)
  have HK := Lib.hid hk
  have hpc : po ≠ c := fun e => cp.no (.inl e)
  clear h hI hk cp cn
  go_enter Try.func38, Try.ntmps38
  go_wp2_with fail
  refine HA.out.mono ?_
  rintro e w1 ⟨rfl, rfl⟩
  go_wp2_with fail
  go_quiet ((go_at_call 39; exact Calls.quiet_of_same (HL.out _)))
  go_wp2
  go_ret
  have hC : Ctl (((w.drewN nq).setCell ⟨c, 0, none⟩ (.int .i64 t)).setCell ⟨c, 4, none⟩ (.int .i64 1500)) c t s.hv s.at' s.target 1500 ml fl := ((rings_drewN HR.out nq).ctl.set0 t).set4 1500
  have hg : w.grownBy (((w.drewN nq).setCell ⟨c, 0, none⟩ (.int .i64 t)).setCell ⟨c, 4, none⟩ (.int .i64 1500)) (some c) := gb_trans (gb_trans (gb_drew w nq _) (gb_set _ c 0 _)) (gb_set _ c 4 _)
  exact ⟨rfl, by unfold out'; rw [HK.out]; exact rings_ctl HR.out hC hg, Nx.gb hg⟩

set_option maxHeartbeats 800000 in
theorem OutF_no (h : Ri w c s ml fl) (hI : Inv s) (hk : wn t s.now 1000000000 = false) (cp : w.cell? ⟨po, 0, none⟩ = some (.pointer (some ⟨c, 0, none⟩))) (cn : w.cell? ⟨pn, 0, none⟩ = some (.int .i64 t)) :
    Calls Try.prog 38 #[.pointer (some ⟨po, 0, none⟩), .pointer (some ⟨pn, 0, none⟩)] w fun e w' => e = .panicked [{ v := .iface 26 (.int .i64 7), recovered := false }] ∧ Below w.heap.size w w' := by
  have HA := Lib.hid (ask_any h hI.t1)
  have HL := Lib.hid (fun k => askTime_no (rings_drewN h k) hk)
  clear h hI hk
  go_enter Try.func38, Try.ntmps38
  go_wp2_with fail
  refine HA.out.mono ?_
  rintro e w1 ⟨rfl, rfl⟩
  go_wp2_with fail
  go_region_dies
  all_goals
    refine (HL.out 1).mono ?_
    rintro e w1 ⟨rfl, rfl⟩
    exact ⟨rfl, rfl, below_drewN (Below.refl w.heap.size w) 1⟩

theorem row_len {w : World} {size n : Nat} {v : Value} {xs : List Value} (h : Row w size v n xs) : ∃ a cap, v = .slice a n cap := by
  rcases h.val with ⟨rfl, h0⟩ | ⟨g, off, cap, rfl, _⟩
  · exact ⟨_, _, by rw [h0]⟩
  · exact ⟨_, _, rfl⟩
set_option maxHeartbeats 800000 in
theorem QueF_yes (h : Ri w c s ml fl) (hI : Inv s) (hz : s.zs ≠ []) (cp : w.cell? ⟨po, 0, none⟩ = some (.pointer (some ⟨c, 0, none⟩))) :
    Calls Try.prog 49 #[.pointer (some ⟨po, 0, none⟩)] w fun e w' => e = .returned (.int .i64 (qd s.bs s.zs)) ∧ Below w.heap.size w w' := by
  obtain ⟨a, cap, hfl⟩ := row_len h.rf
  have c8 := h.ctl.c8
  rw [hfl] at c8
  have hn : 0 < s.zs.length := List.length_pos_iff.2 hz
  have HA := Lib.hid (ask_any h hI.t1)
  have HQ := Lib.hid (queueing_any h (hI.ne hz) hz)
  obtain ⟨q, hq⟩ : ∃ q, qd s.bs s.zs = q := ⟨_, rfl⟩
  rw [hq] at HQ ⊢
  clear h hI hz hfl hq
  generalize s.zs.length = n at hn c8
  have hb : ((n : Int) == 0) = false := by simp; omega
  go_enter Try.func49, Try.ntmps49
  go_wp2_with fail
  refine HA.out.mono ?_
  rintro e w1 ⟨rfl, rfl⟩
  go_wp2_with fail
  refine (Eb.refuse_no _ _).mono ?_
  rintro e w1 ⟨rfl, rfl⟩
  go_wp2_with fail
  refine HQ.out.mono ?_
  rintro e w1 ⟨rfl, hb1⟩
  go_wp2
  go_ret
  exact ⟨rfl, hb1⟩
set_option maxHeartbeats 800000 in
theorem QueF_no (h : Ri w c s ml fl) (hI : Inv s) (hz : s.zs = []) (cp : w.cell? ⟨po, 0, none⟩ = some (.pointer (some ⟨c, 0, none⟩))) :
    Calls Try.prog 49 #[.pointer (some ⟨po, 0, none⟩)] w fun e w' => e = .panicked [{ v := .iface 26 (.int .i64 8), recovered := false }] ∧ Below w.heap.size w w' := by
  have h2 := h.rf
  rw [hz] at h2
  obtain ⟨a, cap, hfl⟩ := row_len h2
  have c8 := h.ctl.c8
  rw [hfl] at c8
  simp only [List.length_nil] at c8
  have HA := Lib.hid (ask_any h hI.t1)
  clear h hI hz hfl h2
  go_enter Try.func49, Try.ntmps49
  go_wp2_with fail
  refine HA.out.mono ?_
  rintro e w1 ⟨rfl, rfl⟩
  go_wp2_with fail
  refine (Eb.refuse_yes _ _).mono ?_
  rintro e w1 ⟨rfl, rfl⟩
  go_wp2_with fail
  simp [bodyPost]
  exact Below.refl w.heap.size w

set_option maxHeartbeats 400000 in
theorem Limit_any (h : Ri w c s ml fl) :
    Calls Try.prog 12 #[.pointer (some ⟨c, 0, none⟩)] w fun e w' => e = .returned (.int .i64 s.limit) ∧ w = w' := by
  have c4 := h.ctl.c4
  clear h
  go_enter Try.func12, Try.ntmps12
  go_wp2
  go_ret
  exact ⟨rfl, rfl⟩
end
end Go.Proofs.Ythjhbceepkoifaa.Fk
