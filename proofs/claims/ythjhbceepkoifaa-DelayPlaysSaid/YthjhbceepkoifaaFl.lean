/-
  New, Loss, Out, Queueing of a control at any fill: the program's methods.
-/
import Derived.Test.YthjhbceepkoifaaFk
namespace Go.Proofs.Ythjhbceepkoifaa.Fl
open Go Go.RowKit Go.Proofs.Ythjhbceepkoifaa.Ec Go.Proofs.Ythjhbceepkoifaa.Ee Go.Proofs.Ythjhbceepkoifaa.Rg Go.Proofs.Ythjhbceepkoifaa.Fa Go.Proofs.Ythjhbceepkoifaa.Fb Go.Proofs.Ythjhbceepkoifaa.Fc Go.Proofs.Ythjhbceepkoifaa.Fd Go.Proofs.Ythjhbceepkoifaa.Fe Go.Proofs.Ythjhbceepkoifaa.Fg Go.Proofs.Ythjhbceepkoifaa.Fh Go.Proofs.Ythjhbceepkoifaa.Fi Go.Proofs.Ythjhbceepkoifaa.Fj Go.Proofs.Ythjhbceepkoifaa.Fk

section
variable {w : World} {c : Nat} {s : St} {ml fl : Value} {t tr : Int}
set_option maxHeartbeats 2000000 in
theorem Loss_any (h : Ri w c s ml fl) (hI : Inv s) (t tr : Int) :
    Calls Try.prog 13 #[.pointer (some ⟨c, 0, none⟩), .int .i64 t, .int .i64 tr] w fun e w' => e = .returned (.tuple #[.bool (losR s t tr), .int .i64 (losE s t tr)]) ∧
      ∃ ml' fl', Ri w' c (los s t tr) ml' fl' ∧ Nx w w' c ml fl ml' fl' := by
  have hmf : ∀ (fn : Fn) (first cap : Array Value) (w : World), (Instr.makeFunc fn first cap).run Try.prog w = .ok (.func fn first cap) w := fun _ _ _ _ => rfl
  obtain ⟨wA, hwA⟩ : ∃ wA, ((w.alloc (.cells #[.pointer (some ⟨c, 0, none⟩)] 25)).alloc (.cells #[.int .i64 t] 3)).alloc (.cells #[.int .i64 tr] 3) = wA := ⟨_, rfl⟩
  have hgA : w.grownBy wA none := by
    rw [← hwA]; exact gb_trans (gb_trans (World.grownBy_alloc _ _ _) (World.grownBy_alloc _ _ _)) (World.grownBy_alloc _ _ _)
  have nA : Nx w wA c ml fl ml fl := Nx.gbn hgA
  have hRA : Ri wA c s ml fl := rings_kb h (Kb.of hgA (may := fun _ => False) (by simp)) (fun _ _ h => h)
  have k1 : Cel wA c ml fl w.heap.size 0 (.pointer (some ⟨c, 0, none⟩)) := by rw [← hwA]; exact cel_old h (by omega) (by simp [go_sem])
  have k2 : Cel wA c ml fl (w.heap.size + 1) 0 (.int .i64 t) := by rw [← hwA]; exact cel_old h (by omega) (by simp [go_sem])
  have k3 : Cel wA c ml fl (w.heap.size + 2) 0 (.int .i64 tr) := by rw [← hwA]; exact cel_old h (by omega) (by simp [go_sem])
  have nW : Nx wA (Ea.aw wA) c ml fl ml fl := Nx.gbn (gbW wA)
  have hRW : Ri (Ea.aw wA) c s ml fl := rings_kb hRA (Kb.of (gbW wA) (may := fun _ => False) (by simp)) (fun _ _ h => h)
  cases hok : losOk s t tr
  · have hA := Ea.attempt_err 34 #[.pointer (some ⟨w.heap.size, 0, none⟩), .pointer (some ⟨w.heap.size + 1, 0, none⟩), .pointer (some ⟨w.heap.size + 2, 0, none⟩)] 7 wA enterLoss (LossF_no hRW hI hok (k1.nx nW).cell (k2.nx nW).cell (k3.nx nW).cell)
    have HA := Lib.hid hA
    have HR := Lib.hid hRA
    have HN := Lib.hid nA
    have HO := Lib.hid hok
    have HW := Lib.hid hwA
    clear hA hRW hRA k1 k2 k3 nA nW hgA h hok hI
    go_enter Try.func13, Try.ntmps13
    go_wp2_with fail
    refine HA.out.mono ?_
    rintro e w2 ⟨rfl, hb2⟩
    go_wp2
    go_ret2
    refine ⟨by unfold losE losR; rw [HO.out]; rfl, ml, fl, ?_, HN.out.trans (Nx.gbn (gb_below hb2 none))⟩
    unfold los; rw [HO.out]
    exact HR.out.below hb2
  · have hF := LossF_yes hRW hI hok (k1.nx nW).cell (k2.nx nW).cell (k3.nx nW).cell
    have hA := att_ri 34 #[.pointer (some ⟨w.heap.size, 0, none⟩), .pointer (some ⟨w.heap.size + 1, 0, none⟩), .pointer (some ⟨w.heap.size + 2, 0, none⟩)] (!soon s t tr) wA c s (los s t tr) ml fl hRA enterLoss (hF.mono fun _ _ ⟨a, b, d⟩ => ⟨a, ml, fl, b, d⟩)
    have HE : Hid (losE s t tr = 0 ∧ losR s t tr = !soon s t tr) := Lib.hid ⟨by unfold losE; rw [hok]; rfl, by unfold losR; rw [hok]; rfl⟩
    have HA := Lib.hid hA
    have HN := Lib.hid nA
    have HW := Lib.hid hwA
    clear hA hF hRW hRA k1 k2 k3 nA nW hgA h hok hI
    generalize soon s t tr = r at HA HE
    generalize los s t tr = s' at HA ⊢
    rw [HE.out.1, HE.out.2]
    clear HE
    go_enter Try.func13, Try.ntmps13
    go_wp2_with fail
    refine HA.out.mono ?_
    rintro e w2 ⟨rfl, ml', fl', hR2, n2⟩
    go_wp2
    go_ret2
    exact ⟨rfl, ml', fl', hR2, HN.out.trans n2⟩

set_option maxHeartbeats 2000000 in
theorem Out_any (h : Ri w c s ml fl) (hI : Inv s) (t : Int) :
    Calls Try.prog 14 #[.pointer (some ⟨c, 0, none⟩), .int .i64 t] w fun e w' => e = .returned (.int .i64 (outE s t)) ∧
      ∃ ml' fl', Ri w' c (out' s t) ml' fl' ∧ Nx w w' c ml fl ml' fl' := by
  have hmf : ∀ (fn : Fn) (first cap : Array Value) (w : World), (Instr.makeFunc fn first cap).run Try.prog w = .ok (.func fn first cap) w := fun _ _ _ _ => rfl
  obtain ⟨wA, hwA⟩ : ∃ wA, (w.alloc (.cells #[.pointer (some ⟨c, 0, none⟩)] 25)).alloc (.cells #[.int .i64 t] 3) = wA := ⟨_, rfl⟩
  have hgA : w.grownBy wA none := by
    rw [← hwA]; exact gb_trans (World.grownBy_alloc _ _ _) (World.grownBy_alloc _ _ _)
  have nA : Nx w wA c ml fl ml fl := Nx.gbn hgA
  have hRA : Ri wA c s ml fl := rings_kb h (Kb.of hgA (may := fun _ => False) (by simp)) (fun _ _ h => h)
  have k1 : Cel wA c ml fl w.heap.size 0 (.pointer (some ⟨c, 0, none⟩)) := by rw [← hwA]; exact cel_old h (by omega) (by simp [go_sem])
  have k2 : Cel wA c ml fl (w.heap.size + 1) 0 (.int .i64 t) := by rw [← hwA]; exact cel_old h (by omega) (by simp [go_sem])
  have nW : Nx wA (Ea.aw wA) c ml fl ml fl := Nx.gbn (gbW wA)
  have hRW : Ri (Ea.aw wA) c s ml fl := rings_kb hRA (Kb.of (gbW wA) (may := fun _ => False) (by simp)) (fun _ _ h => h)
  cases hok : wn t s.now 1000000000
  · have hA := Ea.attempt_err 38 #[.pointer (some ⟨w.heap.size, 0, none⟩), .pointer (some ⟨w.heap.size + 1, 0, none⟩)] 7 wA enterOut (OutF_no hRW hI hok (k1.nx nW).cell (k2.nx nW).cell)
    have HA := Lib.hid hA
    have HR := Lib.hid hRA
    have HN := Lib.hid nA
    have HO := Lib.hid hok
    have HW := Lib.hid hwA
    clear hA hRW hRA k1 k2 nA nW hgA h hok hI
    go_enter Try.func14, Try.ntmps14
    go_wp2_with fail
    refine HA.out.mono ?_
    rintro e w2 ⟨rfl, hb2⟩
    go_wp2
    go_ret
    refine ⟨by unfold outE; rw [HO.out]; rfl, ml, fl, ?_, HN.out.trans (Nx.gbn (gb_below hb2 none))⟩
    unfold out'; rw [HO.out]
    exact HR.out.below hb2
  · have hF := OutF_yes hRW hI hok (k1.nx nW) (k2.nx nW)
    have hA := att_ri 38 #[.pointer (some ⟨w.heap.size, 0, none⟩), .pointer (some ⟨w.heap.size + 1, 0, none⟩)] true wA c s (out' s t) ml fl hRA enterOut (hF.mono fun _ _ ⟨a, b, d⟩ => ⟨a, ml, fl, b, d⟩)
    have HE : Hid (outE s t = 0) := Lib.hid (by unfold outE; rw [hok]; rfl)
    have HA := Lib.hid hA
    have HN := Lib.hid nA
    have HW := Lib.hid hwA
    clear hA hF hRW hRA k1 k2 nA nW hgA h hok hI
    generalize out' s t = s' at HA ⊢
    rw [HE.out]
    clear HE
    go_enter Try.func14, Try.ntmps14
    go_wp2_with fail
    refine HA.out.mono ?_
    rintro e w2 ⟨rfl, ml', fl', hR2, n2⟩
    go_wp2
    go_ret
    exact ⟨rfl, ml', fl', hR2, HN.out.trans n2⟩

set_option maxHeartbeats 2000000 in
theorem Queueing_any (h : Ri w c s ml fl) (hI : Inv s) :
    Calls Try.prog 16 #[.pointer (some ⟨c, 0, none⟩)] w fun e w' => e = .returned (.tuple #[.int .i64 (que s), .int .i64 (queE s)]) ∧ Below w.heap.size w w' := by
  have hmf : ∀ (fn : Fn) (first cap : Array Value) (w : World), (Instr.makeFunc fn first cap).run Try.prog w = .ok (.func fn first cap) w := fun _ _ _ _ => rfl
  obtain ⟨wA, hwA⟩ : ∃ wA, w.alloc (.cells #[.pointer (some ⟨c, 0, none⟩)] 25) = wA := ⟨_, rfl⟩
  have hbA : Below w.heap.size w wA := by rw [← hwA]; exact (Below.refl _ _).alloc (Nat.le_refl _) _
  have hRA : Ri wA c s ml fl := h.below hbA
  have hbW : Below wA.heap.size wA (Fp.aw wA) := by unfold Fp.aw; exact ((Below.refl _ _).alloc (Nat.le_refl _) _).alloc (by simp) _
  have hRW : Ri (Fp.aw wA) c s ml fl := hRA.below hbW
  have k1 : wA.cell? ⟨w.heap.size, 0, none⟩ = some (.pointer (some ⟨c, 0, none⟩)) := by rw [← hwA]; simp [go_sem]
  have k2 : (Fp.aw wA).cell? ⟨w.heap.size, 0, none⟩ = some (.pointer (some ⟨c, 0, none⟩)) := (hbW.cell (p := ⟨w.heap.size, 0, none⟩) (by rw [← hwA]; simp)).trans k1
  by_cases hz : s.zs = []
  · have hA := Fp.attempt_err 49 #[.pointer (some ⟨w.heap.size, 0, none⟩)] 8 wA enterQue (QueF_no hRW hI hz k2)
    have HE : Hid (que s = 0 ∧ queE s = 8) := Lib.hid ⟨if_pos hz, if_pos hz⟩
    have HA := Lib.hid hA
    have HB := Lib.hid hbA
    have HW := Lib.hid hwA
    clear hA hRW hRA k1 k2 hbW hbA h hI hz
    rw [HE.out.1, HE.out.2]
    go_enter Try.func16, Try.ntmps16
    go_wp2_with fail
    refine HA.out.mono ?_
    rintro e w2 ⟨rfl, hb2⟩
    go_wp2
    go_ret2
    exact ⟨rfl, Hz.blw HB.out hb2⟩
  · have hA := Fp.attempt_ret 49 #[.pointer (some ⟨w.heap.size, 0, none⟩)] (qd s.bs s.zs) wA enterQue (QueF_yes hRW hI hz k2)
    have HE : Hid (que s = qd s.bs s.zs ∧ queE s = 0) := Lib.hid ⟨if_neg hz, if_neg hz⟩
    have HA := Lib.hid hA
    have HB := Lib.hid hbA
    have HW := Lib.hid hwA
    clear hA hRW hRA k1 k2 hbW hbA h hI hz
    rw [HE.out.1, HE.out.2]
    generalize qd s.bs s.zs = q at HA ⊢
    go_enter Try.func16, Try.ntmps16
    go_wp2_with fail
    refine HA.out.mono ?_
    rintro e w2 ⟨rfl, hb2⟩
    go_wp2
    go_ret2
    exact ⟨rfl, Hz.blw HB.out hb2⟩
end

/-- a new control -/
def new0 (target : Int) : St := ⟨0, false, 0, target, 3000, [], []⟩
theorem new0_inv {target : Int} (h : wn target 1 1000 = true) : Inv (new0 target) := by
  obtain ⟨h1, h2⟩ := wn_in h
  exact ⟨Int.le_refl _, (by decide : (0 : Int) ≤ 1000000000), Int.le_refl _, (by decide : (0 : Int) ≤ 1000000000), h1, h2, (by decide : (1500 : Int) ≤ 3000), (by decide : (3000 : Int) ≤ 1000000), fun h => absurd rfl h⟩

set_option maxHeartbeats 1000000 in
theorem NewF_yes (pt : Nat) (target : Int) (w : World) (ht : w.cell? ⟨pt, 0, none⟩ = some (.int .i64 target)) (hw : wn target 1 1000 = true) :
    Calls Try.prog 18 #[.pointer (some ⟨pt, 0, none⟩)] w fun e w1 => e = .returned (.pointer (some ⟨w.heap.size, 0, none⟩)) ∧
      Ctl w1 w.heap.size 0 false 0 target 3000 (.slice none 0 0) (.slice none 0 0) ∧ Below w.heap.size w w1 := by
  have HW := Lib.hid (within_t _ _ _ hw)
  clear hw
  go_enter Try.func18, Try.ntmps18
  go_wp2_with fail
  refine (HW.out _).mono ?_
  rintro e w1 ⟨rfl, rfl⟩
  go_wp2_with fail
  refine (Eb.refuse_no _ _).mono ?_
  rintro e w1 ⟨rfl, rfl⟩
  go_wp2
  go_ret
  exact ⟨rfl, World.alloc_heap_new _ _, (Below.refl _ _).alloc (Nat.le_refl _) _⟩
set_option maxHeartbeats 1000000 in
theorem NewF_no (pt : Nat) (target : Int) (w : World) (ht : w.cell? ⟨pt, 0, none⟩ = some (.int .i64 target)) (hw : wn target 1 1000 = false) :
    Calls Try.prog 18 #[.pointer (some ⟨pt, 0, none⟩)] w fun e w' => e = .panicked [{ v := .iface 26 (.int .i64 7), recovered := false }] ∧ Below w.heap.size w w' := by
  have HW := Lib.hid (within_f _ _ _ hw)
  clear hw
  go_enter Try.func18, Try.ntmps18
  go_wp2_with fail
  refine (HW.out _).mono ?_
  rintro e w1 ⟨rfl, rfl⟩
  go_wp2_with fail
  refine (Eb.refuse_yes _ _).mono ?_
  rintro e w1 ⟨rfl, rfl⟩
  go_wp2_with fail
  simp [bodyPost]
  exact Below.refl w.heap.size w

set_option maxHeartbeats 1000000 in
theorem New_no (target : Int) (w : World) (hw : wn target 1 1000 = false) :
    Calls Try.prog 8 #[.int .i64 target] w fun e w' => e = .returned (.tuple #[.pointer none, .int .i64 7]) ∧ Below w.heap.size w w' := by
  have hmf : ∀ (fn : Fn) (first cap : Array Value) (w : World), (Instr.makeFunc fn first cap).run Try.prog w = .ok (.func fn first cap) w := fun _ _ _ _ => rfl
  have HA := Lib.hid (Eb.attempt_err 18 #[.pointer (some ⟨w.heap.size, 0, none⟩)] 7 (w.alloc (.cells #[.int .i64 target] 3)) enterNew (NewF_no w.heap.size target (Eb.aw (w.alloc (.cells #[.int .i64 target] 3))) (by simp [Eb.aw, go_sem]) hw))
  clear hw
  go_enter Try.func8, Try.ntmps8
  go_wp2_with fail
  refine HA.out.mono ?_
  rintro e w2 ⟨rfl, hb⟩
  go_wp2
  go_ret2
  exact ⟨rfl, Hz.below_alloc _ hb⟩
set_option maxHeartbeats 1000000 in
theorem New_yes (target : Int) (w : World) (hw : wn target 1 1000 = true) :
    Calls Try.prog 8 #[.int .i64 target] w fun e w' => e = .returned (.tuple #[.pointer (some ⟨w.heap.size + 3, 0, none⟩), .int .i64 0]) ∧
      Ri w' (w.heap.size + 3) (new0 target) (.slice none 0 0) (.slice none 0 0) ∧ Below w.heap.size w w' := by
  have hmf : ∀ (fn : Fn) (first cap : Array Value) (w : World), (Instr.makeFunc fn first cap).run Try.prog w = .ok (.func fn first cap) w := fun _ _ _ _ => rfl
  have hsz : (Eb.aw (w.alloc (.cells #[.int .i64 target] 3))).heap.size = w.heap.size + 3 := by simp [Eb.aw]
  have hF := NewF_yes w.heap.size target (Eb.aw (w.alloc (.cells #[.int .i64 target] 3))) (by simp [Eb.aw, go_sem]) hw
  rw [hsz] at hF
  have hA := Eb.attempt_gen 18 #[.pointer (some ⟨w.heap.size, 0, none⟩)] (some ⟨w.heap.size + 3, 0, none⟩) (w.alloc (.cells #[.int .i64 target] 3))
    (fun w1 => Ctl w1 (w.heap.size + 3) 0 false 0 target 3000 (.slice none 0 0) (.slice none 0 0) ∧ Below (w.heap.size + 3) (Eb.aw (w.alloc (.cells #[.int .i64 target] 3))) w1) enterNew hF
    (fun w1 h => by
      have e1 := h.2.cell (p := ⟨w.heap.size + 1, 0, none⟩) (by simp)
      have e2 := h.2.cell (p := ⟨w.heap.size + 2, 0, none⟩) (by simp)
      have e3 := h.2.frozen (p := ⟨w.heap.size + 1, 0, none⟩) (by simp)
      have e4 := h.2.frozen (p := ⟨w.heap.size + 2, 0, none⟩) (by simp)
      simp only [World.size_alloc]
      exact ⟨⟨none, e1.trans (by simp [Eb.aw, go_sem])⟩, e3.trans (by simp [Eb.aw, go_sem]), ⟨0, e2.trans (by simp [Eb.aw, go_sem])⟩, e4.trans (by simp [Eb.aw, go_sem])⟩)
  have HA := Lib.hid hA
  clear hA hF hw
  go_enter Try.func8, Try.ntmps8
  go_wp2_with fail
  refine HA.out.mono ?_
  rintro e w2 ⟨rfl, w1, ⟨hC, hB⟩, rfl⟩
  go_wp2
  go_ret2
  refine ⟨rfl, ?_, ?_⟩
  · exact ⟨(hC.kept (gb_set w1 (w.heap.size + 1) 0 _) (by simp)).kept (gb_set _ (w.heap.size + 1 + 1) 0 _) (by simp), Row.nil _ _, Row.nil _ _, by simp [new0], by simp [new0], by simp [Value.ownBlock], by simp [Value.ownBlock], by simp [Value.ownBlock]⟩
  · have h0 : Below w.heap.size w (Eb.aw (w.alloc (.cells #[.int .i64 target] 3))) := (((Below.refl _ w).alloc (Nat.le_refl _) _).alloc (by simp) _).alloc (by simp; omega) _
    exact ((h0.trans (hB.mono (by omega))).setCell (p := ⟨w.heap.size + 1, 0, none⟩) (by simp) _).setCell (p := ⟨w.heap.size + 1 + 1, 0, none⟩) (by simp; omega) _
end Go.Proofs.Ythjhbceepkoifaa.Fl
