/-
  Sample at any fill.
-/
import Derived.Test.YthjhbceepkoifaaFh
import Derived.RegionDies
namespace Go.Proofs.Ythjhbceepkoifaa.Fi
open Go Go.RowKit Go.Proofs.Ythjhbceepkoifaa.Ec Go.Proofs.Ythjhbceepkoifaa.Ee Go.Proofs.Ythjhbceepkoifaa.Rg Go.Proofs.Ythjhbceepkoifaa.Fa Go.Proofs.Ythjhbceepkoifaa.Fb Go.Proofs.Ythjhbceepkoifaa.Fc Go.Proofs.Ythjhbceepkoifaa.Fd Go.Proofs.Ythjhbceepkoifaa.Fe Go.Proofs.Ythjhbceepkoifaa.Fg Go.Proofs.Ythjhbceepkoifaa.Fh

/-- the five boxed parameters -/
structure Bx (W : World) (c : Nat) (ml fl : Value) (pc pn pb pd pu : Nat) (t b d u : Int) : Prop where
  bc : Cel W c ml fl pc 0 (.pointer (some ⟨c, 0, none⟩))
  bn : Cel W c ml fl pn 0 (.int .i64 t)
  bb : Cel W c ml fl pb 0 (.int .i64 b)
  bd : Cel W c ml fl pd 0 (.int .i64 d)
  bu : Cel W c ml fl pu 0 (.int .i64 u)
theorem Bx.nx {W W' : World} {c pc pn pb pd pu : Nat} {ml fl m1 f1 : Value} {t b d u : Int} (h : Bx W c ml fl pc pn pb pd pu t b d u) (n : Nx W W' c ml fl m1 f1) : Bx W' c m1 f1 pc pn pb pd pu t b d u :=
  ⟨h.bc.nx n, h.bn.nx n, h.bb.nx n, h.bd.nx n, h.bu.nx n⟩
def Fs (W : World) (c : Nat) (ml fl : Value) (fs pc pn pb pd pu : Nat) : Prop := ∀ k v, (fnc pc pn pb pd pu)[k]? = some v → Cel W c ml fl fs k v
theorem Fs.nx {W W' : World} {c fs pc pn pb pd pu : Nat} {ml fl m1 f1 : Value} (h : Fs W c ml fl fs pc pn pb pd pu) (n : Nx W W' c ml fl m1 f1) : Fs W' c m1 f1 fs pc pn pb pd pu := fun k v hk => (h k v hk).nx n

/-- what a sample asks -/
def okS (now t b d u : Int) : Bool := wn t now 1000000000 && (wn b 0 1000000 && (wn d 0 4294967295 && wn u 0 1000000))

section
variable {w : World} {c : Nat} {now : Int} {hv : Bool} {at' target limit : Int} {bs : List (Int × Int)} {zs : List Int} {ml fl : Value} {pc pn pb pd pu : Nat} {t b d u : Int}
set_option maxRecDepth 100000 in
set_option maxHeartbeats 4000000 in
theorem sampleF_yes (h : Rings w c now hv at' target limit bs zs ml fl) (hB : Bx w c ml fl pc pn pb pd pu t b d u) (ht : 1 ≤ target ∧ target ≤ 1000) (hl : 1500 ≤ limit ∧ limit ≤ 1000000) (hn : 0 ≤ now) (hok : okS now t b d u = true) :
    Calls Try.prog 40 #[.pointer (some ⟨pc, 0, none⟩), .pointer (some ⟨pn, 0, none⟩), .pointer (some ⟨pb, 0, none⟩), .pointer (some ⟨pd, 0, none⟩), .pointer (some ⟨pu, 0, none⟩)] w fun e w' => e = .returned (.bool true) ∧
      ∃ ml' fl', Rings w' c t hv at' target (mvd target limit (qd (cpt (t / 60000) d bs) (trim 4 (zs ++ [d]))) b u) (cpt (t / 60000) d bs) (trim 4 (zs ++ [d])) ml' fl' ∧ Nx w w' c ml fl ml' fl' := by
  have hmf : ∀ (fn : Fn) (first cap : Array Value) (w : World), (Instr.makeFunc fn first cap).run Try.prog w = .ok (.func fn first cap) w := fun _ _ _ _ => rfl
  obtain ⟨o1, o2, o3, o4⟩ : wn t now 1000000000 = true ∧ wn b 0 1000000 = true ∧ wn d 0 4294967295 = true ∧ wn u 0 1000000 = true := by unfold okS at hok; simpa using hok
  obtain ⟨t1, t2⟩ := wn_in o1
  have t0 : 0 ≤ t := by omega
  have HWb := Lib.hid (within_t _ _ _ o2)
  have HWd := Lib.hid (within_t _ _ _ o3)
  have HWu := Lib.hid (within_t _ _ _ o4)
  have bc := hB.bc.cell
  have bn := hB.bn.cell
  have bb := hB.bb.cell
  have bd := hB.bd.cell
  have bu := hB.bu.cell
  have HR := Lib.hid h
  have HB := Lib.hid hB
  have HT := Lib.hid (fun k => (askTime_yes (rings_drewN h k) o1).mono (R' := fun e w' => e = .returned (.tuple #[]) ∧ w' = w.drewN k) fun _ _ h => ⟨h.1, h.2.symm⟩)
  have Ho2 := Lib.hid o2
  have Ho4 := Lib.hid o4
  have Ht := Lib.hid ht
  have Hl := Lib.hid hl
  clear h hB hok o1 o2 o3 o4 hl
  go_enter Try.func40, Try.ntmps40
  go_wp2_with fail
  refine (ask_any HR.out ht.1).mono ?_
  rintro e w1 ⟨rfl, rfl⟩
  clear ht
  go_wp2_with fail
  go_quiet ((go_at_call 39; exact Calls.quiet_of_same (HT.out _)))
  go_wp2_with fail
  refine (HWb.out _).mono ?_
  rintro e w2 ⟨rfl, rfl⟩
  go_wp2_with fail
  refine (HWd.out _).mono ?_
  rintro e w2 ⟨rfl, rfl⟩
  go_wp2_with fail
  refine (HWu.out _).mono ?_
  rintro e w2 ⟨rfl, rfl⟩
  go_wp2_with fail
  refine (Eb.refuse_no _ _).mono ?_
  rintro e w2 ⟨rfl, rfl⟩
  clear HWb HWd HWu HT
  go_wp2_with fail
  obtain ⟨W0, hW0⟩ : ∃ W0, (w.drewN nq).alloc (.cells (fnc pc pn pb pd pu) 1) = W0 := ⟨_, rfl⟩
  have hN0 : Nx w W0 c ml fl ml fl := by rw [← hW0]; exact (Nx.drew w nq c ml fl).trans (Nx.gbn (World.grownBy_alloc _ _ _))
  have hR0 : Rings W0 c now hv at' target limit bs zs ml fl := rings_kb HR.out (show Kb w W0 (fun _ => False) by rw [← hW0]; exact (Kb.of (gb_drew w nq none) (by simp)).trans (Kb.of (World.grownBy_alloc _ _ none) (by simp))) (fun _ _ h => h)
  have hB0 := HB.out.nx hN0
  have hF0 : Fs W0 c ml fl w.heap.size pc pn pb pd pu := fun k v hk => ⟨by rw [← hW0]; exact (World.cell?_alloc_at (w := w.drewN nq) _ _ w.heap.size k rfl).trans hk, fun hb => by have := rings_lt HR.out _ hb; omega⟩
  have hW0' : (w.drewN nq).alloc (.cells #[.func (.func 41) #[] #[.pointer (some ⟨pn, 0, none⟩), .pointer (some ⟨pc, 0, none⟩)], .func (.func 42) #[] #[.pointer (some ⟨pc, 0, none⟩), .pointer (some ⟨pd, 0, none⟩)],
    .func (.func 44) #[] #[.pointer (some ⟨pc, 0, none⟩), .pointer (some ⟨pn, 0, none⟩), .pointer (some ⟨pd, 0, none⟩)], .func (.func 46) #[] #[.pointer (some ⟨pc, 0, none⟩), .pointer (some ⟨pb, 0, none⟩), .pointer (some ⟨pu, 0, none⟩)]] 1) = W0 := hW0
  rw [hW0']
  have HN0 := Lib.hid hN0
  have HR0 := Lib.hid hR0
  have HB0 := Lib.hid hB0
  have HF0 := Lib.hid hF0
  have x0 : W0.cell? ⟨w.heap.size, 0, none⟩ = some (.func (.func 41) #[] #[.pointer (some ⟨pn, 0, none⟩), .pointer (some ⟨pc, 0, none⟩)]) := (hF0 0 _ rfl).cell
  clear hW0 hW0' hN0 hR0 hB0 hF0 bc bn bb bd bu
  refine wp_loop_rounds 5 ?_
  rw [rounds_succ]
  go_wp2_with fail
  refine (cl1 HR0.out HB0.out.bc.cell HB0.out.bn.cell).mono ?_
  rintro e W1 ⟨rfl, hR1, n1⟩
  have HN1 := Lib.hid (HN0.out.trans n1)
  have HF1 := Lib.hid (HF0.out.nx n1)
  have HB1 := Lib.hid (HB0.out.nx n1)
  have HR1 := Lib.hid hR1
  have x1 : W1.cell? ⟨w.heap.size, 1, none⟩ = some (.func (.func 42) #[] #[.pointer (some ⟨pc, 0, none⟩), .pointer (some ⟨pd, 0, none⟩)]) := (HF1.out 1 _ rfl).cell
  clear hR1 n1 x0
  go_wp2_with fail
  rw [rounds_succ]
  go_wp2_with fail
  refine (cl2 HR1.out HB1.out.bc.cell HB1.out.bd.cell).mono ?_
  rintro e W2 ⟨rfl, fl2, hR2, n2⟩
  have HN2 := Lib.hid (HN1.out.trans n2)
  have HF2 := Lib.hid (HF1.out.nx n2)
  have HB2 := Lib.hid (HB1.out.nx n2)
  have HR2 := Lib.hid hR2
  have x2 : W2.cell? ⟨w.heap.size, 2, none⟩ = some (.func (.func 44) #[] #[.pointer (some ⟨pc, 0, none⟩), .pointer (some ⟨pn, 0, none⟩), .pointer (some ⟨pd, 0, none⟩)]) := (HF2.out 2 _ rfl).cell
  clear hR2 n2 x1
  go_wp2_with fail
  rw [rounds_succ]
  go_wp2_with fail
  refine (cl3 HR2.out t0 t2 HB2.out.bc.cell HB2.out.bn.cell HB2.out.bd.cell).mono ?_
  rintro e W3 ⟨rfl, ml3, hR3, n3⟩
  have HN3 := Lib.hid (HN2.out.trans n3)
  have HF3 := Lib.hid (HF2.out.nx n3)
  have HB3 := Lib.hid (HB2.out.nx n3)
  have HR3 := Lib.hid hR3
  have x3 : W3.cell? ⟨w.heap.size, 3, none⟩ = some (.func (.func 46) #[] #[.pointer (some ⟨pc, 0, none⟩), .pointer (some ⟨pb, 0, none⟩), .pointer (some ⟨pu, 0, none⟩)]) := (HF3.out 3 _ rfl).cell
  clear hR3 n3 x2
  go_wp2_with fail
  rw [rounds_succ]
  go_wp2_with fail
  refine (cl4 HR3.out (cpt_ne _ _ _) (trim_ne _ _ _ (by decide)) Ht.out Hl.out Ho2.out Ho4.out HB3.out.bc.cell HB3.out.bb.cell HB3.out.bu.cell).mono ?_
  rintro e W4 ⟨rfl, hR4, n4⟩
  have HN4 := Lib.hid (HN3.out.trans n4)
  have HR4 := Lib.hid hR4
  clear hR4 n4 x3
  go_wp2_with fail
  rw [rounds_succ]
  go_wp2
  go_ret
  exact ⟨rfl, _, _, HR4.out, HN4.out⟩

set_option maxRecDepth 100000 in
set_option maxHeartbeats 4000000 in
theorem sampleF_no (h : Rings w c now hv at' target limit bs zs ml fl) (hB : Bx w c ml fl pc pn pb pd pu t b d u) (ht : 1 ≤ target) (hok : okS now t b d u = false) :
    Calls Try.prog 40 #[.pointer (some ⟨pc, 0, none⟩), .pointer (some ⟨pn, 0, none⟩), .pointer (some ⟨pb, 0, none⟩), .pointer (some ⟨pd, 0, none⟩), .pointer (some ⟨pu, 0, none⟩)] w fun e w' => e = .panicked [{ v := .iface 26 (.int .i64 7), recovered := false }] ∧ Below w.heap.size w w' := by
  have bc := hB.bc.cell
  have bn := hB.bn.cell
  have bb := hB.bb.cell
  have bd := hB.bd.cell
  have bu := hB.bu.cell
  have HA := Lib.hid (ask_any h ht)
  cases o1 : wn t now 1000000000
  · have HL := Lib.hid (fun k => askTime_no (rings_drewN h k) o1)
    clear h hok o1
    go_enter Try.func40, Try.ntmps40
    go_wp2_with fail
    refine HA.out.mono ?_
    rintro e w1 ⟨rfl, rfl⟩
    go_wp2_with fail
    go_region_dies
    all_goals
      refine (HL.out 1).mono ?_
      rintro e w1 ⟨rfl, rfl⟩
      exact ⟨rfl, rfl, below_drewN (Below.refl w.heap.size w) 1⟩
  · have HT := Lib.hid (fun k => (askTime_yes (rings_drewN h k) o1).mono (R' := fun e w' => e = .returned (.tuple #[]) ∧ w' = w.drewN k) fun _ _ h => ⟨h.1, h.2.symm⟩)
    have ho2 : wn b 0 1000000 = true ∨ wn b 0 1000000 = false := by cases wn b 0 1000000 <;> simp
    have ho3 : wn d 0 4294967295 = true ∨ wn d 0 4294967295 = false := by cases wn d 0 4294967295 <;> simp
    rcases ho2 with o2 | o2
    · have HWb := Lib.hid (within_t _ _ _ o2)
      rcases ho3 with o3 | o3
      · have HWd := Lib.hid (within_t _ _ _ o3)
        have o4 : wn u 0 1000000 = false := by unfold okS at hok; simpa [o1, o2, o3] using hok
        have HWu := Lib.hid (within_f _ _ _ o4)
        clear h hok o1 o2 o3 o4
        go_enter Try.func40, Try.ntmps40
        go_wp2_with fail
        refine HA.out.mono ?_
        rintro e w1 ⟨rfl, rfl⟩
        go_wp2_with fail
        go_quiet ((go_at_call 39; exact Calls.quiet_of_same (HT.out _)))
        go_wp2_with fail
        refine (HWb.out _).mono ?_
        rintro e w2 ⟨rfl, rfl⟩
        go_wp2_with fail
        refine (HWd.out _).mono ?_
        rintro e w2 ⟨rfl, rfl⟩
        go_wp2_with fail
        refine (HWu.out _).mono ?_
        rintro e w2 ⟨rfl, rfl⟩
        go_wp2_with fail
        refine (Eb.refuse_yes _ _).mono ?_
        rintro e w2 ⟨rfl, rfl⟩
        go_wp2_with fail
        simp [bodyPost]
        exact below_drewN (Below.refl w.heap.size w) nq
      · have HWd := Lib.hid (within_f _ _ _ o3)
        clear h hok o1 o2 o3
        go_enter Try.func40, Try.ntmps40
        go_wp2_with fail
        refine HA.out.mono ?_
        rintro e w1 ⟨rfl, rfl⟩
        go_wp2_with fail
        go_quiet ((go_at_call 39; exact Calls.quiet_of_same (HT.out _)))
        go_wp2_with fail
        refine (HWb.out _).mono ?_
        rintro e w2 ⟨rfl, rfl⟩
        go_wp2_with fail
        refine (HWd.out _).mono ?_
        rintro e w2 ⟨rfl, rfl⟩
        go_wp2_with fail
        refine (Eb.refuse_yes _ _).mono ?_
        rintro e w2 ⟨rfl, rfl⟩
        go_wp2_with fail
        simp [bodyPost]
        exact below_drewN (Below.refl w.heap.size w) nq
    · have HWb := Lib.hid (within_f _ _ _ o2)
      clear h hok o1 o2 ho3
      go_enter Try.func40, Try.ntmps40
      go_wp2_with fail
      refine HA.out.mono ?_
      rintro e w1 ⟨rfl, rfl⟩
      go_wp2_with fail
      go_quiet ((go_at_call 39; exact Calls.quiet_of_same (HT.out _)))
      go_wp2_with fail
      refine (HWb.out _).mono ?_
      rintro e w2 ⟨rfl, rfl⟩
      go_wp2_with fail
      refine (Eb.refuse_yes _ _).mono ?_
      rintro e w2 ⟨rfl, rfl⟩
      go_wp2_with fail
      simp [bodyPost]
      exact below_drewN (Below.refl w.heap.size w) nq
end
end Go.Proofs.Ythjhbceepkoifaa.Fi
