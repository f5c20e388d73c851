/-
  A control at any fill: the program's methods.
-/
import Derived.Test.YthjhbceepkoifaaFi
import Derived.Test.YthjhbceepkoifaaFp
import Derived.Deep.RegionWith
import Derived.RegionTactic
namespace Go.Proofs.Ythjhbceepkoifaa.Fj
open Go Go.RowKit Go.Proofs.Ythjhbceepkoifaa.Ec Go.Proofs.Ythjhbceepkoifaa.Ee Go.Proofs.Ythjhbceepkoifaa.Rg Go.Proofs.Ythjhbceepkoifaa.Fa Go.Proofs.Ythjhbceepkoifaa.Fb Go.Proofs.Ythjhbceepkoifaa.Fc Go.Proofs.Ythjhbceepkoifaa.Fd Go.Proofs.Ythjhbceepkoifaa.Fe Go.Proofs.Ythjhbceepkoifaa.Fg Go.Proofs.Ythjhbceepkoifaa.Fh Go.Proofs.Ythjhbceepkoifaa.Fi

/-- what a control holds -/
structure St where
  now : Int
  hv : Bool
  at' : Int
  target : Int
  limit : Int
  bs : List (Int × Int)
  zs : List Int
abbrev Ri (w : World) (c : Nat) (s : St) (ml fl : Value) : Prop := Rings w c s.now s.hv s.at' s.target s.limit s.bs s.zs ml fl
structure Inv (s : St) : Prop where
  n1 : 0 ≤ s.now
  n2 : s.now ≤ 1000000000
  a1 : 0 ≤ s.at'
  a2 : s.at' ≤ 1000000000
  t1 : 1 ≤ s.target
  t2 : s.target ≤ 1000
  l1 : 1500 ≤ s.limit
  l2 : s.limit ≤ 1000000
  ne : s.zs ≠ [] → s.bs ≠ []

theorem bnd_in (n : Int) : 1500 ≤ bnd n ∧ bnd n ≤ 1000000 := by unfold bnd; omega
theorem mvd_in (t l q b u : Int) (h1 : 1500 ≤ l) (h2 : l ≤ 1000000) : 1500 ≤ mvd t l q b u ∧ mvd t l q b u ≤ 1000000 := by
  unfold mvd
  have b1 := bnd_in (l + min (chg t l q b) b)
  have b2 := bnd_in (l + chg t l q b)
  repeat' split
  all_goals omega

/-- a sample -/
def smp (s : St) (t b d u : Int) : St := if okS s.now t b d u = true then { s with now := t, limit := mvd s.target s.limit (qd (cpt (t / 60000) d s.bs) (trim 4 (s.zs ++ [d]))) b u, bs := cpt (t / 60000) d s.bs, zs := trim 4 (s.zs ++ [d]) } else s
def smpE (s : St) (t b d u : Int) : Int := if okS s.now t b d u = true then 0 else 7
theorem smp_inv {s : St} (h : Inv s) (t b d u : Int) : Inv (smp s t b d u) := by
  unfold smp; split
  · rename_i hok
    obtain ⟨o1, _⟩ : wn t s.now 1000000000 = true ∧ (wn b 0 1000000 && (wn d 0 4294967295 && wn u 0 1000000)) = true := by unfold okS at hok; simpa using hok
    obtain ⟨k1, k2⟩ := wn_in o1
    have hm := mvd_in s.target s.limit (qd (cpt (t / 60000) d s.bs) (trim 4 (s.zs ++ [d]))) b u h.l1 h.l2
    exact ⟨Int.le_trans h.n1 k1, k2, h.a1, h.a2, h.t1, h.t2, hm.1, hm.2, fun _ => cpt_ne _ _ _⟩
  · exact h
/-- a loss -/
def soon (s : St) (t tr : Int) : Bool := s.hv && (decide (t - s.at' < 1) || decide (t - s.at' < tr))
def losOk (s : St) (t tr : Int) : Bool := wn t s.now 1000000000 && wn tr 0 60000
def los (s : St) (t tr : Int) : St := if losOk s t tr = true then (if soon s t tr = true then { s with now := t } else { s with now := t, hv := true, at' := t, limit := bnd (s.limit / 2) }) else s
def losE (s : St) (t tr : Int) : Int := if losOk s t tr = true then 0 else 7
def losR (s : St) (t tr : Int) : Bool := losOk s t tr && !soon s t tr
theorem los_inv {s : St} (h : Inv s) (t tr : Int) : Inv (los s t tr) := by
  unfold los; split
  · rename_i hok
    obtain ⟨o1, _⟩ : wn t s.now 1000000000 = true ∧ wn tr 0 60000 = true := by unfold losOk at hok; simpa using hok
    obtain ⟨k1, k2⟩ := wn_in o1
    have k0 := Int.le_trans h.n1 k1
    have hb := bnd_in (s.limit / 2)
    split
    · exact ⟨k0, k2, h.a1, h.a2, h.t1, h.t2, h.l1, h.l2, h.ne⟩
    · exact ⟨k0, k2, k0, k2, h.t1, h.t2, hb.1, hb.2, h.ne⟩
  · exact h
/-- a time out -/
def out' (s : St) (t : Int) : St := if wn t s.now 1000000000 = true then { s with now := t, limit := 1500 } else s
def outE (s : St) (t : Int) : Int := if wn t s.now 1000000000 = true then 0 else 7
theorem out_inv {s : St} (h : Inv s) (t : Int) : Inv (out' s t) := by
  unfold out'; split
  · rename_i o1
    obtain ⟨k1, k2⟩ := wn_in o1
    exact ⟨Int.le_trans h.n1 k1, k2, h.a1, h.a2, h.t1, h.t2, (by decide : (1500 : Int) ≤ 1500), (by decide : (1500 : Int) ≤ 1000000), h.ne⟩
  · exact h
/-- the queueing delay that is told -/
def que (s : St) : Int := if s.zs = [] then 0 else qd s.bs s.zs
def queE (s : St) : Int := if s.zs = [] then 8 else 0

theorem ri_nx_below {w w' : World} {c : Nat} {s : St} {ml fl : Value} (h : Ri w c s ml fl) (hb : Below w.heap.size w w') : Ri w' c s ml fl := h.below hb
theorem nx_new {w w1 : World} {c : Nat} {ml fl m1 f1 : Value} (n : Nx w w1 c ml fl m1 f1) (b i : Nat) (v : Value) (hb : w.heap.size ≤ b) : Nx w (w1.setCell ⟨b, i, none⟩ v) c ml fl m1 f1 :=
  ⟨n.own, kb_trans n.kb (Kb.of (gb_set w1 b i v) (may := fun k => k = b) (fun k _ e => (Option.some.inj e).symm)) (fun k hk e => by omega)⟩
theorem ri_new {w : World} {c : Nat} {s : St} {ml fl : Value} (h : Ri w c s ml fl) (b i : Nat) (v : Value) (hb : ¬ Bl c ml fl b) : Ri (w.setCell ⟨b, i, none⟩ v) c s ml fl :=
  rings_kb h (Kb.of (gb_set w b i v) (may := fun k => k = b) (fun k _ e => (Option.some.inj e).symm)) (fun k hk e => hb (e ▸ hk))
theorem gbW (w : World) : w.grownBy (Ea.aw w) none := by unfold Ea.aw; exact gb_trans (World.grownBy_alloc _ _ _) (World.grownBy_alloc _ _ _)

theorem att_ri (K : Nat) (caps : Array Value) (r : Bool) (w : World) (c : Nat) (s s' : St) (ml fl : Value) (h : Ri w c s ml fl) (hK : ∀ (args : Array Value) (w : World), (callFunc K args).run Try.prog w = .ok (.enter K args) w)
    (hf : Calls Try.prog K caps (Ea.aw w) fun e w1 => e = .returned (.bool r) ∧ ∃ ml' fl', Ri w1 c s' ml' fl' ∧ Nx (Ea.aw w) w1 c ml fl ml' fl') :
    Calls Try.prog 33 #[.func (Fn.func K) #[] caps] w fun e w' => e = .returned (.tuple #[.bool r, .int .i64 0]) ∧ ∃ ml' fl', Ri w' c s' ml' fl' ∧ Nx w w' c ml fl ml' fl' := by
  have hgW := gbW w
  refine (Ea.attempt_gen K caps r w (fun w1 => ∃ ml' fl', Ri w1 c s' ml' fl' ∧ Nx (Ea.aw w) w1 c ml fl ml' fl') hK hf (fun w1 h1 => by
      obtain ⟨ml', fl', _, hn⟩ := h1
      have hb1 : (Ea.aw w).heap[w.heap.size]? = some (.cells #[.bool false] 4) := by unfold Ea.aw; exact (Below.heap_alloc _ _ _ (by simp)).trans (World.alloc_heap_new _ _)
      have hb2 : (Ea.aw w).heap[w.heap.size + 1]? = some (.cells #[.int .i64 0] 26) := by unfold Ea.aw; have := World.alloc_heap_new (w.alloc (.cells #[.bool false] 4)) (.cells #[.int .i64 0] 26); rwa [World.size_alloc] at this
      have k1 := (hn.kb.block w.heap.size (by simp [Ea.aw]; omega) (fun e => by have := rings_lt h _ e; omega)).trans hb1
      have k2 := (hn.kb.block (w.heap.size + 1) (by simp [Ea.aw]) (fun e => by have := rings_lt h _ e; omega)).trans hb2
      exact ⟨⟨false, by simp [World.cell?, k1]⟩, by simp [World.frozen?, k1], ⟨0, by simp [World.cell?, k2]⟩, by simp [World.frozen?, k2]⟩)).mono ?_
  rintro e w2 ⟨rfl, w1, ⟨ml', fl', hO, hg⟩, rfl⟩
  have hno : ∀ i, w.heap.size ≤ i → i < w.heap.size + 2 → ¬ Bl c ml' fl' i := fun i h1 h2 hb => by
    rcases hg.own i hb with h3 | h3
    · have := rings_lt h _ h3; omega
    · simp [Ea.aw] at h3; omega
  refine ⟨rfl, ml', fl', ?_, ?_⟩
  · exact ri_new (ri_new hO _ _ _ (hno _ (Nat.le_refl _) (by omega))) _ _ _ (hno _ (by omega) (by omega))
  · exact nx_new (nx_new ((Nx.gbn hgW).trans hg) _ _ _ (Nat.le_refl _)) _ _ _ (by omega)

theorem enterLoss (args : Array Value) (w : World) : (callFunc 34 args).run Try.prog w = .ok (.enter 34 args) w := by kernel_rfl
theorem enterOut (args : Array Value) (w : World) : (callFunc 38 args).run Try.prog w = .ok (.enter 38 args) w := by kernel_rfl
theorem enterQue (args : Array Value) (w : World) : (callFunc 49 args).run Try.prog w = .ok (.enter 49 args) w := by kernel_rfl

section
variable {w : World} {c : Nat} {s : St} {ml fl : Value}
theorem cel_old {W W' : World} {c p : Nat} {ml fl v : Value} {s : St} (h : Ri W c s ml fl) (hp : W.heap.size ≤ p) (hc : W'.cell? ⟨p, 0, none⟩ = some v) : Cel W' c ml fl p 0 v := ⟨hc, fun hb => by have := rings_lt h _ hb; omega⟩

set_option maxRecDepth 100000 in
set_option maxHeartbeats 2000000 in
theorem Sample_any (h : Ri w c s ml fl) (hI : Inv s) (t b d u : Int) :
    Calls Try.prog 15 #[.pointer (some ⟨c, 0, none⟩), .int .i64 t, .int .i64 b, .int .i64 d, .int .i64 u] w fun e w' => e = .returned (.int .i64 (smpE s t b d u)) ∧
      ∃ ml' fl', Ri w' c (smp s t b d u) ml' fl' ∧ Nx w w' c ml fl ml' fl' := by
  have hmf : ∀ (fn : Fn) (first cap : Array Value) (w : World), (Instr.makeFunc fn first cap).run Try.prog w = .ok (.func fn first cap) w := fun _ _ _ _ => rfl
  obtain ⟨wA, hwA⟩ : ∃ wA, ((((w.alloc (.cells #[.pointer (some ⟨c, 0, none⟩)] 25)).alloc (.cells #[.int .i64 t] 3)).alloc (.cells #[.int .i64 b] 3)).alloc (.cells #[.int .i64 d] 3)).alloc (.cells #[.int .i64 u] 3) = wA := ⟨_, rfl⟩
  have hgA : w.grownBy wA none := by
    rw [← hwA]; exact gb_trans (gb_trans (gb_trans (gb_trans (World.grownBy_alloc _ _ _) (World.grownBy_alloc _ _ _)) (World.grownBy_alloc _ _ _)) (World.grownBy_alloc _ _ _)) (World.grownBy_alloc _ _ _)
  have nA : Nx w wA c ml fl ml fl := Nx.gbn hgA
  have hRA : Ri wA c s ml fl := rings_kb h (Kb.of hgA (may := fun _ => False) (by simp)) (fun _ _ h => h)
  have hB : Bx wA c ml fl w.heap.size (w.heap.size + 1) (w.heap.size + 2) (w.heap.size + 3) (w.heap.size + 4) t b d u := by
    rw [← hwA]
    exact ⟨cel_old h (by omega) (by simp [go_sem]), cel_old h (by omega) (by simp [go_sem]), cel_old h (by omega) (by simp [go_sem]), cel_old h (by omega) (by simp [go_sem]), cel_old h (by omega) (by simp [go_sem])⟩
  have nW : Nx wA (Ea.aw wA) c ml fl ml fl := Nx.gbn (gbW wA)
  have hRW : Ri (Ea.aw wA) c s ml fl := rings_kb hRA (Kb.of (gbW wA) (may := fun _ => False) (by simp)) (fun _ _ h => h)
  have hBW := hB.nx nW
  cases hok : okS s.now t b d u
  · have hA := Ea.attempt_err 40 #[.pointer (some ⟨w.heap.size, 0, none⟩), .pointer (some ⟨w.heap.size + 1, 0, none⟩), .pointer (some ⟨w.heap.size + 2, 0, none⟩), .pointer (some ⟨w.heap.size + 3, 0, none⟩), .pointer (some ⟨w.heap.size + 4, 0, none⟩)] 7 wA enterSample (sampleF_no hRW hBW hI.t1 hok)
    have HA := Lib.hid hA
    have HR := Lib.hid hRA
    have HN := Lib.hid nA
    have HO := Lib.hid hok
    have HW := Lib.hid hwA
    clear hA hRW hBW hRA hB nA nW hgA h hok hI
    go_enter Try.func15, Try.ntmps15
    go_wp2_with fail
    refine HA.out.mono ?_
    rintro e w2 ⟨rfl, hb2⟩
    go_wp2
    go_ret
    refine ⟨by unfold smpE; rw [HO.out]; rfl, ml, fl, ?_, HN.out.trans (Nx.gbn (gb_below hb2 none))⟩
    unfold smp; rw [HO.out]
    exact HR.out.below hb2
  · have hF := sampleF_yes hRW hBW ⟨hI.t1, hI.t2⟩ ⟨hI.l1, hI.l2⟩ hI.n1 hok
    have hA := att_ri 40 #[.pointer (some ⟨w.heap.size, 0, none⟩), .pointer (some ⟨w.heap.size + 1, 0, none⟩), .pointer (some ⟨w.heap.size + 2, 0, none⟩), .pointer (some ⟨w.heap.size + 3, 0, none⟩), .pointer (some ⟨w.heap.size + 4, 0, none⟩)] true wA c s (smp s t b d u) ml fl hRA enterSample (by unfold smp; rw [hok]; exact hF)
    have HA := Lib.hid hA
    have HN := Lib.hid nA
    have HO := Lib.hid hok
    have HW := Lib.hid hwA
    clear hA hF hRW hBW hRA hB nA nW hgA h hok hI
    go_enter Try.func15, Try.ntmps15
    go_wp2_with fail
    refine HA.out.mono ?_
    rintro e w2 ⟨rfl, ml', fl', hR2, n2⟩
    go_wp2
    go_ret
    exact ⟨by unfold smpE; rw [HO.out]; rfl, ml', fl', hR2, HN.out.trans n2⟩
end
end Go.Proofs.Ythjhbceepkoifaa.Fj
