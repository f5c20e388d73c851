/-
  Find: the iterator of probes, and what Find's function finds.
-/
import Derived.Test.YtjoejaclnijacaaPo
import Derived.Test.YtjoejaclnijacaaPe
import Derived.Test.YtjoejaclnijacaaRf
import Derived.RangeFuncBox
import Derived.Shelf.Abstract
import Derived.Shelf.RegionOpen
import Derived.OwnWalkIn
import Derived.TacticsInMore
import Derived.LoopNIn
import Derived.LoopIn
import Derived.BigRegionIn
namespace Go.Proofs.Ytjoejaclnijacaa.Ps
open Go Go.RowKit Go.Shelf Go.Proofs.Ytjoejaclnijacaa.Sx Go.Proofs.Ytjoejaclnijacaa.Pm
attribute [local go_sem] Oper.semAt_some

/-- which probes are lost: those above the bound, and those by chance -/
def lbf (bound : Int) (len : Nat) (ch : Nat → Bool) : Nat → Int → Bool := fun n m => decide (bound < m) || (decide (n ≤ len) && ch (n - 1))

/-- between two probes, behind the number m -/
def SI (W0 : World) (c : Nat) (H : Int) (lb : Nat → Int → Bool) (r : Int × Nat) (m : Int) (W : World) : Prop :=
  W0.grownBy W (some c) ∧ ∃ (l h a : Int) (k n f : Nat), (n : Int) = m ∧ Sb W c l h H 0 0 n 0 a k ∧ 576 ≤ l ∧ h ≤ 9000 ∧ good f l h k ∧ n + f = 30 ∧ fnd lb f l h k n = r ∧ (0 < k → a = mid l h)
/-- a probe is under way -/
def SY (W0 : World) (c : Nat) (H : Int) (lb : Nat → Int → Bool) (r : Int × Nat) (x : Int × Int) (W : World) : Prop :=
  W0.grownBy W (some c) ∧ ∃ (l h : Int) (k n f : Nat), x = (((n + 1 : Nat) : Int), mid l h) ∧ Sb W c l h H 0 0 (n + 1 : Nat) (n + 1 : Nat) (mid l h) k ∧ 576 ≤ l ∧ h ≤ 9000 ∧ good (f + 1) l h k ∧ n + (f + 1) = 30 ∧ fnd lb (f + 1) l h k n = r ∧ 16 ≤ h - l
/-- it is found -/
def SD (W0 : World) (c : Nat) (H : Int) (r : Int × Nat) (W : World) : Prop :=
  W0.grownBy W (some c) ∧ ∃ (h a : Int) (k : Nat), Sb W c r.1 h H 0 0 r.2 0 a k

theorem own_gb {W0 W W' : World} {c m : Nat} {row : Option Nat} (h : W0.grownBy W (some c)) (hg : W.grownBy W' row) (hr : ∀ r, row = some r → m ≤ r) (hm : W0.heap.size ≤ m) : W0.grownBy W' (some c) := by
  cases row with
  | none => exact gb_trans h (gb_none hg _)
  | some r => exact gb_mark h hg (Nat.le_trans hm (hr r rfl))
theorem own_ne {c m : Nat} {row : Option Nat} (hr : ∀ r, row = some r → m ≤ r) (hc : c < m) : some c ≠ row := fun e => by have := hr c e.symm; omega
section
variable {W0 : World} {c : Nat} {H : Int} {lb : Nat → Int → Bool} {r : Int × Nat}
theorem own_SI {β : Type} (g : β → Int) (hc : c < W0.heap.size) : OwnFrom W0.heap.size fun x => SI W0 c H lb r (g x) := by
  intro s W W' row ⟨hg, l, h, a, k, n, f, hn, HS, rest⟩ hgr hr
  exact ⟨own_gb hg hgr (fun r e => (hr r e).1) (Nat.le_refl _), l, h, a, k, n, f, hn, HS.kept hgr (own_ne (fun r e => (hr r e).1) hc), rest⟩
theorem own_SY (hc : c < W0.heap.size) : OwnFrom W0.heap.size (SY W0 c H lb r) := by
  intro s W W' row ⟨hg, l, h, k, n, f, hx, HS, rest⟩ hgr hr
  exact ⟨own_gb hg hgr (fun r e => (hr r e).1) (Nat.le_refl _), l, h, k, n, f, hx, HS.kept hgr (own_ne (fun r e => (hr r e).1) hc), rest⟩
theorem own_SD (hc : c < W0.heap.size) : OwnFrom W0.heap.size fun (_ : Unit) => SD W0 c H r := by
  intro s W W' row ⟨hg, h, a, k, HS⟩ hgr hr
  exact ⟨own_gb hg hgr (fun r e => (hr r e).1) (Nat.le_refl _), h, a, k, HS.kept hgr (own_ne (fun r e => (hr r e).1) hc)⟩
end

theorem keeps_gb {W W' : World} {c : Nat} {o : Obj} (hg : W.grownBy W' (some c)) (h : W.heap[c]? = some o) (ho : o.isCells = true) : KeepsOthers W W' :=
  KeepsOthers.of_grownBy hg (fun j o' e h' => by cases e; rw [h] at h'; cases h'; exact ho)

/-- what the probes that are left are -/
def mz (c : Nat) (W : World) : Nat := match W.cell? ⟨c, 5, none⟩ with | some (.int _ t) => (31 - t).toNat | _ => 0
theorem mz_at {W : World} {c : Nat} {l h f n s t u a k : Int} (H : Sb W c l h f n s t u a k) : mz c W = (31 - t).toNat := by unfold mz; rw [H.c5]

theorem nk_same {m a : Int} {k : Nat} (h : 0 < k → a = m) : nk m a k = k := by
  unfold nk
  by_cases e : m = a
  · rw [if_pos e]
  · rw [if_neg e]
    by_cases h0 : 0 < k
    · exact absurd (h h0).symm e
    · omega

set_option maxRecDepth 100000 in
set_option maxHeartbeats 2000000 in
theorem probes1_in (n l Bs c : Nat) (H : Int) (lb : Nat → Int → Bool) (r : Int × Nat) (hn : 2 ≤ n) (hH0 : 576 ≤ H) (W0 : World) (hBs : W0.cell? ⟨Bs, 0, none⟩ = some (.pointer (some ⟨c, 0, none⟩))) (hne : Bs ≠ c) (B : World → Prop) (hB : ∀ W W', B W → KeepsOthers W W' → B W')
    (hY : ∀ x W1, SY W0 c H lb r x W1 → B W1 → YieldAt Fence.wide (n - 1) Try.prog l #[.int .i64 x.1, .int .i64 x.2] W1 fun e W' => e = .returned (.bool true) ∧ SI W0 c H lb r x.1 W' ∧ B W')
    (W : World) (hJ : SI W0 c H lb r 0 W) (hBW : B W) :
    CallsIn Fence.wide n Try.prog 42 #[.func (.yield l) #[] #[], .pointer (some ⟨Bs, 0, none⟩)] W fun e W' => (∃ v, e = .returned v) ∧ SD W0 c H r W' ∧ B W' := by
  refine callsIn_of_wp Try.func42 rfl trivial ?_ rfl
  simp only [Try.ntmps42, List.size_toArray, List.length_cons, List.length_nil, Nat.reduceAdd, Nat.reduceSub, Array.replicate_succ, Array.replicate_zero, List.push_toArray, List.append_toArray, List.nil_append, List.cons_append]
  have HY := Lib.hid hY
  have HJ := Lib.hid hJ
  have HB := Lib.hid hBW
  have HBB := Lib.hid hB
  have HBs := Lib.hid hBs
  clear hY hJ hBW hB hBs
  gi_wp2
  gi_loopw [5] (fun _ wr => (∃ m, Hid (SI W0 c H lb r m wr)) ∧ Hid (B wr)) (fun _ wr => mz c wr)
  case atStart => exact ⟨⟨_, HJ⟩, HB⟩
  case round =>
    obtain ⟨⟨m, HJr⟩, HBr⟩ := hrel
    obtain ⟨hg, l', h, a, k, q, f, hqm, HS, b1, b2, hgood, hq, hf, hka⟩ := HJr.out
    have hlh := hgood.1
    have hk2 := hgood.2.1
    have cBs : wr.cell? ⟨Bs, 0, none⟩ = some (.pointer (some ⟨c, 0, none⟩)) := gb_cell hg HBs.out (by simpa using hne)
    have HG := Lib.hid hg
    have HF := Lib.hid hf
    have HK := Lib.hid hka
    have HSH := Lib.hid HS
    have hmz := Lib.hid (mz_at HS)
    have HGood := Lib.hid hgood
    clear HJr hg hf hka HS hgood hqm
    by_cases hc : 16 ≤ h - l'
    · have HN := Lib.hid (Next_go c l' h H 0 0 q a k 0 wr HSH.out (by omega) (by omega) (by omega) (by omega) (by omega) (by omega) (by omega) b2 hc)
      gi_wp2_with fail
      refine ⟨trivial, fun _ => by omega, ?_⟩
      refine (callsIn_wide.2 HN.out).mono ?_
      rintro e w2 ⟨rfl, HS2, g2⟩
      have HB2 := HBB.out _ _ HBr.out (keeps_gb g2 HSH.out rfl)
      obtain ⟨f', rfl⟩ := good_pos HGood.out (by omega)
      have HSY : SY W0 c H lb r (((q + 1 : Nat) : Int), mid l' h) w2 := ⟨gb_trans HG.out g2, l', h, k, q, f', rfl, by rw [nk_same HK.out] at HS2; exact HS2, b1, b2, HGood.out, hq, HF.out, hc⟩
      obtain ⟨fn, tmps, assign, body, hy, hR⟩ := HY.out _ w2 HSY HB2
      simp only [] at hy hR
      have hy' : (Instr.yield l #[.int .i64 ((q : Int) + 1), .int .i64 (mid l' h)]).run Try.prog w2 = .ok (.round l fn tmps assign body) w2 := hy
      have HR := Lib.hid hR
      clear hy hR HSY HB2 HS2 g2 HN
      gi_wp2
      refine ⟨fun _ => by omega, HR.out.mono ?_⟩
      rintro e w3 ⟨rfl, HS3, HB3⟩
      have HM : Hid (mz c w3 < mz c wr) := by
        obtain ⟨_, l3, h3, a3, k3, n3, f3, e3, HS3', _⟩ := HS3
        have q1 := mz_at HS3'
        have q2 := hmz.out
        have e3' : (n3 : Int) = ((q + 1 : Nat) : Int) := e3
        exact Lib.hid (by omega)
      have HS3H := Lib.hid HS3
      have HB3H := Lib.hid HB3
      clear HS3 HB3 HR hy'
      gi_wp2
      go_roundw
      case rel => exact ⟨⟨_, HS3H⟩, HB3H⟩
      case measure => exact HM.out
    · have hc' : h - l' < 16 := by omega
      have HN := Lib.hid (Next_rest c l' h H 0 0 q a k 0 wr HSH.out (by omega) (by omega) (by omega) (by omega) (by omega) (by omega) (by omega) b2 (by omega) hc' (by omega) (by omega) (by omega))
      gi_wp2_with fail
      refine ⟨trivial, fun _ => by omega, ?_⟩
      refine (callsIn_wide.2 HN.out).mono ?_
      rintro e w2 ⟨rfl, HS2, g2⟩
      have HB2 := Lib.hid (HBB.out _ _ HBr.out (keeps_gb g2 HSH.out rfl))
      have HD : Hid (SD W0 c H r w2) := Lib.hid ⟨gb_trans HG.out g2, h, a, k, by have e := HF.out; rw [fnd_end hc'] at e; rw [← e]; exact HS2⟩
      clear HS2 g2 HN
      gi_wp2
      refine ⟨fun _ h => (by cases h), ?_⟩
      gi_wp2
      refine bodyPost_ret (results_none rfl _ _ _) rfl ?_
      exact ⟨⟨_, rfl⟩, HD.out, HB2.out⟩

theorem probes_in (n c : Nat) (w : World) :
    CallsIn Fence.wide n Try.prog 22 #[.pointer (some ⟨c, 0, none⟩)] w fun r w' => r = .returned (.func (.func 42) #[] #[.pointer (some ⟨w.heap.size, 0, none⟩)]) ∧ w' = w.alloc (.cells #[.pointer (some ⟨c, 0, none⟩)] 31) := by
  refine callsIn_of_wp Try.func22 rfl trivial ?_ rfl
  simp only [Try.ntmps22, List.size_toArray, List.length_cons, List.length_nil, Nat.reduceAdd, Nat.reduceSub, Array.replicate_succ, Array.replicate_zero, List.push_toArray, List.append_toArray, List.nil_append, List.cons_append]
  gi_wp2
  go_ret
  exact ⟨rfl, rfl⟩

theorem sn_zero (l h : Int) : sn l h 0 0 = 0 := by unfold sn; split <;> rfl
section
variable {W0 W3 : World} {C : Nat} {H l h : Int} {lb : Nat → Int → Bool} {r : Int × Nat} {k q f : Nat}
theorem step_lost (hg : W0.grownBy W3 (some C)) (b1 : 576 ≤ l) (b2 : h ≤ 9000) (hgood : good (f + 1) l h k) (hq : q + (f + 1) = 30) (hf : fnd lb (f + 1) l h k q = r) (h16 : 16 ≤ h - l) (hb : lb (q + 1) (mid l h) = true)
    (HS : Sb W3 C l (lh h (mid l h) k) H 0 (sn l (lh h (mid l h) k) 0 0) ((q : Int) + 1) 0 (mid l h) (lk k)) : SI W0 C H lb r ((q : Int) + 1) W3 := by
  rw [sn_zero] at HS
  have hm := mid_in (l := l) (h := h) h16
  by_cases hk : k = 2
  · subst hk
    rw [fnd_less (by omega) hb] at hf
    exact ⟨hg, l, mid l h - 1, mid l h, 0, q + 1, f, by omega, HS, b1, by omega, good_less hgood (by omega), by omega, hf, fun h => absurd h (by omega)⟩
  · rw [fnd_lost (by omega) hb hk] at hf
    have e1 : lh h (mid l h) k = h := if_neg (by omega)
    have e2 : lk k = ((k + 1 : Nat) : Int) := (if_neg (by omega)).trans (by omega)
    rw [e1, e2] at HS
    exact ⟨hg, l, h, mid l h, k + 1, q + 1, f, by omega, HS, b1, b2, good_lost hgood hk, by omega, hf, fun _ => rfl⟩
theorem step_ack (hg : W0.grownBy W3 (some C)) (b1 : 576 ≤ l) (b2 : h ≤ 9000) (hgood : good (f + 1) l h k) (hq : q + (f + 1) = 30) (hf : fnd lb (f + 1) l h k q = r) (h16 : 16 ≤ h - l) (hb : lb (q + 1) (mid l h) = false)
    (HS : Sb W3 C (mid l h) h H 0 (sn (mid l h) h 0 0) ((q : Int) + 1) 0 (mid l h) 0) : SI W0 C H lb r ((q : Int) + 1) W3 := by
  rw [sn_zero] at HS
  have hm := mid_in (l := l) (h := h) h16
  rw [fnd_ack (by omega) hb] at hf
  exact ⟨hg, mid l h, h, mid l h, 0, q + 1, f, by omega, HS, by omega, b2, good_ack hgood (by omega), by omega, hf, fun h => absurd h (by omega)⟩
end

/-- a slice of bools -/
def BRow (W : World) (a : Option Addr) (len : Nat) (ch : Nat → Bool) : Prop := ∀ i, i < len → ∃ b off, a = some ⟨b, off, none⟩ ∧ b < W.heap.size ∧ W.cell? ⟨b, off + i, none⟩ = some (.bool (ch i))

set_option maxRecDepth 100000 in
set_option maxHeartbeats 4000000 in
theorem FindF_ok (pl ph pb pc : Nat) (l h bound : Int) (a : Option Addr) (len cap : Nat) (ch : Nat → Bool) (w : World) (hr : rightB l h = true) (hb0 : 0 ≤ bound) (hb1 : bound ≤ 10000)
    (cl : w.cell? ⟨pl, 0, none⟩ = some (.int .i64 l)) (chh : w.cell? ⟨ph, 0, none⟩ = some (.int .i64 h)) (cb : w.cell? ⟨pb, 0, none⟩ = some (.int .i64 bound)) (cc : w.cell? ⟨pc, 0, none⟩ = some (.slice a len cap)) (hrow : BRow w a len ch) (hlen : len ≤ 1000000) :
    Calls Try.prog 19 #[.pointer (some ⟨pl, 0, none⟩), .pointer (some ⟨ph, 0, none⟩), .pointer (some ⟨pb, 0, none⟩), .pointer (some ⟨pc, 0, none⟩)] w fun e w' => e = .returned (.agg #[.int .i64 (fnd (lbf bound len ch) 30 l h 0 0).1, .int .i64 (fnd (lbf bound len ch) 30 l h 0 0).2]) ∧ w.grownBy w' none := by
  have HR := Lib.hid hrow
  have lpb : pb < w.heap.size := World.block_lt_of_cell? w _ cb
  have lpc : pc < w.heap.size := World.block_lt_of_cell? w _ cc
  have HAS := Lib.hid (fun w => askSizes_t l h w hr)
  have hr3 := rightB_t hr
  have d1 : decide (bound < 0) = false := by simp; omega
  have d2 : decide (10000 < bound) = false := by simp; omega
  have cl1 := gb_cell (gb_alloc w (.cells #[.int .i64 0, .int .i64 0] 41) none) cl (by simp)
  have chh1 := gb_cell (gb_alloc w (.cells #[.int .i64 0, .int .i64 0] 41) none) chh (by simp)
  have cb1 := gb_cell (gb_alloc w (.cells #[.int .i64 0, .int .i64 0] 41) none) cb (by simp)
  have cc1 := gb_cell (gb_alloc w (.cells #[.int .i64 0, .int .i64 0] 41) none) cc (by simp)
  clear hr hrow
  obtain ⟨r, hr⟩ : ∃ r, fnd (lbf bound len ch) 30 l h 0 0 = r := ⟨_, rfl⟩
  rw [hr]
  have HFnd := Lib.hid hr
  clear hr
  refine (callsIn_wide (n := 6)).1 ?_
  refine callsIn_of_wp_marks Try.func19 rfl trivial ?_ rfl
  simp only [Try.ntmps19, List.size_toArray, List.length_cons, List.length_nil, Nat.reduceAdd, Nat.reduceSub, Array.replicate_succ, Array.replicate_zero, List.push_toArray, List.append_toArray, List.nil_append, List.cons_append]
  gi_wp2_with fail
  refine ⟨trivial, ?_⟩
  refine (callsIn_wide.2 (HAS.out _)).mono ?_
  rintro e w1 ⟨rfl, rfl⟩
  gi_wp2_with fail
  refine ⟨trivial, ?_⟩
  refine (callsIn_wide.2 (Pb.refuse_no _ _)).mono ?_
  rintro e w1 ⟨rfl, rfl⟩
  gi_wp2_with fail
  refine ⟨trivial, ?_⟩
  refine (probes_in _ _ _).mono ?_
  rintro e w1 ⟨rfl, rfl⟩
  gi_wp2_with fail
  have hb0' : (w.alloc (.cells #[.int .i64 0, .int .i64 0] 41)).heap.size = w.heap.size + 1 := by simp
  obtain ⟨W0, hW0⟩ : ∃ W0, ((((w.alloc (.cells #[.int .i64 0, .int .i64 0] 41)).alloc (.cells #[.int .i64 l, .int .i64 h, .int .i64 h, .int .i64 0, .int .i64 0, .int .i64 0, .int .i64 0, .int .i64 0, .int .i64 0] 49)).alloc (.cells #[.pointer (some ⟨w.heap.size + 1, 0, none⟩)] 31)).alloc (.cells #[.pointer (some ⟨w.heap.size + 1, 0, none⟩)] 31)) = W0 := ⟨_, rfl⟩
  have hsz : W0.heap.size = w.heap.size + 4 := by rw [← hW0]; simp
  have hg0 : w.grownBy W0 none := by rw [← hW0]; exact gb_trans (gb_trans (gb_trans (gb_alloc _ _ _) (gb_alloc _ _ _)) (gb_alloc _ _ _)) (gb_alloc _ _ _)
  have bR : W0.heap[w.heap.size]? = some (.cells #[.int .i64 0, .int .i64 0] 41) := by rw [← hW0]; exact gb_block (gb_trans (gb_trans (gb_alloc _ _ none) (gb_alloc _ _ _)) (gb_alloc _ _ _)) (World.alloc_heap_new w _) (by simp)
  have bC : Sb W0 (w.heap.size + 1) l h h 0 0 0 0 0 0 := by rw [← hW0]; exact gb_block (gb_trans (gb_alloc _ _ none) (gb_alloc _ _ _)) (by have := World.alloc_heap_new (w.alloc (.cells #[.int .i64 0, .int .i64 0] 41)) (.cells #[.int .i64 l, .int .i64 h, .int .i64 h, .int .i64 0, .int .i64 0, .int .i64 0, .int .i64 0, .int .i64 0, .int .i64 0] 49); rwa [hb0'] at this) (by simp)
  have cP : W0.cell? ⟨w.heap.size + 1 + 1, 0, none⟩ = some (.pointer (some ⟨w.heap.size + 1, 0, none⟩)) := by rw [← hW0]; simp [go_sem]
  have cB : W0.cell? ⟨w.heap.size + 1 + 1 + 1, 0, none⟩ = some (.pointer (some ⟨w.heap.size + 1, 0, none⟩)) := by rw [← hW0]; simp [go_sem]
  have cb0 := gb_cell hg0 cb (by simp)
  have cc0 := gb_cell hg0 cc (by simp)
  rw [hW0]
  have HRow : Hid (BRow W0 a len ch) := Lib.hid (fun i hi => by obtain ⟨b, off, e1, e2, e3⟩ := HR.out i hi; exact ⟨b, off, e1, by omega, gb_cell hg0 e3 (by simp)⟩)
  have HR0 : Hid (∀ b off, a = some ⟨b, off, none⟩ → 0 < len → b < w.heap.size) := Lib.hid (fun b off e hl => by obtain ⟨b', off', e1, e2, e3⟩ := HR.out 0 hl; rw [e1] at e; cases e; exact e2)
  obtain ⟨C, hC⟩ : ∃ C, w.heap.size + 1 = C := ⟨_, rfl⟩
  obtain ⟨R0, hR0⟩ : ∃ R0, w.heap.size = R0 := ⟨_, rfl⟩
  have HG0 := Lib.hid hg0
  clear hW0 hg0 hb0' cl chh cb cc cl1 chh1 cb1 cc1 HR d1 d2 HAS
  rw [hR0] at hC hsz bR bC cP cB lpb lpc HR0
  simp only [hR0, hC] at bC cP cB ⊢
  have hcw : C < W0.heap.size := bC.lt
  have HbR := Lib.hid bR
  have HbC := Lib.hid bC
  have HhR0 := Lib.hid hR0
  have HhC := Lib.hid hC
  have nC1 : C = R0 + 1 := hC.symm
  clear bR bC hR0
  apply Rf.range_fn (F := Fence.wide) (n := 6) rfl (by omega) (gf := 42) (lb := #[.pointer (some ⟨C + 1 + 1, 0, none⟩)]) rfl trivial (enters_of Try.func42 (by kernel_rfl) rfl)
    (fun x : Int × Int => #[.int .i64 x.1, .int .i64 x.2]) (fun _ => rfl)
    (SI W0 C h (lbf bound len ch) r 0) (SY W0 C h (lbf bound len ch) r) (fun x => SI W0 C h (lbf bound len ch) r x.1) (fun _ _ => False) (fun _ _ => False) (SD W0 C h r)
    (own_SI (fun _ : Unit => 0) hcw) (own_SY hcw) (own_SI (fun x : Int × Int => x.1) hcw) (fun _ _ _ _ h _ _ => h) (fun _ _ _ _ h _ _ => h) (own_SD hcw)
  case h0 => exact ⟨gb_refl _ _, l, h, 0, 0, 0, 30, rfl, HbC.out, by omega, by omega, good_start (by omega) (by omega) (by omega), rfl, HFnd.out, fun h => absurd h (by omega)⟩
  case a₁ => exact fun x => { tmps := List.toArray (Value.pointer (some ⟨pl, 0, none⟩) :: .pointer (some ⟨ph, 0, none⟩) :: .pointer (some ⟨pb, 0, none⟩) :: .pointer (some ⟨pc, 0, none⟩) :: .pointer (some ⟨R0, 0, none⟩) :: .pointer (some ⟨C + 1, 0, none⟩) :: .int .i64 x.1 :: .int .i64 x.2 :: .int .i64 l :: .int .i64 h :: .tuple #[] :: .int .i64 bound :: .bool false :: .bool false :: .int .i64 bound :: .bool false :: .bool false :: .tuple #[] :: .int .i64 l :: .int .i64 h :: .agg #[.int .i64 l, .int .i64 h] :: .int .i64 h :: .agg #[.int .i64 l, .int .i64 h, .int .i64 h, .int .i64 0, .int .i64 0, .int .i64 0, .int .i64 0, .int .i64 0, .int .i64 0] :: .pointer (some ⟨C, 0, none⟩) :: .pointer (some ⟨C, 0, none⟩) :: .func (.func 42) #[] #[.pointer (some ⟨C + 1 + 1, 0, none⟩)] :: .int .i64 x.1 :: .int .i64 x.2 :: undef :: undef :: undef :: undef :: undef :: undef :: undef :: undef :: undef :: undef :: undef :: undef :: undef :: undef :: undef :: undef :: undef :: undef :: undef :: undef :: undef :: undef :: undef :: undef :: undef :: undef :: undef :: undef :: undef :: undef :: undef :: undef :: undef :: undef :: undef :: []), defers := [] }
  case hassign =>
    intro lp x W K hK
    rw [Rf.zip2]
    change Code.wpIn _ _ _ _ _ { tmps := List.toArray (Value.pointer (some ⟨pl, 0, none⟩) :: .pointer (some ⟨ph, 0, none⟩) :: .pointer (some ⟨pb, 0, none⟩) :: .pointer (some ⟨pc, 0, none⟩) :: .pointer (some ⟨R0, 0, none⟩) :: .pointer (some ⟨C + 1, 0, none⟩) :: undef :: undef :: .int .i64 l :: .int .i64 h :: .tuple #[] :: .int .i64 bound :: .bool false :: .bool false :: .int .i64 bound :: .bool false :: .bool false :: .tuple #[] :: .int .i64 l :: .int .i64 h :: .agg #[.int .i64 l, .int .i64 h] :: .int .i64 h :: .agg #[.int .i64 l, .int .i64 h, .int .i64 h, .int .i64 0, .int .i64 0, .int .i64 0, .int .i64 0, .int .i64 0, .int .i64 0] :: .pointer (some ⟨C, 0, none⟩) :: .pointer (some ⟨C, 0, none⟩) :: .func (.func 42) #[] #[.pointer (some ⟨C + 1 + 1, 0, none⟩)] :: .int .i64 x.1 :: .int .i64 x.2 :: undef :: undef :: undef :: undef :: undef :: undef :: undef :: undef :: undef :: undef :: undef :: undef :: undef :: undef :: undef :: undef :: undef :: undef :: undef :: undef :: undef :: undef :: undef :: undef :: undef :: undef :: undef :: undef :: undef :: undef :: undef :: undef :: undef :: undef :: undef :: []), defers := [] } W
    gi_wp2
    exact hK
  case hbody =>
    rintro lp ⟨x1, x2⟩ W hSY
    obtain ⟨hg, l', h', k, q, f, hx, HS, b1, b2, hgood, hq, hf, h16⟩ := hSY
    obtain ⟨rfl, rfl⟩ : x1 = ((q + 1 : Nat) : Int) ∧ x2 = mid l' h' := by cases hx; exact ⟨rfl, rfl⟩
    have hm := mid_in (l := l') (h := h') h16
    have hk2 := hgood.2.1
    have cPW := gb_cell hg cP (by simp)
    have cbW := gb_cell hg cb0 (by simp; omega)
    have ccW := gb_cell hg cc0 (by simp; omega)
    have hm2 := hm.2.1
    have hm1 := hm.1
    have hlh : lh h' (mid l' h') k ≤ 9000 ∧ -9000 ≤ lh h' (mid l' h') k - l' := by unfold lh; split <;> omega
    have e1 : ((q + 1 : Nat) : Int) = (q : Int) + 1 := by omega
    rw [e1] at HS
    simp only [e1]
    have d3 : decide ((1000 : Int) < (q : Int) + 1) = false := by simp; omega
    have HG := Lib.hid hg
    have HSH := Lib.hid HS
    have HGood := Lib.hid hgood
    have HF := Lib.hid hf
    have hlt : C < W.heap.size := HS.lt
    have hh0 : h ≠ 0 := by omega
    have HRW : Hid (∀ i, i < len → ∃ b off, a = some ⟨b, off, none⟩ ∧ W.cell? ⟨b, off + i, none⟩ = some (.bool (ch i))) := Lib.hid (fun i hi => by
      obtain ⟨b, off, e1, e2, e3⟩ := HRow.out i hi
      have := HR0.out b off e1 (by omega)
      exact ⟨b, off, e1, gb_cell hg e3 (by simp; omega)⟩)
    have HQ := Lib.hid hq
    have q30 : q < 30 := by omega
    clear hg HS hgood hf hx e1 HbR HbC HhR0 HhC HFnd cP cB cb0 cc0 hq hC hsz nC1 hm
    gi_wp2_with fail
    refine ⟨trivial, ?_⟩
    refine (CallsIn.inRound lp (callsIn_wide.2 (Pb.refuse_no _ _))).mono ?_
    rintro e w1 ⟨rfl, rfl⟩
    clear d3
    by_cases c1 : bound < mid l' h'
    · have hlb : lbf bound len ch (q + 1) (mid l' h') = true := by unfold lbf; simp [c1]
      gi_wp2_with fail
      refine ⟨trivial, ?_⟩
      refine (CallsIn.inRound lp (callsIn_wide.2 (Lost_ok C l' h' h 0 0 ((q : Int) + 1) (mid l' h') k 0 _ HSH.out (by omega) (by omega) (by omega) (by omega) (by omega) (by omega) (by omega) hlh.1 hlh.2 (by omega) (by omega) (by omega) (by omega)))).mono ?_
      rintro e W3 ⟨rfl, H3, g3⟩
      have HE := Lib.hid (step_lost (gb_trans HG.out g3) b1 b2 HGood.out HQ.out HF.out h16 hlb H3)
      have HKO := Lib.hid (keeps_gb g3 HSH.out rfl)
      clear H3 g3
      gi_wp2
      exact ⟨HKO.out, HE.out⟩
    · by_cases c2 : q + 1 ≤ len
      · obtain ⟨b, off, rfl, ccell⟩ := HRW.out q (by omega)
        have i1 : (q : Int) + 1 ≤ (len : Int) := by omega
        obtain ⟨v, hv⟩ : ∃ v, ch q = v := ⟨_, rfl⟩
        rw [hv] at ccell
        have hlb : lbf bound len ch (q + 1) (mid l' h') = v := by unfold lbf; rw [show decide (bound < mid l' h') = false from by simpa using c1, show decide (q + 1 ≤ len) = true from by simpa using c2]; simpa using hv
        clear hv
        cases v
        · gi_wp2_with fail
          refine ⟨trivial, ?_⟩
          refine (CallsIn.inRound lp (callsIn_wide.2 (Acked_ok C l' h' h 0 0 ((q : Int) + 1) (mid l' h') k 0 _ HSH.out (by omega) (by omega) (by omega) (by omega) (by omega) (by omega) (by omega) b2 (by omega)))).mono ?_
          rintro e W3 ⟨rfl, H3, g3⟩
          have HE := Lib.hid (step_ack (gb_trans HG.out g3) b1 b2 HGood.out HQ.out HF.out h16 hlb H3)
          have HKO := Lib.hid (keeps_gb g3 HSH.out rfl)
          clear H3 g3
          gi_wp2
          exact ⟨HKO.out, HE.out⟩
        · gi_wp2_with fail
          refine ⟨trivial, ?_⟩
          refine (CallsIn.inRound lp (callsIn_wide.2 (Lost_ok C l' h' h 0 0 ((q : Int) + 1) (mid l' h') k 0 _ HSH.out (by omega) (by omega) (by omega) (by omega) (by omega) (by omega) (by omega) hlh.1 hlh.2 (by omega) (by omega) (by omega) (by omega)))).mono ?_
          rintro e W3 ⟨rfl, H3, g3⟩
          have HE := Lib.hid (step_lost (gb_trans HG.out g3) b1 b2 HGood.out HQ.out HF.out h16 hlb H3)
          have HKO := Lib.hid (keeps_gb g3 HSH.out rfl)
          clear H3 g3
          gi_wp2
          exact ⟨HKO.out, HE.out⟩
      · have i1 : (len : Int) < (q : Int) + 1 := by omega
        have hlb : lbf bound len ch (q + 1) (mid l' h') = false := by unfold lbf; rw [show decide (bound < mid l' h') = false from by simpa using c1, show decide (q + 1 ≤ len) = false from by simpa using c2]; rfl
        gi_wp2_with fail
        refine ⟨trivial, ?_⟩
        refine (CallsIn.inRound lp (callsIn_wide.2 (Acked_ok C l' h' h 0 0 ((q : Int) + 1) (mid l' h') k 0 _ HSH.out (by omega) (by omega) (by omega) (by omega) (by omega) (by omega) (by omega) b2 (by omega)))).mono ?_
        rintro e W3 ⟨rfl, H3, g3⟩
        have HE := Lib.hid (step_ack (gb_trans HG.out g3) b1 b2 HGood.out HQ.out HF.out h16 hlb H3)
        have HKO := Lib.hid (keeps_gb g3 HSH.out rfl)
        clear H3 g3
        gi_wp2
        exact ⟨HKO.out, HE.out⟩
  case hit =>
    intro lp B Bx hB hBx hY W hJ hBW _
    refine (probes1_in (6 - 1) lp (C + 1 + 1) C h (lbf bound len ch) r (by omega) (by omega) W0 cB (by omega) B hB (fun x W1 h1 h2 => (hY x W1 h1 h2).mono (by
      rintro e W' (h | ⟨_, _, h, _⟩)
      · exact h
      · exact h.elim)) W hJ hBW).mono ?_
    rintro e W' ⟨hv, hd, hb⟩
    exact ⟨hv, .inl ⟨hd, hb⟩⟩
  case hdone =>
    rintro D W hD ⟨hg, h', a', k', HS⟩ hK
    have cPW := gb_cell hg cP (by simp)
    have s0 := HS.c0
    have s5 := HS.c5
    have r0 : W.cell? ⟨R0, 0, none⟩ = some (.int .i64 0) := gb_cell hg (cell_at HbR.out rfl) (by simp; omega)
    have r1 : W.cell? ⟨R0, 1, none⟩ = some (.int .i64 0) := gb_cell hg (cell_at HbR.out rfl) (by simp; omega)
    have q0 := gb_frozen hg (cell_at HbR.out (i := 0) rfl) (frozen_at 0 HbR.out) (by simp; omega)
    have q1 := gb_frozen hg (cell_at HbR.out (i := 1) rfl) (frozen_at 1 HbR.out) (by simp; omega)
    have HG := Lib.hid hg
    have HK := Lib.hid hK
    clear hg hK HS cP cB cb0 cc0 hC nC1 hsz
    gi_wp2_with fail
    all_goals gi_region
    all_goals gi_wp2
    have ko : KeepsOthers W ((W.setCell ⟨R0, 0, none⟩ (.int .i64 r.1)).setCell ⟨R0, 1, none⟩ (.int .i64 r.2)).drew := ((KeepsOthers.setCell _ _ _).trans (KeepsOthers.setCell _ _ _)).trans (KeepsOthers.drew _)
    have hK' := ko.same D _ HK.out rfl
    have u0 : ((W.setCell ⟨R0, 0, none⟩ (.int .i64 r.1)).setCell ⟨R0, 1, none⟩ (.int .i64 r.2)).drew.cell? ⟨R0, 0, none⟩ = some (.int .i64 r.1) := by simp [go_sem, r0]
    have u1 : ((W.setCell ⟨R0, 0, none⟩ (.int .i64 r.1)).setCell ⟨R0, 1, none⟩ (.int .i64 r.2)).drew.cell? ⟨R0, 1, none⟩ = some (.int .i64 r.2) := by simp [go_sem, r1]
    have hgE : w.grownBy ((W.setCell ⟨R0, 0, none⟩ (.int .i64 r.1)).setCell ⟨R0, 1, none⟩ (.int .i64 r.2)).drew none :=
      gb_trans (gb_new (gb_new (gb_mark HG0.out HG.out (by rw [← HhC.out, ← HhR0.out]; omega)) _ _ _ (by rw [HhR0.out]; exact Nat.le_refl _)) _ _ _ (by rw [HhR0.out]; exact Nat.le_refl _)) (gb_drew1 _ _)
    generalize ((W.setCell ⟨R0, 0, none⟩ (.int .i64 r.1)).setCell ⟨R0, 1, none⟩ (.int .i64 r.2)).drew = WE at hK' u0 u1 hgE ⊢
    have hDR : w.heap.size ≤ D := Nat.le_trans HG0.out.size hD
    refine ⟨by simp, .inl ⟨_, _, rfl, run_takeDeferred hK', ?_⟩⟩
    have v0 := cell_kept u0 (grownBy_putObj' _ D (.deferred none)) (fun r e => by cases e; exact ⟨_, hK', rfl⟩)
    have v1 := cell_kept u1 (grownBy_putObj' _ D (.deferred none)) (fun r e => by cases e; exact ⟨_, hK', rfl⟩)
    refine ⟨.agg #[.int .i64 r.1, .int .i64 r.2], ?_, rfl, gb_mark hgE (grownBy_putObj' _ D (.deferred none)) hDR⟩
    simp [results, Try.results19, go_sem, v0, v1]
  case hstop =>
    intro D c W hD h
    exact h.elim
end Go.Proofs.Ytjoejaclnijacaa.Ps
