/-
  Fields of bits: the program's Next.
-/
import Derived.Test.YtbeaohnjifcgaaaDoorCh
import Derived.Test.YtbeaohnjifcgaaaDoorBe
namespace Go.Proofs.YtbeaohnjifcgaaaDoor.Bh
open Go Go.RowKit Go.Shelf Go.Proofs.YtbeaohnjifcgaaaDoor.Sx Go.Proofs.YtbeaohnjifcgaaaDoor.Na Go.Proofs.YtbeaohnjifcgaaaDoor.Ba
attribute [local go_sem] Oper.semAt_some

/-- while Next looks: nothing found below k -/
def JN (R bl : Nat) (w : World) (N : Nat) (s : ByteArray) (f : Int) (k : Nat) (W : World) : Prop :=
  Below R w W ∧ Boxed W R 3 (.int .i64 0) ∧ Boxed W bl 3 (.int .i64 (N : Int)) ∧ Boxed W (bl + 1) 9 (.string s) ∧ fstL f (nbl (bt s) k) = none
theorem own_JN {R bl N : Nat} {w : World} {s : ByteArray} {f : Int} (hn : R ≤ w.heap.size) (B : Nat) (hB : R ≤ B) : OwnFrom B (JN R bl w N s f) := by
  intro x W W' row ⟨h1, h2, h3, h4, h5⟩ hg hr
  have hr2 : ∀ r, row = some r → ∃ o : Obj, W.heap[r]? = some o ∧ o.isCells = false := fun r e => (hr r e).2
  exact ⟨h1.grown hg (Nat.le_trans hn h1.size) (fun r e => Nat.le_trans hB (hr r e).1), own_boxed _ _ _ () W W' row h2 hg hr2, own_boxed _ _ _ () W W' row h3 hg hr2, own_boxed _ _ _ () W W' row h4 hg hr2, h5⟩
/-- Next has found one -/
def JNx (R : Nat) (w : World) (N : Nat) (s : ByteArray) (f : Int) (c : Code) (W : World) : Prop :=
  c = .ret ∧ ∃ x : Int, Below R w W ∧ Boxed W R 3 (.int .i64 x) ∧ fstL f (nbl (bt s) N) = some x
theorem own_JNx {R N : Nat} {w : World} {s : ByteArray} {f : Int} (hn : R ≤ w.heap.size) (B : Nat) (hB : R ≤ B) : OwnFrom B (JNx R w N s f) := by
  intro c W W' row ⟨h0, x, h1, h2, h5⟩ hg hr
  have hr2 : ∀ r, row = some r → ∃ o : Obj, W.heap[r]? = some o ∧ o.isCells = false := fun r e => (hr r e).2
  exact ⟨h0, x, h1.grown hg (Nat.le_trans hn h1.size) (fun r e => Nat.le_trans hB (hr r e).1), own_boxed _ _ _ () W W' row h2 hg hr2, h5⟩

def nxPost (w : World) (N : Nat) (s : ByteArray) (f : Int) (e : Ending) (w' : World) : Prop :=
  ((∃ x : Int, e = .returned (.int .i64 x) ∧ fstL f (nbl (bt s) N) = some x) ∨ (e = .panicked [{ v := .iface 24 (.int .i64 8), recovered := false }] ∧ fstL f (nbl (bt s) N) = none)) ∧ w.grownBy w' none

set_option maxRecDepth 1000000 in
set_option maxHeartbeats 4000000 in
theorem Next0_in (n : Int) (s : ByteArray) (f : Int) (c cs cf : Nat) (w : World) (hs : s.size ≤ 140737488351232) (hc : w.cell? ⟨c, 0, none⟩ = some (.int .i64 n)) (hcs : w.cell? ⟨cs, 0, none⟩ = some (.string s)) (hcf : w.cell? ⟨cf, 0, none⟩ = some (.int .i64 f)) (h : chk n s = 0) (hf0 : 0 ≤ f) (hfn : f ≤ n) :
    Calls Tryd.prog 74 #[.pointer (some ⟨c, 0, none⟩), .pointer (some ⟨cs, 0, none⟩), .pointer (some ⟨cf, 0, none⟩)] w (nxPost w n.toNat s f) := by
  have HA := Lib.hid (fun w => askField_ok n s w hs h)
  have HRN := Lib.hid (fun w => Bc.refuse_no 7 w)
  obtain ⟨N, rfl, h1, h2, h3⟩ := vd_t (chk_t h)
  rw [Int.toNat_natCast]
  have hs6 : s.size ≤ 600 := by omega
  have hN8 : N ≤ 8 * s.size := by omega
  have d1 : decide (f < 0) = false := by simpa using hf0
  have d2 : decide ((N : Int) < f) = false := by simpa using hfn
  have HC := Lib.hid hc
  have HCS := Lib.hid hcs
  have HCF := Lib.hid hcf
  have lcf : cf < w.heap.size := World.block_lt_of_cell? _ _ hcf
  have g0 := gb_alloc w (.cells #[.int .i64 0] 3) none
  have k0 := gb_cell g0 hc (by simp)
  have k1 := gb_cell g0 hcs (by simp)
  have k2 := gb_cell g0 hcf (by simp)
  clear h h2 h3 hs hc hcs hcf g0
  refine (callsIn_wide (n := 6)).1 ?_
  refine callsIn_of_wp_marks Tryd.func74 rfl trivial ?_ rfl
  simp only [Tryd.ntmps74, List.size_toArray, List.length_cons, List.length_nil, Nat.reduceAdd, Nat.reduceSub, Array.replicate_succ, Array.replicate_zero, List.push_toArray, List.append_toArray, List.nil_append, List.cons_append]
  gi_wp2_with fail
  refine ⟨trivial, ?_⟩
  refine (callsIn_wide.2 (HA.out _)).mono ?_
  rintro e w1 ⟨rfl, hg⟩
  have k0 := gb_cell hg k0 (by simp)
  have k1 := gb_cell hg k1 (by simp)
  have k2 := gb_cell hg k2 (by simp)
  have HG := Lib.hid hg
  clear hg
  gi_wp2_with fail
  refine ⟨trivial, ?_⟩
  refine (callsIn_wide.2 (HRN.out _)).mono ?_
  rintro e w2 ⟨rfl, rfl⟩
  gi_wp2_with fail
  refine ⟨trivial, ?_⟩
  refine (set_in _ N s _).mono ?_
  rintro e w2 ⟨rfl, rfl⟩
  gi_wp2_with fail
  obtain ⟨W0, hW0⟩ : ∃ W0, (w1.alloc (.cells #[.int .i64 (N : Int)] 3)).alloc (.cells #[.string s] 9) = W0 := ⟨_, rfl⟩
  have hsz : W0.heap.size = w1.heap.size + 2 := by rw [← hW0]; simp
  have hR1 : w.heap.size + 1 ≤ w1.heap.size := by have := HG.out.size; simpa using this
  have hgW : (w.alloc (.cells #[.int .i64 0] 3)).grownBy W0 none := by rw [← hW0]; exact gb_trans HG.out (gb_trans (gb_alloc _ _ _) (gb_alloc _ _ _))
  have hJ0 : JN w.heap.size w1.heap.size w N s f 0 W0 := by
    refine ⟨((Below.refl _ w).alloc (Nat.le_refl _) _).grown hgW (by simp) (fun _ e => by cases e), (Boxed.new w _ _).kept hgW (by simp), ?_, ?_, rfl⟩
    · rw [← hW0]; exact (Boxed.new w1 _ _).alloc _
    · rw [← hW0]
      have s1 : (w1.alloc (.cells #[.int .i64 (N : Int)] 3)).heap.size = w1.heap.size + 1 := by simp
      rw [← s1]; exact Boxed.new _ _ _
  rw [hW0]
  clear hW0 hgW
  obtain ⟨bl, hbl⟩ : ∃ bl, w1.heap.size = bl := ⟨_, rfl⟩
  obtain ⟨R, hR⟩ : ∃ R, w.heap.size = R := ⟨_, rfl⟩
  have HR := Lib.hid hR
  rw [hbl, hR] at hJ0
  rw [hbl] at hsz ⊢
  rw [hR] at lcf ⊢
  rw [hR, hbl] at hR1
  have HRW := Lib.hid (show R ≤ w.heap.size by omega)
  have hRW0 : R ≤ W0.heap.size := by omega
  clear hbl hR k0 k1 k2
  refine range_set (by omega) rfl rfl hN8 hs6 (JN R bl w N s f) (JNx R w N s f) (own_JN HRW.out _ hRW0) (own_JNx HRW.out _ hRW0)
    (fun i W h => ⟨h.2.2.1.cell, h.2.2.2.1.cell⟩) (fun i W _ hb ⟨h1, h2, h3, h4, h5⟩ => ⟨h1, h2, h3, h4, by rw [nbl_f hb]; exact h5⟩) hJ0
    (fun x => { tmps := #[.pointer (some ⟨c, 0, none⟩), .pointer (some ⟨cs, 0, none⟩), .pointer (some ⟨cf, 0, none⟩), .pointer (some ⟨R, 0, none⟩), .int .i64 (x : Int), .int .i64 (N : Int), .string s, .tuple #[], .int .i64 f, .bool false, .bool false, .int .i64 f, .int .i64 (N : Int), .bool false, .bool false, .tuple #[], .int .i64 (N : Int), .string s, .func (.func 106) #[] #[.pointer (some ⟨bl, 0, none⟩), .pointer (some ⟨bl + 1, 0, none⟩)], .int .i64 (x : Int), undef, undef, undef, undef, undef], defers := [] }) ?_ ?_ ?_ ?_
  · intro lp x W K hK
    rw [Rf.zip1]
    change Code.wpIn _ _ _ _ _ { tmps := #[.pointer (some ⟨c, 0, none⟩), .pointer (some ⟨cs, 0, none⟩), .pointer (some ⟨cf, 0, none⟩), .pointer (some ⟨R, 0, none⟩), undef, .int .i64 (N : Int), .string s, .tuple #[], .int .i64 f, .bool false, .bool false, .int .i64 f, .int .i64 (N : Int), .bool false, .bool false, .tuple #[], .int .i64 (N : Int), .string s, .func (.func 106) #[] #[.pointer (some ⟨bl, 0, none⟩), .pointer (some ⟨bl + 1, 0, none⟩)], .int .i64 (x : Int), undef, undef, undef, undef, undef], defers := [] } W
    gi_wp2
    exact hK
  · rintro lp x W hxN hbx ⟨hbe, hbr, hpn, hps, hnone⟩
    have kf := hbe.cell (p := ⟨cf, 0, none⟩) lcf
    rw [HCF.out] at kf
    have cr := hbr.cell
    have fr := hbr.frozen
    by_cases hfx : f ≤ (x : Int)
    · have hit := fst_hit hnone hbx hfx hxN
      have HX : Hid (JNx R w N s f .ret (W.setCell ⟨R, 0, none⟩ (.int .i64 (x : Int)))) := Lib.hid ⟨rfl, _, hbe.setCell (p := ⟨R, 0, none⟩) (Nat.le_refl _) _, hbr.set _, hit⟩
      have d3 : decide (f ≤ (x : Int)) = true := by simpa using hfx
      clear hit hbx hbe hbr hpn hps hnone hJ0
      gi_wp2
      exact ⟨KeepsOthers.setCell _ _ _, HX.out⟩
    · have hst := fst_step hnone (fun _ => show (x : Int) < f by omega)
      have HX : Hid (JN R bl w N s f (x + 1) W) := Lib.hid ⟨hbe, hbr, hpn, hps, hst⟩
      have d3 : decide (f ≤ (x : Int)) = false := by simpa using hfx
      clear hst hbx hbe hbr hpn hps hnone hJ0
      gi_wp2
      exact ⟨KeepsOthers.refl _, HX.out⟩
  · rintro D W hD ⟨hbe, hbr, hpn, hps, hnone⟩ hK
    have HK := Lib.hid hK
    have HN := Lib.hid hnone
    have HBE := Lib.hid hbe
    clear hbe hbr hpn hps hnone hK hJ0
    gi_wp2_with fail
    refine ⟨by simp, .inl ⟨_, _, rfl, run_takeDeferred HK.out, ?_⟩⟩
    exact ⟨.inr ⟨rfl, HN.out⟩, gb_below (by rw [HR.out]; exact HBE.out.grown (grownBy_putObj' W D _) (Nat.le_trans HRW.out HBE.out.size) (fun k e => by cases e; omega)) none⟩
  · rintro D c W hD ⟨rfl, x, hbe, hbr, hsome⟩ hK
    have HK := Lib.hid hK
    have HN := Lib.hid hsome
    have HBE := Lib.hid hbe
    have HBR := Lib.hid hbr
    clear hbe hbr hsome hK hJ0
    gi_wp2
    refine ⟨by simp, .inl ⟨_, _, rfl, run_takeDeferred HK.out, ?_⟩⟩
    have hc5 := (HBR.out.kept (grownBy_putObj' W D (.deferred none)) (by simp; omega)).cell
    refine ⟨.int .i64 x, ?_, .inl ⟨x, rfl, HN.out⟩, ?_⟩
    · simp [results, Tryd.results74, go_sem, hc5]
    · exact gb_below (by rw [HR.out]; exact HBE.out.grown (grownBy_putObj' W D _) (Nat.le_trans HRW.out HBE.out.size) (fun k e => by cases e; omega)) none

theorem enterNext0 (args : Array Value) (w : World) : (callFunc 74 args).run Tryd.prog w = .ok (.enter 74 args) w := by kernel_rfl
theorem nxE_ok {n : Int} {s : ByteArray} {f : Int} (hc : chk n s = 0) (h : ¬ (f < 0 ∨ n < f)) : nxE n s f = match fstL f (liL n s) with | some _ => 0 | none => 8 := by unfold nxE; rw [if_pos hc, if_neg h]; cases fstL f (liL n s) <;> rfl
theorem nxV_ok {n : Int} {s : ByteArray} {f x : Int} (hc : chk n s = 0) (h : ¬ (f < 0 ∨ n < f)) (hx : fstL f (nbl (bt s) n.toNat) = some x) : nxV n s f = x ∧ nxE n s f = 0 := by
  have e : nxE n s f = 0 := by rw [nxE_ok hc h, liL, if_pos hc, hx]
  exact ⟨by unfold nxV; rw [if_pos e, liL, if_pos hc, hx], e⟩
theorem nxV_no {n : Int} {s : ByteArray} {f : Int} (hc : chk n s = 0) (h : ¬ (f < 0 ∨ n < f)) (hx : fstL f (nbl (bt s) n.toNat) = none) : nxV n s f = 0 ∧ nxE n s f = 8 := by
  have e : nxE n s f = 8 := by rw [nxE_ok hc h, liL, if_pos hc, hx]
  exact ⟨by unfold nxV; rw [if_neg (by rw [e]; decide)], e⟩

set_option maxRecDepth 100000 in
set_option maxHeartbeats 1600000 in
theorem Next0_bad (n : Int) (s : ByteArray) (i : Int) (c cs ci : Nat) (w : World) (hs : s.size ≤ 140737488351232) (hc : w.cell? ⟨c, 0, none⟩ = some (.int .i64 n)) (hcs : w.cell? ⟨cs, 0, none⟩ = some (.string s)) (hci : w.cell? ⟨ci, 0, none⟩ = some (.int .i64 i)) (h : chk n s ≠ 0 ∨ i < 0 ∨ n < i) :
    Calls Tryd.prog 74 #[.pointer (some ⟨c, 0, none⟩), .pointer (some ⟨cs, 0, none⟩), .pointer (some ⟨ci, 0, none⟩)] w fun e w' => e = .panicked [{ v := .iface 24 (.int .i64 (nxE n s i)), recovered := false }] ∧ w.grownBy w' none := by
  have g0 := gb_alloc w (.cells #[.int .i64 0] 3) none
  have q0 := gb_cell g0 hc (by simp)
  have q1 := gb_cell g0 hcs (by simp)
  have q2 := gb_cell g0 hci (by simp)
  have HG0 := Lib.hid g0
  clear g0
  by_cases hcc : chk n s = 0
  · have hi : i < 0 ∨ n < i := by
      rcases h with h | h
      · exact absurd hcc h
      · exact h
    rw [show nxE n s i = 7 from by unfold nxE; rw [if_pos hcc, if_pos hi]]
    have HA := Lib.hid (fun w => askField_ok n s w hs hcc)
    have HR := Lib.hid (fun w => Bc.refuse_yes 7 w)
    by_cases h1 : i < 0
    · have d1 : decide (i < 0) = true := by simpa using h1
      clear h hcc hi
      go_enter Tryd.func74, Tryd.ntmps74
      go_wp2_with fail
      refine (HA.out _).mono ?_
      rintro e w1 ⟨rfl, hg⟩
      have k0 := gb_cell hg q0 (by simp)
      have k2 := gb_cell hg q2 (by simp)
      have HG := Lib.hid (gb_trans HG0.out hg)
      clear hg hc hcs hci
      go_wp2_with fail
      refine (HR.out _).mono ?_
      rintro e w2 ⟨rfl, rfl⟩
      exact ⟨rfl, rfl, HG.out⟩
    · have d1 : decide (i < 0) = false := by simpa using h1
      have d2 : decide (n < i) = true := by simp; omega
      clear h hcc hi
      go_enter Tryd.func74, Tryd.ntmps74
      go_wp2_with fail
      refine (HA.out _).mono ?_
      rintro e w1 ⟨rfl, hg⟩
      have k0 := gb_cell hg q0 (by simp)
      have k2 := gb_cell hg q2 (by simp)
      have HG := Lib.hid (gb_trans HG0.out hg)
      clear hg hc hcs hci
      go_wp2_with fail
      refine (HR.out _).mono ?_
      rintro e w2 ⟨rfl, rfl⟩
      exact ⟨rfl, rfl, HG.out⟩
  · rw [show nxE n s i = chk n s from if_neg hcc]
    have HA := Lib.hid (fun w => askField_no n s w hs hcc)
    obtain ⟨z, hz⟩ : ∃ z, chk n s = z := ⟨_, rfl⟩
    simp only [hz] at HA ⊢
    clear hz h hcc
    go_enter Tryd.func74, Tryd.ntmps74
    go_wp2_with fail
    refine (HA.out _).mono ?_
    rintro e w1 ⟨rfl, hg⟩
    exact ⟨rfl, rfl, gb_trans HG0.out hg⟩

set_option maxRecDepth 100000 in
set_option maxHeartbeats 800000 in
theorem Next_any (n : Int) (s : ByteArray) (i : Int) (w : World) (hs : s.size ≤ 140737488351232) :
    Calls Tryd.prog 24 #[.int .i64 n, .string s, .int .i64 i] w fun e w' => e = .returned (.tuple #[.int .i64 (nxV n s i), .int .i64 (nxE n s i)]) ∧ w.grownBy w' none := by
  have hmf : ∀ (fn : Fn) (first cap : Array Value) (w : World), (Instr.makeFunc fn first cap).run Tryd.prog w = .ok (.func fn first cap) w := fun _ _ _ _ => rfl
  have g := Be.aw_gb (bx3 w n s i)
  have H : Hid (Calls Tryd.prog 73 #[.func (Fn.func 74) #[] #[.pointer (some ⟨w.heap.size, 0, none⟩), .pointer (some ⟨w.heap.size + 1, 0, none⟩), .pointer (some ⟨w.heap.size + 1 + 1, 0, none⟩)]] (bx3 w n s i) fun e w' => e = .returned (.tuple #[.int .i64 (nxV n s i), .int .i64 (nxE n s i)]) ∧ (bx3 w n s i).grownBy w' none) := by
    refine Lib.hid ?_
    by_cases h : chk n s ≠ 0 ∨ i < 0 ∨ n < i
    · have e0 : nxE n s i ≠ 0 := by
        unfold nxE
        rcases h with h | h
        · rw [if_neg h]; exact h
        · split
          · first | decide | (rw [if_pos h]; decide)
          · assumption
      rw [show nxV n s i = 0 from if_neg e0]
      refine (Be.att_no 74 _ (nxE n s i) (bx3 w n s i) none (fun _ => True) (sta_true _) (fun _ h => by cases h) enterNext0 ((Next0_bad n s i _ _ _ _ hs (gb_cell g (bx3_k0 w n s i) (by simp)) (gb_cell g (bx3_k1 w n s i) (by simp)) (gb_cell g (bx3_k2 w n s i) (by simp)) h).mono fun e w' hh => ⟨hh.1, trivial, hh.2⟩)).mono fun e w' hh => ⟨hh.1, hh.2.2⟩
    · have hcc : chk n s = 0 := by
        by_cases e : chk n s = 0
        · exact e
        · exact absurd (.inl e) h
      have hi : ¬ (i < 0 ∨ n < i) := fun e => h (.inr e)
      have HN := Next0_in n s i _ _ _ _ hs (gb_cell g (bx3_k0 w n s i) (by simp)) (gb_cell g (bx3_k1 w n s i) (by simp)) (gb_cell g (bx3_k2 w n s i) (by simp)) hcc (by omega) (by omega)
      cases hx : fstL i (nbl (bt s) n.toNat) with
      | none =>
        obtain ⟨e1, e2⟩ := nxV_no hcc hi hx
        rw [e1, e2]
        refine (Be.att_no 74 _ 8 (bx3 w n s i) none (fun _ => True) (sta_true _) (fun _ h => by cases h) enterNext0 (HN.mono ?_)).mono fun e w' hh => ⟨hh.1, hh.2.2⟩
        rintro e w' ⟨⟨x, _, h2⟩ | ⟨h1, _⟩, hg⟩
        · rw [hx] at h2; cases h2
        · exact ⟨h1, trivial, hg⟩
      | some x =>
        obtain ⟨e1, e2⟩ := nxV_ok hcc hi hx
        rw [e1, e2]
        refine (Be.att_ok 74 _ _ (bx3 w n s i) none (fun _ => True) (sta_true _) (fun _ h => by cases h) enterNext0 (HN.mono ?_)).mono fun e w' hh => ⟨hh.1, hh.2.2⟩
        rintro e w' ⟨⟨y, h1, h2⟩ | ⟨_, h2⟩, hg⟩
        · rw [hx] at h2; cases h2; exact ⟨h1, trivial, hg⟩
        · rw [hx] at h2; cases h2
  obtain ⟨x, hx⟩ : ∃ x, nxV n s i = x := ⟨_, rfl⟩
  obtain ⟨y, hy⟩ : ∃ y, nxE n s i = y := ⟨_, rfl⟩
  rw [hx, hy] at H ⊢
  have HW := Lib.hid (bx3_gb w n s i)
  clear hx hy g
  unfold bx3 bxs bx at H HW
  go_enter Tryd.func24, Tryd.ntmps24
  go_wp2_with fail
  refine H.out.mono ?_
  rintro e w1 ⟨rfl, hg⟩
  have HG := Lib.hid (gb_trans HW.out hg)
  clear hg
  go_wp2
  go_ret2
  exact ⟨rfl, HG.out⟩
end Go.Proofs.YtbeaohnjifcgaaaDoor.Bh
