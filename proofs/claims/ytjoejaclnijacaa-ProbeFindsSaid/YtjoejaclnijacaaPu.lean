/-
  Steps: the program's and the reference's.
-/
import Derived.Test.YtjoejaclnijacaaPt
import Derived.Test.YtjoejaclnijacaaPd
import Derived.Deep.OwnRows
import Derived.Deep.RegionLaw
import Derived.Deep.RegionHeld3
namespace Go.Proofs.Ytjoejaclnijacaa.Ps
open Go Go.RowKit Go.Proofs.Ytjoejaclnijacaa.Sx Go.Proofs.Ytjoejaclnijacaa.Pm

theorem enterStep (args : Array Value) (w : World) : (callFunc 27 args).run Try.prog w = .ok (.enter 27 args) w := by kernel_rfl
theorem enterSteps (args : Array Value) (w : World) : (callFunc 26 args).run Try.prog w = .ok (.enter 26 args) w := by kernel_rfl

set_option maxHeartbeats 1600000 in
theorem step_any (p : Nat) : ∀ (m : Nat) (l h : Int) (w : World), (h - l).toNat = m → 0 ≤ l → l ≤ h → h ≤ 9000 → w.cell? ⟨p, 0, none⟩ = some (.func (Fn.func 27) #[] #[.pointer (some ⟨p, 0, none⟩)]) →
    Calls Try.prog 27 #[.agg #[.int .i64 l, .int .i64 h], .pointer (some ⟨p, 0, none⟩)] w fun e w' => e = .returned (.int .i64 (stp (h - l).toNat)) ∧ w.grownBy w' none := by
  intro m
  induction m using Nat.strongRecOn with
  | _ m ih =>
    intro l h w hm b0 hlh b9 cp
    have cp1 := gb_cell (gb_alloc w (.cells #[.int .i64 l, .int .i64 h] 47) none) cp (by simp)
    have hb := World.alloc_heap_new w (.cells #[.int .i64 l, .int .i64 h] 47)
    have z0 := cell_at hb (i := 0) (v := .int .i64 l) rfl
    have z1 := cell_at hb (i := 1) (v := .int .i64 h) rfl
    have HG0 := Lib.hid (gb_alloc w (.cells #[.int .i64 l, .int .i64 h] 47) none)
    clear hb
    by_cases hc : h - l < 16
    · rw [stp_small (by omega)]
      clear hm ih
      go_enter Try.func27, Try.ntmps27
      go_wp2_with fail
      refine (close_t l h _ b0 b9 (by omega) hc).mono ?_
      rintro e w1 ⟨rfl, g1⟩
      have HG := Lib.hid (gb_trans HG0.out g1)
      clear g1
      go_wp2
      go_ret
      exact ⟨rfl, HG.out⟩
    · have hc' : 16 ≤ h - l := by omega
      obtain ⟨m1, m2, m3, m4⟩ := mid_in (l := l) (h := h) hc'
      have IH1 := Lib.hid (fun W (hW : World.cell? W ⟨p, 0, none⟩ = _) => ih (h - mid l h).toNat (by omega) (mid l h) h W rfl (by omega) m2 b9 hW)
      have IH2 := Lib.hid (fun W (hW : World.cell? W ⟨p, 0, none⟩ = _) => ih (mid l h - 1 - l).toNat (by omega) l (mid l h - 1) W rfl b0 (by omega) (by omega) hW)
      have hst := Lib.hid (stp_big (w := (h - l).toNat) (by omega))
      have s1 := stp_le (h - mid l h).toNat
      have s2 := stp_le (mid l h - 1 - l).toNat
      rw [← m3, ← m4] at hst
      obtain ⟨x, hx⟩ : ∃ x, stp (h - mid l h).toNat = x := ⟨_, rfl⟩
      obtain ⟨y, hy⟩ : ∃ y, stp (mid l h - 1 - l).toNat = y := ⟨_, rfl⟩
      obtain ⟨z, hz⟩ : ∃ z, stp (h - l).toNat = z := ⟨_, rfl⟩
      rw [hx] at IH1 s1 hst
      rw [hy] at IH2 s2 hst
      rw [hz] at hst ⊢
      have x1 : x ≤ 27000 := by omega
      have y1 : y ≤ 27000 := by omega
      obtain ⟨q, hq⟩ : ∃ q, mid l h = q := ⟨_, rfl⟩
      rw [hq] at IH1 IH2 m1 m2
      have HQ := Lib.hid hq
      clear ih hm hx hy hz s1 s2 m3 m4 hq
      have ew1 := Lib.hid (IntWalk.i64_in (q - 1) (by omega))
      have ew2 := Lib.hid (IntWalk.i64_in (1 + (x : Int)) (by omega))
      have ew3 := Lib.hid (IntWalk.i64_in (3 + (y : Int)) (by omega))
      have hz' : (1 + (x : Int) < 3 + (y : Int) ∧ (z : Int) = 3 + y) ∨ (3 + (y : Int) ≤ 1 + (x : Int) ∧ (z : Int) = 1 + x) := by have := hst.out; omega
      clear hst
      rcases hz' with ⟨hxy, hz⟩ | ⟨hxy, hz⟩
      all_goals
        rw [hz]
        clear hz
        go_enter Try.func27, Try.ntmps27
        go_wp2_with fail
        refine (close_f l h _ b0 b9 hc').mono ?_
        rintro e w1 ⟨rfl, g1⟩
        have y0 := gb_cell g1 z0 (by simp)
        have yy1 := gb_cell g1 z1 (by simp)
        have cp2 := gb_cell g1 cp1 (by simp)
        have HG1 := Lib.hid (gb_trans HG0.out g1)
        clear g1 z0 z1 cp1 cp
        go_wp2_with fail
        refine (middle_any l h _ b0 b9 (by omega) (by omega)).mono ?_
        rintro e w2 ⟨rfl, g2⟩
        rw [HQ.out]
        have x0 := gb_cell g2 y0 (by simp)
        have xx1 := gb_cell g2 yy1 (by simp)
        have cp3 := gb_cell g2 cp2 (by simp)
        have HG2 := Lib.hid (gb_trans HG1.out g2)
        clear g2 y0 yy1 cp2
        go_wp2_with fail
        have ew1 := ew1.out
        have ew2 := ew2.out
        have ew3 := ew3.out
        have hS0 : w2.drew.cell? ⟨p, 0, none⟩ = some (.func (Fn.func 27) #[] #[.pointer (some ⟨p, 0, none⟩)]) ∧ w2.drew.cell? ⟨w.heap.size, 0, none⟩ = some (.int .i64 l) ∧ w2.drew.cell? ⟨w.heap.size, 1, none⟩ = some (.int .i64 h) ∧ w.grownBy w2.drew none := ⟨cp3, x0, xx1, gb_trans HG2.out (gb_drew1 _ _)⟩
        go_region_held3 (fun w' => w'.cell? ⟨p, 0, none⟩ = some (.func (Fn.func 27) #[] #[.pointer (some ⟨p, 0, none⟩)]) ∧ w'.cell? ⟨w.heap.size, 0, none⟩ = some (.int .i64 l) ∧ w'.cell? ⟨w.heap.size, 1, none⟩ = some (.int .i64 h) ∧ w.grownBy w' none)
          (first
            | exact hS0
            | (go_split_ands; refine ⟨?_, ?_, ?_, ?_⟩ <;> assumption)
            | (go_split_ands; exact ⟨gb_cell hbx (by assumption) (by simp), gb_cell hbx (by assumption) (by simp), gb_cell hbx (by assumption) (by simp), gb_trans (by assumption) hbx⟩))
          (first
            | (go_at_call_of 27 h; (with_reducible refine (IH1.out _ (by first | assumption | (go_split_ands; assumption))).mono ?_); rintro e w4 ⟨rfl, hbx⟩)
            | (go_at_call_of 27 l; (with_reducible refine (IH2.out _ (by first | assumption | (go_split_ands; assumption))).mono ?_); rintro e w4 ⟨rfl, hbx⟩))
        go_split_ands
        go_wp2
        go_ret
        exact ⟨rfl, by assumption⟩

set_option maxHeartbeats 1600000 in
theorem Steps1_ok (pl ph : Nat) (l h : Int) (w : World) (H : rightB l h = true) (cl : w.cell? ⟨pl, 0, none⟩ = some (.int .i64 l)) (ch : w.cell? ⟨ph, 0, none⟩ = some (.int .i64 h)) :
    Calls Try.prog 26 #[.pointer (some ⟨pl, 0, none⟩), .pointer (some ⟨ph, 0, none⟩)] w fun e w' => e = .returned (.int .i64 (stp (h - l).toNat)) ∧ w.grownBy w' none := by
  have hmf : ∀ (fn : Fn) (first cap : Array Value) (w : World), (Instr.makeFunc fn first cap).run Try.prog w = .ok (.func fn first cap) w := fun _ _ _ _ => rfl
  have HA := Lib.hid (askSizes_t l h w H)
  obtain ⟨h1, h2, h3⟩ := rightB_t H
  have hb := World.alloc_heap_new w (.cells #[.func (Fn.func 27) #[] #[.pointer (some ⟨w.heap.size, 0, none⟩)]] 57)
  have HS := Lib.hid (step_any w.heap.size (h - l).toNat l h _ rfl (by omega) h3 h2 (cell_at hb (i := 0) (v := .func (Fn.func 27) #[] #[.pointer (some ⟨w.heap.size, 0, none⟩)]) rfl))
  have hK := enterStep
  have cl1 := gb_cell (gb_alloc w (.cells #[.func (Fn.func 27) #[] #[.pointer (some ⟨w.heap.size, 0, none⟩)]] 57) none) cl (by simp)
  have ch1 := gb_cell (gb_alloc w (.cells #[.func (Fn.func 27) #[] #[.pointer (some ⟨w.heap.size, 0, none⟩)]] 57) none) ch (by simp)
  clear H hb
  go_enter Try.func26, Try.ntmps26
  go_wp2_with fail
  refine HA.out.mono ?_
  rintro e w1 ⟨rfl, rfl⟩
  go_wp2_with fail
  refine HS.out.mono ?_
  rintro e w1 ⟨rfl, g1⟩
  have HG := Lib.hid (gb_trans (gb_alloc w (.cells #[.func (Fn.func 27) #[] #[.pointer (some ⟨w.heap.size, 0, none⟩)]] 57) none) g1)
  clear g1
  go_wp2
  go_ret
  exact ⟨rfl, HG.out⟩
set_option maxHeartbeats 1600000 in
theorem Steps1_no (pl ph : Nat) (l h : Int) (w : World) (H : rightB l h = false) (cl : w.cell? ⟨pl, 0, none⟩ = some (.int .i64 l)) (ch : w.cell? ⟨ph, 0, none⟩ = some (.int .i64 h)) :
    Calls Try.prog 26 #[.pointer (some ⟨pl, 0, none⟩), .pointer (some ⟨ph, 0, none⟩)] w fun e w' => e = .panicked [{ v := .iface 24 (.int .i64 7), recovered := false }] ∧ w.grownBy w' none := by
  have HA := Lib.hid (askSizes_f l h w H)
  clear H
  go_enter Try.func26, Try.ntmps26
  go_wp2_with fail
  refine HA.out.mono ?_
  rintro e w1 ⟨rfl, rfl⟩
  go_wp2_with fail
  simp [bodyPost]
  exact gb_refl _ _

/-- what Steps answers -/
def stN (l h : Int) : Int := if rightB l h = true then stp (h - l).toNat else 0
def stE (l h : Int) : Int := if rightB l h = true then 0 else 7
set_option maxHeartbeats 1600000 in
theorem Steps_any (l h : Int) (w : World) :
    Calls Try.prog 7 #[.int .i64 l, .int .i64 h] w fun e w' => e = .returned (.tuple #[.int .i64 (stN l h), .int .i64 (stE l h)]) ∧ w.grownBy w' none := by
  have hmf : ∀ (fn : Fn) (first cap : Array Value) (w : World), (Instr.makeFunc fn first cap).run Try.prog w = .ok (.func fn first cap) w := fun _ _ _ _ => rfl
  obtain ⟨wA, hwA⟩ : ∃ wA, (w.alloc (.cells #[.int .i64 l] 3)).alloc (.cells #[.int .i64 h] 3) = wA := ⟨_, rfl⟩
  have hgA : w.grownBy wA none := by rw [← hwA]; exact gb_trans (gb_alloc _ _ _) (gb_alloc _ _ _)
  have cl : (Pd.aw wA).cell? ⟨w.heap.size, 0, none⟩ = some (.int .i64 l) := by rw [← hwA]; simp [Pd.aw, go_sem]
  have ch : (Pd.aw wA).cell? ⟨w.heap.size + 1, 0, none⟩ = some (.int .i64 h) := by rw [← hwA]; simp [Pd.aw, go_sem]
  have hA : Calls Try.prog 25 #[.func (Fn.func 26) #[] #[.pointer (some ⟨w.heap.size, 0, none⟩), .pointer (some ⟨w.heap.size + 1, 0, none⟩)]] wA fun e w' => e = .returned (.tuple #[.int .i64 (stN l h), .int .i64 (stE l h)]) ∧ wA.grownBy w' none := by
    cases H : rightB l h
    · rw [show stN l h = 0 from if_neg (by rw [H]; decide), show stE l h = 7 from if_neg (by rw [H]; decide)]
      exact (Pd.att_no 26 _ 7 wA none (fun _ => True) (sta_true _) (fun _ h => by cases h) enterSteps ((Steps1_no _ _ l h _ H cl ch).mono fun e w' q => ⟨q.1, trivial, q.2⟩)).mono fun e w' q => ⟨q.1, q.2.2⟩
    · rw [show stN l h = stp (h - l).toNat from if_pos H, show stE l h = 0 from if_pos H]
      exact (Pd.att_ok 26 _ _ wA none (fun _ => True) (sta_true _) (fun _ h => by cases h) enterSteps ((Steps1_ok _ _ l h _ H cl ch).mono fun e w' q => ⟨q.1, trivial, q.2⟩)).mono fun e w' q => ⟨q.1, q.2.2⟩
  have HA := Lib.hid hA
  have HG := Lib.hid hgA
  clear hA cl ch hgA
  go_enter Try.func7, Try.ntmps7
  go_wp2_with fail
  refine HA.out.mono ?_
  rintro e w2 ⟨rfl, g2⟩
  have HGE := Lib.hid (gb_trans HG.out g2)
  clear g2
  go_wp2
  go_ret2
  exact ⟨rfl, HGE.out⟩

/-! the reference's -/
def need (i j : Nat) : Int := if j < i then stp j else 0
def needC (n i : Nat) : Array Value := ((List.range n).map fun j => Value.int .i64 (need i j)).toArray
theorem needC_at (n i j : Nat) (h : j < n) : (needC n i)[j]? = some (.int .i64 (need i j)) := by
  unfold needC; simp [h]
theorem needC_set (n i : Nat) (h : i < n) : (needC n i).setIfInBounds i (.int .i64 (stp i)) = needC n (i + 1) := by
  apply Array.ext_getElem?
  intro j
  by_cases hj : j = i
  · subst hj
    rw [needC_at _ _ _ h]
    simp [needC, need, h]
  · rw [Array.getElem?_setIfInBounds_ne (Ne.symm hj)]
    by_cases hn : j < n
    · rw [needC_at _ _ _ hn, needC_at _ _ _ hn]
      unfold need
      by_cases hji : j < i
      · rw [if_pos hji, if_pos (by omega)]
      · rw [if_neg hji, if_neg (by omega)]
    · simp [needC, hn]
theorem needC_zero (n : Nat) : Go.madeCells #[.int .i64 0] n = needC n 16 := by
  apply Array.ext_getElem?
  intro j
  by_cases hn : j < n
  · rw [needC_at _ _ _ hn]
    have : need 16 j = 0 := by
      unfold need
      split
      · rw [stp_small (by assumption)]; rfl
      · rfl
    rw [this]
    simp [madeCells, hn, Nat.mod_one]
  · simp [madeCells, needC, hn]

theorem int_info : (Try.prog.info? 3).map (fun i => (i.zero, i.size, i.bytes)) = some (some (.int .i64 0), 1, 8) := by kernel_rfl

set_option maxHeartbeats 1600000 in
theorem RSteps_no (l h : Int) (w : World) (H : rightB l h = false) :
    Calls Try.prog 9 #[.int .i64 l, .int .i64 h] w fun e w' => e = .returned (.tuple #[.int .i64 0, .int .i64 7]) ∧ w.grownBy w' none := by
  have HR := Lib.hid (Right_f l h H)
  clear H
  go_enter Try.func9, Try.ntmps9
  go_wp2_with fail
  refine (HR.out _).mono ?_
  rintro e w1 ⟨rfl, rfl⟩
  go_wp2
  go_ret2
  exact ⟨rfl, gb_refl _ _⟩

set_option maxRecDepth 100000 in
set_option maxHeartbeats 3200000 in
theorem RSteps_ok (l h : Int) (w : World) (H : rightB l h = true) :
    Calls Try.prog 9 #[.int .i64 l, .int .i64 h] w fun e w' => e = .returned (.tuple #[.int .i64 (stp (h - l).toNat), .int .i64 0]) ∧ w.grownBy w' none := by
  have HR := Lib.hid (Right_t l h H)
  obtain ⟨l1, l2, l3⟩ := rightB_t H
  clear H
  obtain ⟨N, hN⟩ : ∃ N, (h - l).toNat = N := ⟨_, rfl⟩
  obtain ⟨n, hn⟩ : ∃ n, N + 1 = n := ⟨_, rfl⟩
  have hmk : ∀ w, (Instr.makeSlice 63 (.int .i64 (h - l + 1)) (.int .i64 (h - l + 1))).run Try.prog w = .ok (.slice (some ⟨w.heap.size, 0, none⟩) n n) (w.alloc (.cells (needC n 16) 3)) := by
    intro w
    have := run_make_row' (P := Try.prog) 63 3 (.int .i64 0) 8 Try.underlying63 int_info rfl .i64 .i64 n (by omega) (by omega) w
    rw [needC_zero] at this
    rw [show h - l + 1 = (n : Int) from by omega]
    exact this
  rw [hN]
  have hlen : (n : Int) = h - l + 1 := by omega
  have n1 : (n : Int) ≤ 9000 := by omega
  have hNn : N < n := by omega
  have HN := Lib.hid hN
  have Hn := Lib.hid hn
  have Hlen := Lib.hid hlen
  have hhl : (0 : Int) ≤ h - l ∧ h - l < (n : Int) := by omega
  obtain ⟨hhl1, hhl2⟩ := hhl
  clear hN hn hlen
  go_enter Try.func9, Try.ntmps9
  go_wp2_with fail
  refine (HR.out _).mono ?_
  rintro e w1 ⟨rfl, rfl⟩
  go_wp2
  obtain ⟨b, hb⟩ : ∃ b, w.heap.size = b := ⟨_, rfl⟩
  have HB0 : Hid ((w.alloc (.cells (needC n 16) 3)).heap[b]? = some (.cells (needC n 16) 3 (0, 0))) := Lib.hid (by rw [← hb]; exact World.alloc_heap_new _ _)
  have HGB : Hid (w.grownBy (w.alloc (.cells (needC n 16) 3)) none) := Lib.hid (gb_alloc _ _ _)
  have HbE := Lib.hid hb
  rw [hb]
  clear hb hmk
  go_loopw [7, 8] (fun i _ wr => ∃ k : Nat, 16 ≤ k ∧ (k ≤ n ∨ k = 16) ∧ i = .int .i64 k ∧ Hid (wr.heap[b]? = some (.cells (needC n k) 3 (0, 0))) ∧ Hid (w.grownBy wr none)) (fun i _ _ => 9000 - (intOf i).toNat)
  case atStart => exact ⟨16, Nat.le_refl _, .inr rfl, rfl, HB0, HGB⟩
  case round =>
    obtain ⟨k, hk16, hkn, rfl, HB, HG⟩ := hrel
    by_cases hlt : k < n
    · have hst := stp_big hk16
      have hs1 := stp_le (k / 2)
      have hs2 := stp_le ((k - 1) / 2)
      have j1n : k / 2 < n := by omega
      have j2n : (k - 1) / 2 < n := by omega
      have c1 : wr.cell? ⟨b, k / 2, none⟩ = some (.int .i64 (stp (k / 2))) := by
        have := cell_at HB.out (needC_at n k (k / 2) j1n)
        rwa [show need k (k / 2) = stp (k / 2) from if_pos (by omega)] at this
      have c2 : wr.cell? ⟨b, (k - 1) / 2, none⟩ = some (.int .i64 (stp ((k - 1) / 2))) := by
        have := cell_at HB.out (needC_at n k ((k - 1) / 2) j2n)
        rwa [show need k ((k - 1) / 2) = stp ((k - 1) / 2) from if_pos (by omega)] at this
      have c3 : wr.cell? ⟨b, k, none⟩ = some (.int .i64 0) := by
        have := cell_at HB.out (needC_at n k k hlt)
        rwa [show need k k = 0 from if_neg (by omega)] at this
      have f3 := frozen_at k HB.out
      have HSet : Hid ((wr.setCell ⟨b, k, none⟩ (.int .i64 (stp k))).drew.heap[b]? = some (.cells (needC n (k + 1)) 3 (0, 0))) := Lib.hid (by
        rw [← needC_set n k hlt]
        exact heap_setCell_same wr b k (needC n k) 3 (.int .i64 (stp k)) HB.out)
      have HGS : Hid (∀ v, w.grownBy (wr.setCell ⟨b, k, none⟩ v).drew none) := Lib.hid (fun v => gb_trans (gb_new HG.out b k v (by rw [HbE.out]; exact Nat.le_refl _)) (gb_drew1 _ _))
      have ew1 : IntKind.i64.wrap ((k : Int) - ((k : Int) + 1) / 2) = ((k / 2 : Nat) : Int) := by rw [IntKind.wrap_i64]; omega
      have ew2 : IntKind.i64.wrap (((k : Int) + 1) / 2 - 1) = (((k - 1) / 2 : Nat) : Int) := by rw [IntKind.wrap_i64]; omega
      obtain ⟨j1, hj1⟩ : ∃ j, k / 2 = j := ⟨_, rfl⟩
      obtain ⟨j2, hj2⟩ : ∃ j, (k - 1) / 2 = j := ⟨_, rfl⟩
      rw [hj1] at hst hs1 j1n c1 ew1
      rw [hj2] at hst hs2 j2n c2 ew2
      have x1 : stp j1 ≤ 27000 := by omega
      have y1 : stp j2 ≤ 27000 := by omega
      have hkm : k ≤ 9000 := by omega
      clear hj1 hj2 hs1 hs2
      obtain ⟨x, hx⟩ : ∃ x, stp j1 = x := ⟨_, rfl⟩
      obtain ⟨y, hy⟩ : ∃ y, stp j2 = y := ⟨_, rfl⟩
      obtain ⟨z, hz⟩ : ∃ z, stp k = z := ⟨_, rfl⟩
      rw [hx] at hst x1 c1
      rw [hy] at hst y1 c2
      rw [hz] at hst HSet
      have ew3 := Lib.hid (IntWalk.i64_in (1 + (x : Int)) (by omega))
      have ew4 := Lib.hid (IntWalk.i64_in (3 + (y : Int)) (by omega))
      have ew1 := Lib.hid ew1
      have ew2 := Lib.hid ew2
      have hz' : (1 + (x : Int) < 3 + (y : Int) ∧ (z : Int) = 3 + y) ∨ (3 + (y : Int) ≤ 1 + (x : Int) ∧ (z : Int) = 1 + x) := by omega
      have j1i : (j1 : Int) < (n : Int) := by omega
      have j2i : (j2 : Int) < (n : Int) := by omega
      clear hst hx hy hz hkn
      rcases hz' with ⟨hxy, hz⟩ | ⟨hxy, hz⟩
      all_goals
        rw [hz] at HSet
        clear hz
        go_wp2_with fail
        have ew1 := ew1.out
        have ew2 := ew2.out
        have ew3 := ew3.out
        have ew4 := ew4.out
        go_region
        clear ew1 ew2 ew3 ew4
        go_wp2
        go_roundw
        case rel => exact ⟨k + 1, by omega, .inl (by omega), by go_num, HSet, Lib.hid (HGS.out _)⟩
        case measure => simp [intOf]; omega
    · have cN : wr.cell? ⟨b, N, none⟩ = some (.int .i64 (stp N)) := by
        have := cell_at HB.out (needC_at n k N hNn)
        rwa [show need k N = stp N from if_pos (by omega)] at this
      have cN' : wr.cell? ⟨b, (h - l).toNat, none⟩ = some (.int .i64 (stp N)) := by rw [HN.out]; exact cN
      have hge : (n : Int) ≤ (k : Int) := by omega
      have d1 : decide (k < n) = false := by simpa using hlt
      clear cN
      go_wp2
      go_ret2
      exact ⟨rfl, HG.out⟩
end Go.Proofs.Ytjoejaclnijacaa.Ps
