/-
  Fields of bits: the program's FromRuns. (made by mk_cq.py)
-/
import Derived.Test.YtbeaohnjifcgaaaDoorCp
import Derived.Test.YtbeaohnjifcgaaaDoorBn
namespace Go.Proofs.YtbeaohnjifcgaaaDoor.Bh
open Go Go.RowKit Go.Shelf Go.Proofs.YtbeaohnjifcgaaaDoor.Sx Go.Proofs.YtbeaohnjifcgaaaDoor.Na Go.Proofs.YtbeaohnjifcgaaaDoor.Ba

def FrPost (w0 : World) (b m ce : Nat) (r : Int × (Nat → Bool)) (e : Ending) (w' : World) : Prop :=
  (r.1 = 0 → e = .returned (.tuple #[]) ∧ BG w' b m (bN r.2)) ∧ (r.1 ≠ 0 → e = .panicked [{ v := .iface 24 (.int .i64 r.1), recovered := false }]) ∧ w0.grownBy w' (some ce)

set_option maxRecDepth 100000 in
set_option maxHeartbeats 3200000 in
theorem Fr1_any (N m : Nat) (hm : (N + 7) / 8 = m) (hN : N ≤ 4096) (l : List (Int × Int)) (a : Option Addr) (cap : Nat) (b c cl ce : Nat) (w0 w : World) (hc : w0.cell? ⟨c, 0, none⟩ = some (.int .i64 (N : Int)))
    (hcl : w0.cell? ⟨cl, 0, none⟩ = some (.slice a l.length cap)) (hce : w0.cell? ⟨ce, 0, none⟩ = some (.int .i64 0)) (hfe : w0.frozen? ⟨ce, 0, none⟩ = false) (hne : c ≠ ce) (hz : RL w0 a l) (hzb : ∀ zb off, a = some ⟨zb, off, none⟩ → 0 < l.length → zb ≠ ce)
    (hzl : l.length ≤ maxLen) (hb : BG w b m fun _ => 0) (hg : w0.grownBy w none) (hbz : w0.heap.size ≤ b) :
    Calls Tryd.prog 91 #[.slice (some ⟨b, 0, none⟩) m m, .pointer (some ⟨cl, 0, none⟩), .pointer (some ⟨c, 0, none⟩), .pointer (some ⟨ce, 0, none⟩)] w (FrPost w0 b m ce (frL N l 0 fun _ => false)) := by
  have HC := Lib.hid hc
  have HZ := Lib.hid hbz
  have HI := Lib.hid hz
  have HZB := Lib.hid hzb
  have HG : Hid (w0.grownBy w (some ce)) := Lib.hid (gb_none hg _)
  have HCE := Lib.hid (gb_cell hg hce (by simp))
  have HFE := Lib.hid (gb_frozen hg hce hfe (by simp))
  have ccl := gb_cell hg hcl (by simp)
  have lce : ce < w0.heap.size := World.block_lt_of_cell? _ _ hce
  have HB : Hid (BG w b m (bN fun _ => false)) := Lib.hid hb
  obtain ⟨r, hr⟩ : ∃ r, frL N l 0 (fun _ => false) = r := ⟨_, rfl⟩
  have HR : Hid (frL N (l.drop 0) 0 (fun _ => false) = r) := Lib.hid hr
  have HM := Lib.hid hm
  have HN := Lib.hid (fun k w => Bc.refuse_no k w)
  have HY := Lib.hid (fun k w => Bc.refuse_yes k w)
  have hm5 : m ≤ 512 := by omega
  have hbce : b ≠ ce := by omega
  have hln := hzl
  unfold maxLen at hln
  rw [hr]
  clear hb hg hc hcl hbz hz hr hm hzl hzb hce hfe
  obtain ⟨len, hlen⟩ : ∃ len, l.length = len := ⟨_, rfl⟩
  have HLE := Lib.hid hlen
  rw [hlen] at ccl hln
  clear hlen
  go_enter Tryd.func91, Tryd.ntmps91
  go_wp2_with fail
  go_loopw [6, 7, 10] (fun _ _ i wr => ∃ (k E0 : Nat) (β : Nat → Bool), k ≤ len ∧ E0 ≤ 4096 ∧ i = .int .i64 k ∧ Hid (BG wr b m (bN β)) ∧ Hid (w0.grownBy wr (some ce)) ∧ Hid (wr.cell? ⟨ce, 0, none⟩ = some (.int .i64 (E0 : Int))) ∧ Hid (wr.frozen? ⟨ce, 0, none⟩ = false) ∧ Hid (frL N (l.drop k) E0 β = r)) (fun _ _ i _ => len - (intOf i).toNat)
  case atStart => exact ⟨0, 0, _, Nat.zero_le _, Nat.zero_le _, rfl, HB, HG, HCE, HFE, HR⟩
  case round =>
    clear ccl HCE HFE
    obtain ⟨k, E0, β, hk, hE0, rfl, HBk, HGk, HCk, HFk, HRk⟩ := hrel
    by_cases hlt : k < len
    · have hlt' : (k : Int) < (len : Int) := by omega
      obtain ⟨zb, off, ea, hzc⟩ := HI.out (by rw [HLE.out]; omega)
      have hzne := HZB.out zb off ea (by rw [HLE.out]; omega)
      subst ea
      obtain ⟨z0, z1⟩ := hzc k (by rw [HLE.out]; exact hlt)
      have cz := gb_cell HGk.out z0 (by simp; omega)
      have cz1 := gb_cell HGk.out z1 (by simp; omega)
      have hrk := HRk.out
      rw [dropR l k (by rw [HLE.out]; exact hlt), frL_cons] at hrk
      clear hzc z0 z1
      obtain ⟨p, hp⟩ : ∃ p, l.getD k (0, 0) = p := ⟨_, rfl⟩
      rw [hp] at cz cz1 hrk
      clear hp
      obtain ⟨f, c'⟩ := p
      simp only [] at cz cz1 hrk
      obtain ⟨wa, hwa⟩ : ∃ wa, wr.alloc (.cells #[.int .i64 f, .int .i64 c'] 85) = wa := ⟨_, rfl⟩
      have HWA := Lib.hid hwa
      have r0 : (wr.alloc (.cells #[.int .i64 f, .int .i64 c'] 85)).cell? ⟨wr.heap.size, 0, none⟩ = some (.int .i64 f) := cell_at (World.alloc_heap_new wr _) rfl
      have r1 : (wr.alloc (.cells #[.int .i64 f, .int .i64 c'] 85)).cell? ⟨wr.heap.size, 1, none⟩ = some (.int .i64 c') := cell_at (World.alloc_heap_new wr _) rfl
      have lcr : ce < wr.heap.size := World.block_lt_of_cell? _ _ HCk.out
      have HGA : Hid (w0.grownBy (wr.alloc (.cells #[.int .i64 f, .int .i64 c'] 85)) (some ce)) := Lib.hid (gb_trans HGk.out (gb_alloc _ _ _))
      have HBA : Hid (BG (wr.alloc (.cells #[.int .i64 f, .int .i64 c'] 85)) b m (bN β)) := Lib.hid (HBk.out.kept (gb_alloc _ _ none) (by simp))
      have ccA := gb_cell HGA.out HC.out (by simp; omega)
      have ceA := gb_cell (gb_alloc wr (.cells #[.int .i64 f, .int .i64 c'] 85) none) HCk.out (by simp)
      have feA := gb_frozen (gb_alloc wr (.cells #[.int .i64 f, .int .i64 c'] 85) none) HCk.out HFk.out (by simp)
      clear hwa HWA
      by_cases hbad : badR N f c'
      · rw [if_pos hbad] at hrk
        have HRR := Lib.hid hrk
        clear hrk
        have hb4 : (c' < 1) ∨ (1 ≤ c' ∧ f < 0) ∨ (1 ≤ c' ∧ 0 ≤ f ∧ (N : Int) < f) ∨ (1 ≤ c' ∧ 0 ≤ f ∧ f ≤ (N : Int) ∧ (N : Int) - f < c') := by unfold badR at hbad; omega
        clear hbad
        rcases hb4 with hb4 | hb4 | hb4 | hb4
        · have d1 : decide (c' < 1) = true := by simp; omega
          clear hb4
          go_wp2_with fail
          refine (HY.out _ _).mono ?_
          rintro e w1 ⟨rfl, rfl⟩
          refine ⟨rfl, ?_⟩
          rw [← HRR.out]
          exact ⟨fun h => (by cases h), fun _ => rfl, HGA.out⟩
        · have d1 : decide (c' < 1) = false := by simp; omega
          have d2 : decide (f < 0) = true := by simp; omega
          clear hb4
          go_wp2_with fail
          refine (HY.out _ _).mono ?_
          rintro e w1 ⟨rfl, rfl⟩
          refine ⟨rfl, ?_⟩
          rw [← HRR.out]
          exact ⟨fun h => (by cases h), fun _ => rfl, HGA.out⟩
        · have d1 : decide (c' < 1) = false := by simp; omega
          have d2 : decide (f < 0) = false := by simp; omega
          have d3 : decide ((N : Int) < f) = true := by simp; omega
          clear hb4
          go_wp2_with fail
          refine (HY.out _ _).mono ?_
          rintro e w1 ⟨rfl, rfl⟩
          refine ⟨rfl, ?_⟩
          rw [← HRR.out]
          exact ⟨fun h => (by cases h), fun _ => rfl, HGA.out⟩
        · have d1 : decide (c' < 1) = false := by simp; omega
          have d2 : decide (f < 0) = false := by simp; omega
          have d3 : decide ((N : Int) < f) = false := by simp; omega
          have d4 : decide ((N : Int) - f < c') = true := by simp; omega
          have f0 : 0 ≤ f := by omega
          have fN : f ≤ (N : Int) := by omega
          clear hb4
          go_wp2_with fail
          refine (HY.out _ _).mono ?_
          rintro e w1 ⟨rfl, rfl⟩
          refine ⟨rfl, ?_⟩
          rw [← HRR.out]
          exact ⟨fun h => (by cases h), fun _ => rfl, HGA.out⟩
      · rw [if_neg hbad] at hrk
        unfold badR at hbad
        obtain ⟨F, rfl⟩ : ∃ F : Nat, f = F := ⟨f.toNat, by omega⟩
        obtain ⟨C, rfl⟩ : ∃ C : Nat, c' = C := ⟨c'.toNat, by omega⟩
        simp only [Int.toNat_natCast] at hrk
        have d1 : decide ((C : Int) < 1) = false := by simp; omega
        have d2 : decide ((F : Int) < 0) = false := by simp
        have d3 : decide (N < F) = false := by simp; omega
        have d4 : decide ((N : Int) - (F : Int) < (C : Int)) = false := by simp; omega
        have hFC : F + C ≤ N := by omega
        have hFN : (F : Int) ≤ (N : Int) := by omega
        clear hbad
        by_cases he : (F : Int) < (E0 : Int)
        · rw [if_pos he] at hrk
          have HRR := Lib.hid hrk
          have d5 : decide (F < E0) = true := by simp; omega
          clear hrk he
          go_wp2_with fail
          refine (HN.out _ _).mono ?_
          rintro e w1 ⟨rfl, rfl⟩
          go_wp2_with fail
          refine (HY.out _ _).mono ?_
          rintro e w1 ⟨rfl, rfl⟩
          refine ⟨rfl, ?_⟩
          rw [← HRR.out]
          exact ⟨fun h => (by cases h), fun _ => rfl, HGA.out⟩
        · rw [if_neg he] at hrk
          have d5 : decide (F < E0) = false := by simp; omega
          have hsum : ((F : Int) + (C : Int)) = ((F + C : Nat) : Int) := by omega
          rw [hsum] at hrk
          have HRR := Lib.hid hrk
          have HSum := Lib.hid hsum
          have r0' := gb_cell (gb_set (wr.alloc (.cells #[.int .i64 (F : Int), .int .i64 (C : Int)] 85)) ce 0 (.int .i64 ((F : Int) + (C : Int)))) r0 (by simp; omega)
          have ceS := World.cell?_setCell_same wr _ (.int .i64 ((F : Int) + (C : Int))) HCk.out
          have HGS : Hid (w0.grownBy ((wr.setCell ⟨ce, 0, none⟩ (.int .i64 ((F : Int) + (C : Int)))).alloc (.cells #[.int .i64 (F : Int), .int .i64 (C : Int)] 85)) (some ce)) := Lib.hid (gb_trans (gb_trans HGk.out (gb_set wr ce 0 _)) (gb_alloc _ _ _))
          have HBS : Hid (BG ((wr.setCell ⟨ce, 0, none⟩ (.int .i64 ((F : Int) + (C : Int)))).alloc (.cells #[.int .i64 (F : Int), .int .i64 (C : Int)] 85)) b m (bN (setR β F 0))) := Lib.hid (by rw [setR_zero]; exact (HBk.out.kept (gb_set wr ce 0 _) (by simp; omega)).kept (gb_alloc _ _ none) (by simp))
          have HCS : Hid (((wr.setCell ⟨ce, 0, none⟩ (.int .i64 ((F : Int) + (C : Int)))).alloc (.cells #[.int .i64 (F : Int), .int .i64 (C : Int)] 85)).cell? ⟨ce, 0, none⟩ = some (.int .i64 ((F : Int) + (C : Int)))) := Lib.hid (gb_cell (gb_alloc _ _ none) ceS (by simp))
          have HFS : Hid (((wr.setCell ⟨ce, 0, none⟩ (.int .i64 ((F : Int) + (C : Int)))).alloc (.cells #[.int .i64 (F : Int), .int .i64 (C : Int)] 85)).frozen? ⟨ce, 0, none⟩ = false) := Lib.hid (gb_frozen (gb_alloc _ _ none) ceS (by rw [World.frozen?_setCell]; exact HFk.out) (by simp))
          clear ceS
          clear hrk he hsum
          go_wp2_with fail
          refine (HN.out _ _).mono ?_
          rintro e w1 ⟨rfl, rfl⟩
          go_wp2_with fail
          refine (HN.out _ _).mono ?_
          rintro e w1 ⟨rfl, rfl⟩
          go_wp2_with fail
          go_loopw [7] (fun i wr => ∃ t : Nat, t ≤ C ∧ i = .int .i64 ((F + t : Nat) : Int) ∧ Hid (BG wr b m (bN (setR β F t))) ∧ Hid (w0.grownBy wr (some ce)) ∧ Hid (wr.cell? ⟨ce, 0, none⟩ = some (.int .i64 ((F : Int) + (C : Int)))) ∧ Hid (wr.frozen? ⟨ce, 0, none⟩ = false)) (fun i _ => F + C - (intOf i).toNat)
          case atStart => exact ⟨0, Nat.zero_le _, rfl, HBS, HGS, HCS, HFS⟩
          case round =>
            clear HBS HGS HCS HFS r0' r0 r1 ccA ceA feA HGA HBA
            obtain ⟨t, ht, rfl, HB2, HG2, HC2, HF2⟩ := hrel
            have ce2 := HC2.out
            by_cases htl : t < C
            · have q1 : ((F + t : Nat) : Int) < (F : Int) + (C : Int) := by omega
              have HRA := Lib.hid (raise_any b m (F + t) (setR β F t) wr HB2.out (by have := HM.out; omega) hm5)
              rw [setR_succ] at HRA
              obtain ⟨x, hx⟩ : ∃ x, F + t = x := ⟨_, rfl⟩
              have HX := Lib.hid hx
              simp only [hx] at q1 HRA ⊢
              have hx5 : x ≤ 5000 := by omega
              clear hx
              go_wp2_with fail
              refine HRA.out.mono ?_
              rintro e w3 ⟨rfl, hb3, hg3⟩
              have HB3 := Lib.hid hb3
              have HG3 := Lib.hid (gb_mark HG2.out hg3 HZ.out)
              have HC3 := Lib.hid (gb_cell hg3 HC2.out (by simp; omega))
              have HF3 := Lib.hid (gb_frozen hg3 HC2.out HF2.out (by simp; omega))
              clear hb3 hg3 ce2
              go_wp2_with fail
              exact ⟨⟨t + 1, by omega, by have := HX.out; first | (congr 1; omega) | (simp; omega), HB3, HG3, HC3, HF3⟩, by have := HX.out; simp [intOf]; omega⟩
            · obtain rfl : t = C := by omega
              have q1 : (F : Int) + (t : Int) ≤ ((F + t : Nat) : Int) := by omega
              obtain ⟨x, hx⟩ : ∃ x, F + t = x := ⟨_, rfl⟩
              have HX := Lib.hid hx
              simp only [hx] at q1 ⊢
              clear hx
              go_wp2_with fail
              exact ⟨⟨k + 1, F + t, _, by omega, by omega, by go_num, HB2, HG2, Lib.hid (by rw [HC2.out, HSum.out]), HF2, HRR⟩, by simp [intOf]; omega⟩
    · obtain rfl : k = len := by omega
      have hrk := HRk.out
      rw [List.drop_of_length_le (by rw [HLE.out]; exact Nat.le_refl _)] at hrk
      have HRR : Hid (((0, β) : Int × (Nat → Bool)) = r) := Lib.hid hrk
      clear hrk
      go_wp2_with fail
      go_end0
      rw [← HRR.out]
      exact ⟨fun _ => ⟨rfl, HBk.out⟩, fun h => absurd rfl h, HGk.out⟩
theorem enterFr0 (args : Array Value) (w : World) : (callFunc 90 args).run Tryd.prog w = .ok (.enter 90 args) w := by kernel_rfl
theorem enterFr1 (args : Array Value) (w : World) : (callFunc 91 args).run Tryd.prog w = .ok (.enter 91 args) w := by kernel_rfl

set_option maxRecDepth 100000 in
set_option maxHeartbeats 1600000 in
theorem Fr0_any (n : Int) (l : List (Int × Int)) (a : Option Addr) (cap : Nat) (c cl : Nat) (w : World) (hc : w.cell? ⟨c, 0, none⟩ = some (.int .i64 n))
    (hcl : w.cell? ⟨cl, 0, none⟩ = some (.slice a l.length cap)) (hz : RL w a l) (hzl : l.length ≤ maxLen) (h : frE n l = 0) :
    Calls Tryd.prog 90 #[.pointer (some ⟨c, 0, none⟩), .pointer (some ⟨cl, 0, none⟩)] w fun e w' => e = .returned (.string (frS n l)) ∧ w.grownBy w' none := by
  have hmf : ∀ (fn : Fn) (first cap : Array Value) (w : World), (Instr.makeFunc fn first cap).run Tryd.prog w = .ok (.func fn first cap) w := fun _ _ _ _ => rfl
  rw [show frS n l = tf n.toNat (frL n l 0 fun _ => false).2 from if_pos h]
  have hr : rgt n = true := by
    cases e : rgt n
    · unfold frE at h; rw [if_neg (by rw [e]; decide)] at h; omega
    · rfl
  unfold frE at h
  rw [if_pos hr] at h
  have HA := Lib.hid (fun w => askSize_ok n w hr)
  obtain ⟨n0, n1⟩ := rgt_t hr
  obtain ⟨N, rfl⟩ : ∃ N : Nat, n = N := ⟨n.toNat, by omega⟩
  rw [Int.toNat_natCast, ← tf_out (frL_out N l _ _ (fun _ _ => rfl)), ← bsOf_bN]
  have g0 := gb_alloc w (.cells #[.int .i64 0] 3) none
  have lc : c < w.heap.size := World.block_lt_of_cell? _ _ hc
  have HB := Lib.hid (build_ok 91 #[.pointer (some ⟨cl, 0, none⟩), .pointer (some ⟨c, 0, none⟩), .pointer (some ⟨w.heap.size, 0, none⟩)] N _ rfl (by omega) (bN (frL N l 0 fun _ => false).2) (w.alloc (.cells #[.int .i64 0] 3)) (some w.heap.size) enterFr1 (fun w1 b hg hb H =>
    (Fr1_any N _ rfl (by omega) l a cap b c cl w.heap.size _ w1 (gb_cell g0 hc (by simp)) (gb_cell g0 hcl (by simp)) (cell_at (World.alloc_heap_new w _) rfl) (frozen_at 0 (World.alloc_heap_new w _)) (by omega) (hz.kept g0)
      (fun zb off e h0 => by obtain ⟨b', off', e', hcc⟩ := hz h0; rw [e] at e'; cases e'; have := World.block_lt_of_cell? _ _ (hcc 0 h0).1; simp at this; omega) hzl H hg hb).mono fun e w2 hp => ⟨(hp.1 h).1, (hp.1 h).2, hp.2.2⟩))
  have k0 := gb_cell g0 hc (by simp)
  obtain ⟨z, hz⟩ : ∃ z, bsOf ((N + 7) / 8) (bN (frL N l 0 fun _ => false).2) = z := ⟨_, rfl⟩
  rw [hz] at HB ⊢
  have HG0 := Lib.hid g0
  clear hz h hr hcl g0
  go_enter Tryd.func90, Tryd.ntmps90
  go_wp2_with fail
  refine (HA.out _).mono ?_
  rintro e w1 ⟨rfl, rfl⟩
  go_wp2_with fail
  refine HB.out.mono ?_
  rintro e w1 ⟨rfl, hg⟩
  have HG := Lib.hid (gb_part HG0.out hg (Nat.le_refl _))
  clear hg
  go_wp2
  go_ret
  exact ⟨rfl, HG.out⟩

set_option maxRecDepth 100000 in
set_option maxHeartbeats 1600000 in
theorem Fr0_no (n : Int) (l : List (Int × Int)) (a : Option Addr) (cap : Nat) (c cl : Nat) (w : World) (hc : w.cell? ⟨c, 0, none⟩ = some (.int .i64 n))
    (hcl : w.cell? ⟨cl, 0, none⟩ = some (.slice a l.length cap)) (hz : RL w a l) (hzl : l.length ≤ maxLen) (h : frE n l ≠ 0) :
    Calls Tryd.prog 90 #[.pointer (some ⟨c, 0, none⟩), .pointer (some ⟨cl, 0, none⟩)] w fun e w' => e = .panicked [{ v := .iface 24 (.int .i64 (frE n l)), recovered := false }] ∧ w.grownBy w' none := by
  have hmf : ∀ (fn : Fn) (first cap : Array Value) (w : World), (Instr.makeFunc fn first cap).run Tryd.prog w = .ok (.func fn first cap) w := fun _ _ _ _ => rfl
  cases hr : rgt n
  · rw [show frE n l = 7 from if_neg (by rw [hr]; decide)]
    have HA := Lib.hid (fun w => askSize_no n w hr)
    clear h hcl hz
    go_enter Tryd.func90, Tryd.ntmps90
    go_wp2_with fail
    refine (HA.out _).mono ?_
    rintro e w1 ⟨rfl, rfl⟩
    exact ⟨rfl, rfl, gb_refl _ _⟩
  · unfold frE at h ⊢
    rw [if_pos hr] at h ⊢
    have HA := Lib.hid (fun w => askSize_ok n w hr)
    obtain ⟨n0, n1⟩ := rgt_t hr
    obtain ⟨N, rfl⟩ : ∃ N : Nat, n = N := ⟨n.toNat, by omega⟩
    have g0 := gb_alloc w (.cells #[.int .i64 0] 3) none
    have lc : c < w.heap.size := World.block_lt_of_cell? _ _ hc
    have HB := Lib.hid (build_no 91 #[.pointer (some ⟨cl, 0, none⟩), .pointer (some ⟨c, 0, none⟩), .pointer (some ⟨w.heap.size, 0, none⟩)] N _ rfl (by omega) (frL N l 0 fun _ => false).1 (w.alloc (.cells #[.int .i64 0] 3)) (some w.heap.size) enterFr1 (fun w1 b hg hb H =>
      (Fr1_any N _ rfl (by omega) l a cap b c cl w.heap.size _ w1 (gb_cell g0 hc (by simp)) (gb_cell g0 hcl (by simp)) (cell_at (World.alloc_heap_new w _) rfl) (frozen_at 0 (World.alloc_heap_new w _)) (by omega) (hz.kept g0)
        (fun zb off e h0 => by obtain ⟨b', off', e', hcc⟩ := hz h0; rw [e] at e'; cases e'; have := World.block_lt_of_cell? _ _ (hcc 0 h0).1; simp at this; omega) hzl H hg hb).mono fun e w2 hp => ⟨hp.2.1 h, hp.2.2⟩))
    have k0 := gb_cell g0 hc (by simp)
    have HG0 := Lib.hid g0
    obtain ⟨z, hzz⟩ : ∃ z, (frL N l 0 fun _ => false).1 = z := ⟨_, rfl⟩
    rw [hzz] at HB ⊢
    clear hzz h hr hcl hz g0
    go_enter Tryd.func90, Tryd.ntmps90
    go_wp2_with fail
    refine (HA.out _).mono ?_
    rintro e w1 ⟨rfl, rfl⟩
    go_wp2_with fail
    refine HB.out.mono ?_
    rintro e w1 ⟨rfl, hg⟩
    exact ⟨rfl, rfl, gb_part HG0.out hg (Nat.le_refl _)⟩

/-- the world in which a boxed int and a boxed row of runs lie -/
def bxr (w : World) (n : Int) (a : Option Addr) (len cap : Nat) : World := (bx w n).alloc (.cells #[.slice a len cap] 45)

set_option maxRecDepth 100000 in
set_option maxHeartbeats 800000 in
theorem FromRuns_any (n : Int) (l : List (Int × Int)) (a : Option Addr) (cap : Nat) (w : World) (hz : RL w a l) (hzl : l.length ≤ maxLen) :
    Calls Tryd.prog 44 #[.int .i64 n, .slice a l.length cap] w fun e w' => e = .returned (.tuple #[.string (frS n l), .int .i64 (frE n l)]) ∧ w.grownBy w' none := by
  have hmf : ∀ (fn : Fn) (first cap : Array Value) (w : World), (Instr.makeFunc fn first cap).run Tryd.prog w = .ok (.func fn first cap) w := fun _ _ _ _ => rfl
  have g1 : w.grownBy (bxr w n a l.length cap) none := gb_trans (gb_alloc _ _ _) (gb_alloc _ _ _)
  have g2 := Bc.aw_gb (bxr w n a l.length cap)
  have hs : (bx w n).heap.size = w.heap.size + 1 := by simp [bx]
  have k0 : (Bc.aw (bxr w n a l.length cap)).cell? ⟨w.heap.size, 0, none⟩ = some (.int .i64 n) :=
    gb_cell (gb_trans (gb_alloc _ _ none) g2) (by unfold bx; exact cell_one_new _ _ _ 0 _ rfl) (by simp)
  have k1 : (Bc.aw (bxr w n a l.length cap)).cell? ⟨w.heap.size + 1, 0, none⟩ = some (.slice a l.length cap) :=
    gb_cell g2 (by unfold bxr; rw [← hs]; exact cell_one_new _ _ _ 0 _ rfl) (by simp)
  have hz2 := hz.kept (gb_trans g1 g2)
  have H : Hid (Calls Tryd.prog 56 #[.func (Fn.func 90) #[] #[.pointer (some ⟨w.heap.size, 0, none⟩), .pointer (some ⟨w.heap.size + 1, 0, none⟩)]] (bxr w n a l.length cap) fun e w' => e = .returned (.tuple #[.string (frS n l), .int .i64 (frE n l)]) ∧ (bxr w n a l.length cap).grownBy w' none) := by
    refine Lib.hid ?_
    by_cases h : frE n l = 0
    · rw [h]
      refine (Bc.att_ok 90 _ _ (bxr w n a l.length cap) none (fun _ => True) (sta_true _) (fun _ h => by cases h) enterFr0 ((Fr0_any n l a cap _ _ _ k0 k1 hz2 hzl h).mono fun e w' hh => ⟨hh.1, trivial, hh.2⟩)).mono fun e w' hh => ⟨hh.1, hh.2.2⟩
    · rw [show frS n l = ⟨#[]⟩ from if_neg h]
      refine (Bc.att_no 90 _ (frE n l) (bxr w n a l.length cap) none (fun _ => True) (sta_true _) (fun _ h => by cases h) enterFr0 ((Fr0_no n l a cap _ _ _ k0 k1 hz2 hzl h).mono fun e w' hh => ⟨hh.1, trivial, hh.2⟩)).mono fun e w' hh => ⟨hh.1, hh.2.2⟩
  obtain ⟨x, hx⟩ : ∃ x, frS n l = x := ⟨_, rfl⟩
  obtain ⟨y, hy⟩ : ∃ y, frE n l = y := ⟨_, rfl⟩
  rw [hx, hy] at H ⊢
  obtain ⟨len, hlen⟩ : ∃ len, l.length = len := ⟨_, rfl⟩
  simp only [hlen] at H g1 ⊢
  have HW := Lib.hid g1
  clear hx hy g1 g2 hs k0 k1 hz2 hz hzl hlen
  unfold bxr bx at H HW
  go_enter Tryd.func44, Tryd.ntmps44
  go_wp2_with fail
  refine H.out.mono ?_
  rintro e w1 ⟨rfl, hg⟩
  have HG := Lib.hid (gb_trans HW.out hg)
  clear hg
  go_wp2
  go_ret2
  exact ⟨rfl, HG.out⟩
end Go.Proofs.YtbeaohnjifcgaaaDoor.Bh
