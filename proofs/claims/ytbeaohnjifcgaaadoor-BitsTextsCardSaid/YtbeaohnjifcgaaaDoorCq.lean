/-
  Fields of bits: the reference's FromRuns. (made by mk_cq.py)
-/
import Derived.Test.YtbeaohnjifcgaaaDoorCp
namespace Go.Proofs.YtbeaohnjifcgaaaDoor.Bh
open Go Go.RowKit Go.Shelf Go.Proofs.YtbeaohnjifcgaaaDoor.Sx Go.Proofs.YtbeaohnjifcgaaaDoor.Na Go.Proofs.YtbeaohnjifcgaaaDoor.Ba

set_option maxRecDepth 100000 in
set_option maxHeartbeats 3200000 in
theorem RFromRuns_any (n : Int) (l : List (Int × Int)) (a : Option Addr) (cap : Nat) (w : World) (hz : RL w a l) (hzl : l.length ≤ 100000) :
    Calls Tryd.prog 45 #[.int .i64 n, .slice a l.length cap] w fun e w' => e = .returned (.tuple #[.string (frS n l), .int .i64 (frE n l)]) ∧ w.grownBy w' none := by
  cases hr : rgt n
  · have e0 : frE n l = 7 := by unfold frE; rw [if_neg (by rw [hr]; decide)]
    rw [show frS n l = ⟨#[]⟩ from if_neg (by rw [e0]; decide), e0]
    have HR := Lib.hid (fun w => right_f n w hr)
    clear hr e0
    go_enter Tryd.func45, Tryd.ntmps45
    go_wp2_with fail
    refine (HR.out _).mono ?_
    rintro e w1 ⟨rfl, rfl⟩
    go_wp2
    go_ret2
    exact ⟨rfl, gb_refl _ _⟩
  · have HR := Lib.hid (fun w => right_t n w hr)
    have HE : Hid (frE n l = (frL n l 0 fun _ => false).1) := Lib.hid (if_pos hr)
    obtain ⟨n0, n1⟩ := rgt_t hr
    obtain ⟨N, rfl⟩ : ∃ N : Nat, n = N := ⟨n.toNat, by omega⟩
    have HS : Hid (frS N l = if frE N l = 0 then tf N (frL N l 0 fun _ => false).2 else ⟨#[]⟩) := Lib.hid (by unfold frS; rw [Int.toNat_natCast])
    obtain ⟨r, hrr⟩ : ∃ r, frL N l 0 (fun _ => false) = r := ⟨_, rfl⟩
    obtain ⟨E, hE⟩ : ∃ E, frE N l = E := ⟨_, rfl⟩
    obtain ⟨S, hS⟩ : ∃ S, frS N l = S := ⟨_, rfl⟩
    simp only [hE, hS, hrr] at HE HS ⊢
    have HRR0 : Hid (frL N (l.drop 0) 0 (fun _ => false) = r) := Lib.hid hrr
    have hmk := mkTruths N (by omega)
    have HF := Lib.hid (fun a cap β base w (hT : TL w base a N β) => Field_any a N cap β base w hT (by omega))
    have hn5 : N ≤ 4096 := by omega
    have HI := Lib.hid hz
    have HTB : Hid (TB (w.alloc (.cells (madeCells #[.bool false] N) 4)) w.heap.size N fun _ => false) := Lib.hid (TB.new w N)
    clear hr hE hS hrr hz n0 n1
    obtain ⟨len, hlen⟩ : ∃ len, l.length = len := ⟨_, rfl⟩
    have HLE := Lib.hid hlen
    rw [hlen] at hzl ⊢
    clear hlen
    go_enter Tryd.func45, Tryd.ntmps45
    go_wp2_with fail
    refine (HR.out _).mono ?_
    rintro e w1 ⟨rfl, rfl⟩
    go_wp2_with fail
    obtain ⟨g, hg⟩ : ∃ g, w.heap.size = g := ⟨_, rfl⟩
    have HGE := Lib.hid hg
    rw [hg] at HTB ⊢
    have HG0 : Hid (w.grownBy (w.alloc (.cells (madeCells #[.bool false] N) 4)) none) := Lib.hid (gb_alloc _ _ _)
    clear hg hmk
    go_loopw [7, 9, 10, 18] (fun e _ _ i wr => ∃ (k E0 : Nat) (β : Nat → Bool), k ≤ len ∧ E0 ≤ 4096 ∧ e = .int .i64 E0 ∧ i = .int .i64 k ∧ Hid (TB wr g N β) ∧ Hid (w.grownBy wr none) ∧ Hid (frL N (l.drop k) E0 β = r)) (fun _ _ _ i _ => len - (intOf i).toNat)
    case atStart => exact ⟨0, 0, _, Nat.zero_le _, Nat.zero_le _, rfl, rfl, HTB, HG0, HRR0⟩
    case round =>
      obtain ⟨k, E0, β, hk, hE0, rfl, rfl, HBk, HGk, HRk⟩ := hrel
      by_cases hlt : k < len
      · have hlt' : (k : Int) < (len : Int) := by omega
        obtain ⟨zb, off, rfl, hzc⟩ := HI.out (by rw [HLE.out]; omega)
        obtain ⟨z0, z1⟩ := hzc k (by rw [HLE.out]; exact hlt)
        have cz := gb_cell HGk.out z0 (by simp)
        have cz1 := gb_cell HGk.out z1 (by simp)
        have hrk := HRk.out
        rw [dropR l k (by rw [HLE.out]; exact hlt), frL_cons] at hrk
        clear hzc z0 z1
        obtain ⟨p, hp⟩ : ∃ p, l.getD k (0, 0) = p := ⟨_, rfl⟩
        rw [hp] at cz cz1 hrk
        clear hp
        obtain ⟨f, c⟩ := p
        simp only [] at cz cz1 hrk
        have r0 : (wr.alloc (.cells #[.int .i64 f, .int .i64 c] 85)).cell? ⟨wr.heap.size, 0, none⟩ = some (.int .i64 f) := cell_at (World.alloc_heap_new wr _) rfl
        have r1 : (wr.alloc (.cells #[.int .i64 f, .int .i64 c] 85)).cell? ⟨wr.heap.size, 1, none⟩ = some (.int .i64 c) := cell_at (World.alloc_heap_new wr _) rfl
        have HGA : Hid (w.grownBy (wr.alloc (.cells #[.int .i64 f, .int .i64 c] 85)) none) := Lib.hid (gb_trans HGk.out (gb_alloc _ _ _))
        have HBA : Hid (TB (wr.alloc (.cells #[.int .i64 f, .int .i64 c] 85)) g N β) := Lib.hid (HBk.out.kept (gb_alloc _ _ none) (by simp))
        by_cases hbad : badR N f c
        · rw [if_pos hbad] at hrk
          have hE7 : E = 7 := by rw [HE.out, ← hrk]
          have hS7 : S = ⟨#[]⟩ := by rw [HS.out, if_neg (by rw [hE7]; decide)]
          have HE7 := Lib.hid hE7
          have HS7 := Lib.hid hS7
          clear hrk hE7 hS7
          have hb4 : (c < 1) ∨ (1 ≤ c ∧ f < 0) ∨ (1 ≤ c ∧ 0 ≤ f ∧ (N : Int) < f) ∨ (1 ≤ c ∧ 0 ≤ f ∧ f ≤ (N : Int) ∧ (N : Int) - f < c) := by unfold badR at hbad; omega
          clear hbad
          rcases hb4 with hb4 | hb4 | hb4 | hb4
          · have d1 : decide (c < 1) = true := by simp; omega
            clear hb4
            go_wp2_with fail
            go_ret2
            exact ⟨by rw [HE7.out, HS7.out] <;> rfl, HGA.out⟩
          · have d1 : decide (c < 1) = false := by simp; omega
            have d2 : decide (f < 0) = true := by simp; omega
            clear hb4
            go_wp2_with fail
            go_ret2
            exact ⟨by rw [HE7.out, HS7.out] <;> rfl, HGA.out⟩
          · have d1 : decide (c < 1) = false := by simp; omega
            have d2 : decide (f < 0) = false := by simp; omega
            have d3 : decide ((N : Int) < f) = true := by simp; omega
            clear hb4
            go_wp2_with fail
            go_ret2
            exact ⟨by rw [HE7.out, HS7.out] <;> rfl, HGA.out⟩
          · have d1 : decide (c < 1) = false := by simp; omega
            have d2 : decide (f < 0) = false := by simp; omega
            have d3 : decide ((N : Int) < f) = false := by simp; omega
            have d4 : decide ((N : Int) - f < c) = true := by simp; omega
            have f0 : 0 ≤ f := by omega
            have fN : f ≤ (N : Int) := by omega
            clear hb4
            go_wp2_with fail
            go_ret2
            exact ⟨by rw [HE7.out, HS7.out] <;> rfl, HGA.out⟩
        · rw [if_neg hbad] at hrk
          unfold badR at hbad
          obtain ⟨F, rfl⟩ : ∃ F : Nat, f = F := ⟨f.toNat, by omega⟩
          obtain ⟨C, rfl⟩ : ∃ C : Nat, c = C := ⟨c.toNat, by omega⟩
          simp only [Int.toNat_natCast] at hrk
          have d1 : decide ((C : Int) < 1) = false := by simp; omega
          have d2 : decide ((F : Int) < 0) = false := by simp
          have d3 : decide (N < F) = false := by simp; omega
          have d4 : decide ((N : Int) - (F : Int) < (C : Int)) = false := by simp; omega
          have hFC : F + C ≤ N := by omega
          have hFN : (F : Int) ≤ (N : Int) := by omega
          clear hbad
          by_cases he : (F : Int) < (E0 : Int)
          · rw [if_pos he] at hrk
            have hE7 : E = 6 := by rw [HE.out, ← hrk]
            have hS7 : S = ⟨#[]⟩ := by rw [HS.out, if_neg (by rw [hE7]; decide)]
            have HE7 := Lib.hid hE7
            have HS7 := Lib.hid hS7
            have d5 : decide (F < E0) = true := by simp; omega
            clear hrk hE7 hS7 he
            go_wp2_with fail
            go_ret2
            exact ⟨by rw [HE7.out, HS7.out] <;> rfl, HGA.out⟩
          · rw [if_neg he] at hrk
            have d5 : decide (F < E0) = false := by simp; omega
            have hsum : ((F : Int) + (C : Int)) = ((F + C : Nat) : Int) := by omega
            rw [hsum] at hrk
            have HRR := Lib.hid hrk
            have HSum := Lib.hid hsum
            clear hrk he hsum
            go_wp2_with fail
            go_loopw [10] (fun i wr => ∃ t : Nat, t ≤ C ∧ i = .int .i64 ((F + t : Nat) : Int) ∧ Hid (TB wr g N (setR β F t)) ∧ Hid (w.grownBy wr none)) (fun i _ => F + C - (intOf i).toNat)
            case atStart => exact ⟨0, Nat.zero_le _, rfl, by rw [setR_zero]; exact HBA, HGA⟩
            case round =>
              obtain ⟨t, ht, rfl, HB2, HG2⟩ := hrel
              by_cases htl : t < C
              · have q1 : ((F + t : Nat) : Int) < (F : Int) + (C : Int) := by omega
                have q2 : ((F + t : Nat) : Int) < (N : Int) := by omega
                have c0 := HB2.out.cell (F + t) (by omega)
                have f0 := HB2.out.free (F + t)
                have HST := Lib.hid (HB2.out.set (F + t) true (by omega))
                rw [setR_succ] at HST
                have HGS : Hid (∀ v, w.grownBy (wr.setCell ⟨g, F + t, none⟩ v) none) := Lib.hid (fun v => gb_new HG2.out g (F + t) v (by rw [HGE.out]; exact Nat.le_refl _))
                obtain ⟨x, hx⟩ : ∃ x, F + t = x := ⟨_, rfl⟩
                have HX := Lib.hid hx
                simp only [hx] at q1 q2 c0 f0 HST HGS ⊢
                clear hx
                go_wp2_with fail
                exact ⟨⟨t + 1, by omega, by have := HX.out; first | (congr 1; omega) | (simp; omega), HST, Lib.hid (HGS.out _)⟩, by have := HX.out; simp [intOf]; omega⟩
              · obtain rfl : t = C := by omega
                have q1 : (F : Int) + (t : Int) ≤ ((F + t : Nat) : Int) := by omega
                obtain ⟨x, hx⟩ : ∃ x, F + t = x := ⟨_, rfl⟩
                have HX := Lib.hid hx
                simp only [hx] at q1 ⊢
                clear hx
                go_wp2_with fail
                exact ⟨⟨k + 1, F + t, _, by omega, by omega, by rw [HSum.out], by go_num, HB2, HG2, HRR⟩, by simp [intOf]; omega⟩
      · obtain rfl : k = len := by omega
        have hrk := HRk.out
        rw [List.drop_of_length_le (by rw [HLE.out]; exact Nat.le_refl _)] at hrk
        have hE7 : E = 0 := by rw [HE.out, ← hrk]; rfl
        have hS7 : S = fld ((N + 7) / 8) (lim N β) := by rw [HS.out, if_pos hE7, ← hrk]; rfl
        have HE7 := Lib.hid hE7
        have HS7 := Lib.hid hS7
        clear hrk hE7 hS7
        go_wp2_with fail
        refine (HF.out _ _ _ g _ (fun _ => ⟨g, rfl, Nat.le_refl _, HBk.out⟩)).mono ?_
        rintro e w2 ⟨rfl, hg2⟩
        have HG2 := Lib.hid (gb_trans HGk.out hg2)
        clear hg2
        go_wp2_with fail
        go_ret2
        exact ⟨by rw [HE7.out, HS7.out] <;> rfl, HG2.out⟩
end Go.Proofs.YtbeaohnjifcgaaaDoor.Bh
