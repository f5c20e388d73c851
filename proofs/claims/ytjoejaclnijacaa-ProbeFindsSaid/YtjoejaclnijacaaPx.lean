/-
  ProbeFinds: the walk.
-/
import Derived.Test.YtjoejaclnijacaaPw
namespace Go.Proofs.Ytjoejaclnijacaa.Ps
open Go Go.RowKit Go.Proofs.Ytjoejaclnijacaa.Sx Go.Proofs.Ytjoejaclnijacaa.Pm

theorem lbf_plain (bound : Int) : lbf bound 0 (fun _ => false) = plain bound := by funext n m; simp [lbf, plain]
theorem RSteps_any (l h : Int) (w : World) :
    Calls Try.prog 9 #[.int .i64 l, .int .i64 h] w fun e w' => e = .returned (.tuple #[.int .i64 (stN l h), .int .i64 (stE l h)]) ∧ w.grownBy w' none := by
  cases H : rightB l h
  · rw [show stN l h = 0 from if_neg (by rw [H]; decide), show stE l h = 7 from if_neg (by rw [H]; decide)]; exact RSteps_no l h w H
  · rw [show stN l h = stp (h - l).toNat from if_pos H, show stE l h = 0 from if_pos H]; exact RSteps_ok l h w H
theorem nilRow (w : World) : BRow w none 0 (fun _ => false) := fun i hi => absurd hi (by omega)

set_option maxHeartbeats 1600000 in
theorem finds_long (l h bound : Int) (a : Option Addr) (len cap : Nat) (w : World) (hl : 300 < len) :
    Calls Try.prog 3 #[.int .i64 l, .int .i64 h, .int .i64 bound, .slice a len cap] w fun e w' => e = .returned (.bool true) ∧ w.grownBy w' none := by
  have d : (300 : Int) < (len : Int) := by omega
  go_enter Try.func3, Try.ntmps3
  go_wp2_with fail
  refine (awake_any _).mono ?_
  rintro e w2 ⟨rfl, g⟩
  go_wp2
  go_ret
  exact ⟨rfl, g⟩

set_option maxRecDepth 1000000 in
set_option maxHeartbeats 8000000 in
theorem finds_not (l h bound : Int) (a : Option Addr) (len cap : Nat) (w : World) (hl : len ≤ 300) (H : (rightB l h && bndB bound) = false) :
    Calls Try.prog 3 #[.int .i64 l, .int .i64 h, .int .i64 bound, .slice a len cap] w fun e w' => e = .returned (.bool true) ∧ w.grownBy w' none := by
  have d : (len : Int) ≤ 300 := by omega
  have HF := Lib.hid (fun w a len cap => Find_no l h bound a len cap w H)
  have HR := Lib.hid (fun w a len cap => RFind_no l h bound a len cap w H)
  have HS := Lib.hid (fun w => Steps_any l h w)
  have HT := Lib.hid (fun w => RSteps_any l h w)
  obtain ⟨x, hx⟩ : ∃ x, stN l h = x := ⟨_, rfl⟩
  obtain ⟨y, hy⟩ : ∃ y, stE l h = y := ⟨_, rfl⟩
  simp only [hx, hy] at HS HT
  clear hx hy
  have HRt := Lib.hid (fun w => Right_any l h w)
  cases h1 : rightB l h
  · rw [h1] at HRt
    clear h1 H
    go_enter Try.func3, Try.ntmps3
    go_wp2_with fail
    refine (HF.out _ _ _ _).mono ?_
    rintro e w1 ⟨rfl, g1⟩
    go_wp2_with fail
    refine (HF.out _ _ _ _).mono ?_
    rintro e w2 ⟨rfl, g2⟩
    have G2 := Lib.hid (gb_trans g1 g2)
    clear g1 g2
    go_wp2_with fail
    refine (HS.out _).mono ?_
    rintro e w3 ⟨rfl, g3⟩
    have G3 := Lib.hid (gb_trans G2.out g3)
    clear g3
    go_wp2_with fail
    refine (HR.out _ _ _ _).mono ?_
    rintro e w4 ⟨rfl, g4⟩
    have G4 := Lib.hid (gb_trans G3.out g4)
    clear g4
    go_wp2_with fail
    refine (HT.out _).mono ?_
    rintro e w5 ⟨rfl, g5⟩
    have G5 := Lib.hid (gb_trans G4.out g5)
    clear g5
    go_wp2_with fail
    refine (HRt.out _).mono ?_
    rintro e w6 ⟨rfl, rfl⟩
    go_wp2_with fail
    refine (awake_any _).mono ?_
    rintro e w7 ⟨rfl, g7⟩
    have G7 := Lib.hid (gb_trans G5.out g7)
    clear g7
    go_wp2
    go_ret
    exact ⟨rfl, G7.out⟩
  · rw [h1] at HRt
    have hb := bndB_f (b := bound) (by rw [h1] at H; simpa using H)
    clear h1 H
    have hb' : bound < 0 ∨ (0 ≤ bound ∧ 10000 < bound) := by omega
    clear hb
    rcases hb' with hb | ⟨hb0, hb⟩
    all_goals
      go_enter Try.func3, Try.ntmps3
      go_wp2_with fail
      refine (HF.out _ _ _ _).mono ?_
      rintro e w1 ⟨rfl, g1⟩
      go_wp2_with fail
      refine (HF.out _ _ _ _).mono ?_
      rintro e w2 ⟨rfl, g2⟩
      have G2 := Lib.hid (gb_trans g1 g2)
      clear g1 g2
      go_wp2_with fail
      refine (HS.out _).mono ?_
      rintro e w3 ⟨rfl, g3⟩
      have G3 := Lib.hid (gb_trans G2.out g3)
      clear g3
      go_wp2_with fail
      refine (HR.out _ _ _ _).mono ?_
      rintro e w4 ⟨rfl, g4⟩
      have G4 := Lib.hid (gb_trans G3.out g4)
      clear g4
      go_wp2_with fail
      refine (HT.out _).mono ?_
      rintro e w5 ⟨rfl, g5⟩
      have G5 := Lib.hid (gb_trans G4.out g5)
      clear g5
      go_wp2_with fail
      refine (HRt.out _).mono ?_
      rintro e w6 ⟨rfl, rfl⟩
      go_wp2_with fail
      refine (awake_any _).mono ?_
      rintro e w7 ⟨rfl, g7⟩
      have G7 := Lib.hid (gb_trans G5.out g7)
      clear g7
      go_wp2
      go_ret
      exact ⟨rfl, G7.out⟩

set_option maxRecDepth 1000000 in
set_option maxHeartbeats 16000000 in
theorem finds_yes (l h bound : Int) (a : Option Addr) (len cap : Nat) (ch : Nat → Bool) (w : World) (hl : len ≤ 300) (hrow : BRow w a len ch) (hr : rightB l h = true) (hb : bndB bound = true) :
    Calls Try.prog 3 #[.int .i64 l, .int .i64 h, .int .i64 bound, .slice a len cap] w fun e w' => e = .returned (.bool true) ∧ w.grownBy w' none := by
  have d : (len : Int) ≤ 300 := by omega
  have HF0 := Lib.hid (fun w => Find_ok l h bound none 0 0 (fun _ => false) w hr hb (nilRow w) (by omega))
  have hrow' : ∀ w', w.grownBy w' none → BRow w' a len ch := fun w' g i hi => by
    obtain ⟨b, off, e1, e2, e3⟩ := hrow i hi
    exact ⟨b, off, e1, Nat.lt_of_lt_of_le e2 g.size, gb_cell g e3 (by simp)⟩
  have HF := Lib.hid (fun w' (g : w.grownBy w' none) => Find_ok l h bound a len cap ch w' hr hb (hrow' w' g) (by omega))
  have HR := Lib.hid (fun w' (g : w.grownBy w' none) => RFind_ok l h bound a len cap ch w' hr hb (hrow' w' g) (by omega))
  have HS := Lib.hid (fun w => Steps_any l h w)
  have HT := Lib.hid (fun w => RSteps_any l h w)
  have HRt := Lib.hid (fun w => Right_t l h hr w)
  obtain ⟨l1, l2, l3⟩ := rightB_t hr
  obtain ⟨hb0, hb1⟩ := bndB_t hb
  have hgd := good_start l1 l3 l2
  rw [show stN l h = stp (h - l).toNat from if_pos hr, show stE l h = 0 from if_pos hr] at HS HT
  rw [lbf_plain] at HF0
  -- what the maths says
  have m1 := fnd_steps bound 30 l h 0 0 hgd (fun h => absurd h (by omega))
  have m2 : ∀ M, l ≤ M → bound ≤ M → (fnd (plain bound) 30 l h 0 0).1 ≤ M := fun M h1 h2 => fnd_low M (fun n m hm => by unfold plain at hm; simp at hm; omega) _ _ _ _ _ h1
  have m3 := fnd_near bound h 30 l h 0 0 hgd (.inr (Int.le_refl _))
  have m4 : ∀ M, l ≤ M → bound ≤ M → (fnd (lbf bound len ch) 30 l h 0 0).1 ≤ M := fun M h1 h2 => fnd_low M (fun n m hm => by unfold lbf at hm; simp at hm; omega) _ _ _ _ _ h1
  have m5 := fnd_in (lb := plain bound) 30 l h 0 0 l3
  have m6 := fnd_in (lb := lbf bound len ch) 30 l h 0 0 l3
  have m7 := stp_le (h - l).toNat
  obtain ⟨p, hp⟩ : ∃ p, fnd (plain bound) 30 l h 0 0 = p := ⟨_, rfl⟩
  obtain ⟨p', hp'⟩ : ∃ p, fnd (lbf bound len ch) 30 l h 0 0 = p := ⟨_, rfl⟩
  obtain ⟨st, hst⟩ : ∃ x, stp (h - l).toNat = x := ⟨_, rfl⟩
  rw [hp] at m1 m3 m5
  rw [hp'] at m6
  simp only [hp] at m2 HF0
  simp only [hp'] at m4 HF HR
  rw [hst] at m1 m7
  simp only [hst] at HS HT
  obtain ⟨A, N⟩ := p
  obtain ⟨B, M⟩ := p'
  simp only [] at m1 m2 m3 m4 m5 m6 HF0 HF HR
  have n1 : (N : Int) ≤ (st : Int) := by omega
  have q1 := m2
  have hlb : (l < bound ∧ A ≤ bound ∧ B ≤ bound) ∨ (bound ≤ l ∧ A ≤ l ∧ B ≤ l) := by
    by_cases hx : l < bound
    · exact .inl ⟨hx, m2 bound (by omega) (by omega), m4 bound (by omega) (by omega)⟩
    · exact .inr ⟨by omega, m2 l (by omega) (by omega), m4 l (by omega) (by omega)⟩
  have hbh : (h < bound ∧ h - 16 < A) ∨ (bound ≤ h ∧ bound - 16 < A) := by omega
  have A1 : A ≤ 9000 := by omega
  have B1 : B ≤ 9000 := by omega
  have A0 : 0 ≤ A := by omega
  have B0 : 0 ≤ B := by omega
  have N1 : (N : Int) ≤ 100000 := by omega
  have M1 : (M : Int) ≤ 100000 := by omega
  have S1 : (st : Int) ≤ 100000 := by omega
  clear hrow hrow' hr hb hgd m1 m2 m3 m4 m5 m6 m7 hp hp' hst q1
  rcases hlb with ⟨x1, x2, x3⟩ | ⟨x1, x2, x3⟩
  all_goals
    rcases hbh with ⟨y1, y2⟩ | ⟨y1, y2⟩
    all_goals try (exfalso; omega)
    all_goals
      go_enter Try.func3, Try.ntmps3
      go_wp2_with fail
      refine (HF0.out _).mono ?_
      rintro e w1 ⟨rfl, g1⟩
      have G1 := Lib.hid g1
      clear g1
      go_wp2_with fail
      refine (HF.out _ G1.out).mono ?_
      rintro e w2 ⟨rfl, g2⟩
      have G2 := Lib.hid (gb_trans G1.out g2)
      clear g2
      go_wp2_with fail
      refine (HS.out _).mono ?_
      rintro e w3 ⟨rfl, g3⟩
      have G3 := Lib.hid (gb_trans G2.out g3)
      clear g3
      go_wp2_with fail
      refine (HR.out _ G3.out).mono ?_
      rintro e w4 ⟨rfl, g4⟩
      have G4 := Lib.hid (gb_trans G3.out g4)
      clear g4
      go_wp2_with fail
      refine (HT.out _).mono ?_
      rintro e w5 ⟨rfl, g5⟩
      have G5 := Lib.hid (gb_trans G4.out g5)
      clear g5
      go_wp2_with fail
      refine (HRt.out _).mono ?_
      rintro e w6 ⟨rfl, rfl⟩
      go_wp2_with fail
      refine (awake_any _).mono ?_
      rintro e w7 ⟨rfl, g7⟩
      have G7 := Lib.hid (gb_trans G5.out g7)
      clear g7
      go_wp2
      go_ret
      exact ⟨rfl, G7.out⟩

theorem finds_any (l h bound : Int) (a : Option Addr) (len cap : Nat) (ch : Nat → Bool) (w : World) (hrow : Br.BoolRow w a len cap ch) :
    Calls Try.prog 3 #[.int .i64 l, .int .i64 h, .int .i64 bound, .slice a len cap] w fun e w' => e = .returned (.bool true) ∧ Below w.heap.size w w' := by
  have h : Calls Try.prog 3 #[.int .i64 l, .int .i64 h, .int .i64 bound, .slice a len cap] w fun e w' => e = .returned (.bool true) ∧ w.grownBy w' none := by
    by_cases hl : 300 < len
    · exact finds_long l h bound a len cap w hl
    · cases H : rightB l h && bndB bound
      · exact finds_not l h bound a len cap w (by omega) H
      · simp only [Bool.and_eq_true] at H
        exact finds_yes l h bound a len cap ch w (by omega) hrow.2 H.1 H.2
  exact h.mono fun e w' q => ⟨q.1, below_gb q.2⟩
end Go.Proofs.Ytjoejaclnijacaa.Ps
