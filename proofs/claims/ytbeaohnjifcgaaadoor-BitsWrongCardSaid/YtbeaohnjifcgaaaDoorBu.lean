/-
  Fields of bits: BitsWrong's walk.
-/
import Derived.Test.YtbeaohnjifcgaaaDoorBz
namespace Go.Proofs.YtbeaohnjifcgaaaDoor.Bh
open Go Go.RowKit Go.Shelf Go.Proofs.YtbeaohnjifcgaaaDoor.Sx Go.Proofs.YtbeaohnjifcgaaaDoor.Na Go.Proofs.YtbeaohnjifcgaaaDoor.Ba

set_option maxRecDepth 1000000 in
set_option maxHeartbeats 4000000 in
theorem wrong_walk (n : Int) (s : ByteArray) (w : World) (b1 : -9223372036854775808 ≤ n) (b2 : n ≤ 9223372036854775807) (hs : s.size ≤ 140737488351232) (ht : Hh.Tab w) :
    Calls Tryd.prog 3 #[.int .i64 n, .string s] w fun e w' => e = .returned (.bool true) ∧ Below w.heap.size w w' := by
  suffices H : Calls Tryd.prog 3 #[.int .i64 n, .string s] w fun e w' => e = .returned (.bool true) ∧ w.grownBy w' none from H.mono fun e w' h => ⟨h.1, below_of h.2⟩
  have HA : Hid (∀ w', w.grownBy w' none → Calls Tryd.prog 11 #[] w' fun e w2 => e = .returned (.bool true) ∧ w'.grownBy w2 none) := Lib.hid (fun w' hg => awake_any w' (ht.below (below_of hg)))
  clear ht
  cases hl : lgt n s
  · have HL := Lib.hid (fun w => Light_w n s w _ hl)
    clear hl
    go_enter Tryd.func3, Tryd.ntmps3
    go_wp2_with fail
    refine (HL.out _).mono ?_
    rintro e w1 ⟨rfl, rfl⟩
    go_wp2_with fail
    refine (HA.out _ (gb_refl _ _)).mono ?_
    rintro e w1 ⟨rfl, hg⟩
    go_wp2
    go_ret
    exact ⟨rfl, hg⟩
  · have HL := Lib.hid (fun w => Light_w n s w _ hl)
    have HW := Lib.hid (fun w => Wrong_any n s w hs)
    have HWr := Lib.hid (fun w => RWrong_any n s w hs)
    have HN := Lib.hid (fun w => New_any n w)
    have HNr := Lib.hid (fun w => RNew_any n w)
    have HF := Lib.hid (fun w => Full_any n w)
    have HFr := Lib.hid (fun w => RFull_any n w)
    have HV := Lib.hid (fun w => Valid_any n s w hs)
    have HVr := Lib.hid (fun w => RValid_any n s w hs)
    have HV1 : Hid (nwE n = 0 → ∀ w, Calls Tryd.prog 18 #[.int .i64 n, .string (nwS n)] w fun e w' => e = .returned (.bool true) ∧ w.grownBy w' none) := Lib.hid (fun h w => by
      have hr : rgt n = true := by
        cases e : rgt n
        · unfold nwE at h; rw [if_neg (by rw [e]; decide)] at h; omega
        · rfl
      obtain ⟨n0, n1⟩ := rgt_t hr
      have e1 : nwS n = tf n.toNat (fun _ => false) := if_pos hr
      have hv := vd_tf (N := n.toNat) (fun _ => false) (by omega)
      rw [show ((n.toNat : Nat) : Int) = n by omega, ← e1] at hv
      exact Valid_w n _ w (by rw [e1, tf_size]; omega) _ hv)
    have HV2 : Hid (nwE n = 0 → ∀ w, Calls Tryd.prog 18 #[.int .i64 n, .string (fuS n)] w fun e w' => e = .returned (.bool true) ∧ w.grownBy w' none) := Lib.hid (fun h w => by
      have hr : rgt n = true := by
        cases e : rgt n
        · unfold nwE at h; rw [if_neg (by rw [e]; decide)] at h; omega
        · rfl
      obtain ⟨n0, n1⟩ := rgt_t hr
      have e1 : fuS n = tf n.toNat (fun _ => true) := if_pos hr
      have hv := vd_tf (N := n.toNat) (fun _ => true) (by omega)
      rw [show ((n.toNat : Nat) : Int) = n by omega, ← e1] at hv
      exact Valid_w n _ w (by rw [e1, tf_size]; omega) _ hv)
    have he : nwE n = 0 ∨ nwE n = 7 := by unfold nwE; split <;> simp
    obtain ⟨v1, e1⟩ : ∃ v, wat n s = v := ⟨_, rfl⟩
    obtain ⟨v2, e2⟩ : ∃ v, wer n s = v := ⟨_, rfl⟩
    obtain ⟨v3, e3⟩ : ∃ v, nwS n = v := ⟨_, rfl⟩
    obtain ⟨v4, e4⟩ : ∃ v, nwE n = v := ⟨_, rfl⟩
    obtain ⟨v5, e5⟩ : ∃ v, fuS n = v := ⟨_, rfl⟩
    obtain ⟨v6, e6⟩ : ∃ v, vd n s = v := ⟨_, rfl⟩
    simp only [e1, e2, e3, e4, e5, e6] at HW HWr HN HNr HF HFr HV HVr HV1 HV2 he
    clear e1 e2 e3 e4 e5 e6 hl hs
    go_enter Tryd.func3, Tryd.ntmps3
    go_wp2_with fail
    refine (HL.out _).mono ?_
    rintro e w1 ⟨rfl, rfl⟩
    go_wp2_with fail
    refine (HW.out _).mono ?_
    rintro e w1 ⟨rfl, g1⟩
    have G1 := Lib.hid g1
    clear g1
    go_wp2_with fail
    refine (HWr.out _).mono ?_
    rintro e w2 ⟨rfl, rfl⟩
    go_wp2_with fail
    refine (HN.out _).mono ?_
    rintro e w2 ⟨rfl, g2⟩
    have G2 := Lib.hid (gb_trans G1.out g2)
    clear g2 G1
    go_wp2_with fail
    refine (HNr.out _).mono ?_
    rintro e w3 ⟨rfl, g2⟩
    have G3 := Lib.hid (gb_trans G2.out g2)
    clear g2 G2
    go_wp2_with fail
    refine (HF.out _).mono ?_
    rintro e w4 ⟨rfl, g2⟩
    have G4 := Lib.hid (gb_trans G3.out g2)
    clear g2 G3
    go_wp2_with fail
    refine (HFr.out _).mono ?_
    rintro e w5 ⟨rfl, g2⟩
    have G5 := Lib.hid (gb_trans G4.out g2)
    clear g2 G4
    go_wp2_with fail
    refine (HV.out _).mono ?_
    rintro e w6 ⟨rfl, g2⟩
    have G6 := Lib.hid (gb_trans G5.out g2)
    clear g2 G5
    go_wp2_with fail
    refine (HVr.out _).mono ?_
    rintro e w7 ⟨rfl, rfl⟩
    rcases he with rfl | rfl
    · have HV1' := Lib.hid (HV1.out rfl)
      have HV2' := Lib.hid (HV2.out rfl)
      go_wp2_with fail
      refine (HV1'.out _).mono ?_
      rintro e w7 ⟨rfl, g2⟩
      have G7 := Lib.hid (gb_trans G6.out g2)
      clear g2 G6
      go_wp2_with fail
      refine (HV2'.out _).mono ?_
      rintro e w8 ⟨rfl, g2⟩
      have G8 := Lib.hid (gb_trans G7.out g2)
      clear g2 G7
      go_wp2_with fail
      refine (HA.out _ G8.out).mono ?_
      rintro e w9 ⟨rfl, g2⟩
      have G9 := Lib.hid (gb_trans G8.out g2)
      clear g2 G8
      go_wp2
      go_ret
      exact ⟨rfl, G9.out⟩
    · go_wp2_with fail
      refine (HA.out _ G6.out).mono ?_
      rintro e w9 ⟨rfl, g2⟩
      have G9 := Lib.hid (gb_trans G6.out g2)
      clear g2 G6
      go_wp2
      go_ret
      exact ⟨rfl, G9.out⟩
end Go.Proofs.YtbeaohnjifcgaaaDoor.Bh
