/-
  Fields of bits: BitsSets' walk.
-/
import Derived.Test.YtbeaohnjifcgaaaDoorBs
namespace Go.Proofs.YtbeaohnjifcgaaaDoor.Bh
open Go Go.RowKit Go.Shelf Go.Proofs.YtbeaohnjifcgaaaDoor.Sx Go.Proofs.YtbeaohnjifcgaaaDoor.Na Go.Proofs.YtbeaohnjifcgaaaDoor.Ba

theorem chk_tf {N : Nat} (β : Nat → Bool) (h : N ≤ 4096) : chk N (tf N β) = 0 := chk_of (vd_tf β h)
theorem jo_sets {n : Int} {a b : ByteArray} (h : joE n a b = 0) : ∃ N : Nat, n = N ∧ N ≤ 4096 ∧ chk N a = 0 ∧ chk N b = 0 := by
  have h1 : chk n a = 0 := by
    unfold joE at h
    split at h
    · assumption
    · rename_i h'; exact absurd h h'
  have h2 : chk n b = 0 := by unfold joE at h; rwa [if_pos h1] at h
  obtain ⟨N, rfl, e1, _⟩ := vd_t (chk_t h1)
  exact ⟨N, rfl, e1, h1, h2⟩
theorem joS_tf {how : Nat} {N : Nat} {a b : ByteArray} (h : joE N a b = 0) : joS how N a b = tf N (fun i => jb how (bt a i) (bt b i)) := by rw [joS, if_pos h, Int.toNat_natCast]
theorem joE_of {N : Nat} {a b : ByteArray} (h1 : chk N a = 0) (h2 : chk N b = 0) : joE N a b = 0 := by unfold joE; rw [if_pos h1, h2]
theorem ntS_tf {N : Nat} {a : ByteArray} (h : chk N a = 0) : ntS N a = tf N (fun i => !bt a i) := by rw [ntS, if_pos h, Int.toNat_natCast]
/-- what a has that b has not is what a and the turned b have -/
theorem sets1 {N : Nat} {a b : ByteArray} (hN : N ≤ 4096) (h1 : chk N a = 0) (h2 : chk N b = 0) : joE N a (ntS N b) = 0 ∧ joS 1 N a (ntS N b) = joS 3 N a b := by
  have e : joE N a (ntS N b) = 0 := joE_of h1 (by rw [ntS_tf h2]; exact chk_tf _ hN)
  refine ⟨e, ?_⟩
  rw [joS_tf e, joS_tf (joE_of h1 h2)]
  refine tf_congr fun i hi => ?_
  rw [ntS_tf h2, bt_tf _ hi]
  rfl
theorem sets2 {N : Nat} {a b : ByteArray} (hN : N ≤ 4096) (h1 : chk N a = 0) (h2 : chk N b = 0) : joE N (joS 1 N a b) (joS 3 N a b) = 0 ∧ joS 2 N (joS 1 N a b) (joS 3 N a b) = a := by
  have e0 := joE_of h1 h2
  have e : joE N (joS 1 N a b) (joS 3 N a b) = 0 := joE_of (by rw [joS_tf e0]; exact chk_tf _ hN) (by rw [joS_tf e0]; exact chk_tf _ hN)
  refine ⟨e, ?_⟩
  rw [joS_tf e]
  refine Eq.trans (tf_congr (γ := bt a) fun i hi => ?_) (tf_self (chk_t h1))
  rw [joS_tf e0, joS_tf e0, bt_tf _ hi, bt_tf _ hi]
  unfold jb
  cases bt a i <;> cases bt b i <;> rfl

set_option maxRecDepth 1000000 in
set_option maxHeartbeats 4000000 in
theorem sets_walk (n : Int) (a b : ByteArray) (w : World) (ha : a.size ≤ 140737488351232) (hb : b.size ≤ 140737488351232) (ht : Hh.Tab w) :
    Calls Tryd.prog 5 #[.int .i64 n, .string a, .string b] w fun e w' => e = .returned (.bool true) ∧ Below w.heap.size w w' := by
  suffices H : Calls Tryd.prog 5 #[.int .i64 n, .string a, .string b] w fun e w' => e = .returned (.bool true) ∧ w.grownBy w' none from H.mono fun e w' h => ⟨h.1, below_of h.2⟩
  have HK : Hid (∀ w', w.grownBy w' none → Calls Tryd.prog 11 #[] w' fun e w2 => e = .returned (.bool true) ∧ w'.grownBy w2 none) := Lib.hid (fun w' hg => awake_any w' (ht.below (below_of hg)))
  clear ht
  cases hl : lgt n a
  · have HL := Lib.hid (fun w => Light_w n a w _ hl)
    clear hl
    go_enter Tryd.func5, Tryd.ntmps5
    go_wp2_with fail
    refine (HL.out _).mono ?_
    rintro e w1 ⟨rfl, rfl⟩
    go_wp2_with fail
    refine (HK.out _ (gb_refl _ _)).mono ?_
    rintro e w1 ⟨rfl, hg⟩
    go_wp2
    go_ret
    exact ⟨rfl, hg⟩
  · have HL := Lib.hid (fun w => Light_w n a w _ hl)
    cases hm : lgt n b
    · have HM := Lib.hid (fun w => Light_w n b w _ hm)
      clear hl hm
      go_enter Tryd.func5, Tryd.ntmps5
      go_wp2_with fail
      refine (HL.out _).mono ?_
      rintro e w1 ⟨rfl, rfl⟩
      go_wp2_with fail
      refine (HM.out _).mono ?_
      rintro e w1 ⟨rfl, rfl⟩
      go_wp2_with fail
      refine (HK.out _ (gb_refl _ _)).mono ?_
      rintro e w1 ⟨rfl, hg⟩
      go_wp2
      go_ret
      exact ⟨rfl, hg⟩
    · have HM := Lib.hid (fun w => Light_w n b w _ hm)
      have HA := Lib.hid (fun w => And_any n a b w ha hb)
      have HRA := Lib.hid (fun w => RJoin_any 1 n a b w (.inl rfl) ha hb)
      have HO := Lib.hid (fun w => Or_any n a b w ha hb)
      have HRO := Lib.hid (fun w => RJoin_any 2 n a b w (.inr (.inl rfl)) ha hb)
      have HW := Lib.hid (fun w => Without_any n a b w ha hb)
      have HRW := Lib.hid (fun w => RJoin_any 3 n a b w (.inr (.inr rfl)) ha hb)
      have HN := Lib.hid (fun w => Not_any n a w ha)
      have HRN := Lib.hid (fun w => RNot_any n a w ha)
      by_cases h0 : joE n a b = 0
      · have HN2 := Lib.hid (fun w => Not_any n b w hb)
        have HA2 : Hid (∀ w, Calls Tryd.prog 26 #[.int .i64 n, .string a, .string (ntS n b)] w fun e w' => e = .returned (.tuple #[.string (joS 3 n a b), .int .i64 0]) ∧ w.grownBy w' none) := Lib.hid (fun w => by
          obtain ⟨N, rfl, h1, h2, h3⟩ := jo_sets h0
          have := And_any N a (ntS N b) w ha (by rw [ntS_tf h3, tf_size]; omega)
          rwa [(sets1 h1 h2 h3).1, (sets1 h1 h2 h3).2] at this)
        have HO2 : Hid (∀ w, Calls Tryd.prog 28 #[.int .i64 n, .string (joS 1 n a b), .string (joS 3 n a b)] w fun e w' => e = .returned (.tuple #[.string a, .int .i64 0]) ∧ w.grownBy w' none) := Lib.hid (fun w => by
          obtain ⟨N, rfl, h1, h2, h3⟩ := jo_sets h0
          have := Or_any N (joS 1 N a b) (joS 3 N a b) w (by rw [joS_tf h0, tf_size]; omega) (by rw [joS_tf h0, tf_size]; omega)
          rwa [(sets2 h1 h2 h3).1, (sets2 h1 h2 h3).2] at this)
        simp only [h0] at HA HRA HO HRO HW HRW
        obtain ⟨x1, e1⟩ : ∃ v, joS 1 n a b = v := ⟨_, rfl⟩
        obtain ⟨x2, e2⟩ : ∃ v, joS 2 n a b = v := ⟨_, rfl⟩
        obtain ⟨x3, e3⟩ : ∃ v, joS 3 n a b = v := ⟨_, rfl⟩
        obtain ⟨x4, e4⟩ : ∃ v, ntS n a = v := ⟨_, rfl⟩
        obtain ⟨x5, e5⟩ : ∃ v, chk n a = v := ⟨_, rfl⟩
        obtain ⟨x6, e6⟩ : ∃ v, ntS n b = v := ⟨_, rfl⟩
        obtain ⟨x7, e7⟩ : ∃ v, chk n b = v := ⟨_, rfl⟩
        simp only [e1, e2, e3, e4, e5, e6, e7] at HA HRA HO HRO HW HRW HN HRN HN2 HA2 HO2
        clear e1 e2 e3 e4 e5 e6 e7 h0 hl hm ha hb
        go_enter Tryd.func5, Tryd.ntmps5
        go_wp2_with fail
        refine (HL.out _).mono ?_
        rintro e w1 ⟨rfl, rfl⟩
        go_wp2_with fail
        refine (HM.out _).mono ?_
        rintro e w1 ⟨rfl, rfl⟩
        go_wp2_with fail
        refine (HA.out _).mono ?_
        rintro e w2 ⟨rfl, g⟩
        have G1 := Lib.hid (g)
        clear g
        go_wp2_with fail
        refine (HRA.out _).mono ?_
        rintro e w3 ⟨rfl, g⟩
        have G2 := Lib.hid (gb_trans G1.out g)
        clear g
        go_wp2_with fail
        refine (HO.out _).mono ?_
        rintro e w4 ⟨rfl, g⟩
        have G3 := Lib.hid (gb_trans G2.out g)
        clear g
        go_wp2_with fail
        refine (HRO.out _).mono ?_
        rintro e w5 ⟨rfl, g⟩
        have G4 := Lib.hid (gb_trans G3.out g)
        clear g
        go_wp2_with fail
        refine (HW.out _).mono ?_
        rintro e w6 ⟨rfl, g⟩
        have G5 := Lib.hid (gb_trans G4.out g)
        clear g
        go_wp2_with fail
        refine (HRW.out _).mono ?_
        rintro e w7 ⟨rfl, g⟩
        have G6 := Lib.hid (gb_trans G5.out g)
        clear g
        go_wp2_with fail
        refine (HN.out _).mono ?_
        rintro e w8 ⟨rfl, g⟩
        have G7 := Lib.hid (gb_trans G6.out g)
        clear g
        go_wp2_with fail
        refine (HRN.out _).mono ?_
        rintro e w9 ⟨rfl, g⟩
        have G8 := Lib.hid (gb_trans G7.out g)
        clear g
        go_wp2_with fail
        refine (HN2.out _).mono ?_
        rintro e w10 ⟨rfl, g⟩
        have G9 := Lib.hid (gb_trans G8.out g)
        clear g
        go_wp2_with fail
        refine (HA2.out _).mono ?_
        rintro e w11 ⟨rfl, g⟩
        have G10 := Lib.hid (gb_trans G9.out g)
        clear g
        go_wp2_with fail
        refine (HO2.out _).mono ?_
        rintro e w12 ⟨rfl, g⟩
        have G11 := Lib.hid (gb_trans G10.out g)
        clear g
        go_wp2_with fail
        refine (HK.out _ G11.out).mono ?_
        rintro e w20 ⟨rfl, g⟩
        have GG := Lib.hid (gb_trans G11.out g)
        clear g
        go_wp2
        go_ret
        exact ⟨rfl, GG.out⟩
      · obtain ⟨x0, e0⟩ : ∃ v, joE n a b = v := ⟨_, rfl⟩
        obtain ⟨x1, e1⟩ : ∃ v, joS 1 n a b = v := ⟨_, rfl⟩
        obtain ⟨x2, e2⟩ : ∃ v, joS 2 n a b = v := ⟨_, rfl⟩
        obtain ⟨x3, e3⟩ : ∃ v, joS 3 n a b = v := ⟨_, rfl⟩
        obtain ⟨x4, e4⟩ : ∃ v, ntS n a = v := ⟨_, rfl⟩
        obtain ⟨x5, e5⟩ : ∃ v, chk n a = v := ⟨_, rfl⟩
        simp only [e0, e1, e2, e3, e4, e5] at HA HRA HO HRO HW HRW HN HRN h0
        have d0 : (x0 == 0) = false := by rw [beq_eq_false_iff_ne]; exact h0
        clear e0 e1 e2 e3 e4 e5 h0 hl hm ha hb
        go_enter Tryd.func5, Tryd.ntmps5
        go_wp2_with fail
        refine (HL.out _).mono ?_
        rintro e w1 ⟨rfl, rfl⟩
        go_wp2_with fail
        refine (HM.out _).mono ?_
        rintro e w1 ⟨rfl, rfl⟩
        go_wp2_with fail
        refine (HA.out _).mono ?_
        rintro e w2 ⟨rfl, g⟩
        have G1 := Lib.hid (g)
        clear g
        go_wp2_with fail
        refine (HRA.out _).mono ?_
        rintro e w3 ⟨rfl, g⟩
        have G2 := Lib.hid (gb_trans G1.out g)
        clear g
        go_wp2_with fail
        refine (HO.out _).mono ?_
        rintro e w4 ⟨rfl, g⟩
        have G3 := Lib.hid (gb_trans G2.out g)
        clear g
        go_wp2_with fail
        refine (HRO.out _).mono ?_
        rintro e w5 ⟨rfl, g⟩
        have G4 := Lib.hid (gb_trans G3.out g)
        clear g
        go_wp2_with fail
        refine (HW.out _).mono ?_
        rintro e w6 ⟨rfl, g⟩
        have G5 := Lib.hid (gb_trans G4.out g)
        clear g
        go_wp2_with fail
        refine (HRW.out _).mono ?_
        rintro e w7 ⟨rfl, g⟩
        have G6 := Lib.hid (gb_trans G5.out g)
        clear g
        go_wp2_with fail
        refine (HN.out _).mono ?_
        rintro e w8 ⟨rfl, g⟩
        have G7 := Lib.hid (gb_trans G6.out g)
        clear g
        go_wp2_with fail
        refine (HRN.out _).mono ?_
        rintro e w9 ⟨rfl, g⟩
        have G8 := Lib.hid (gb_trans G7.out g)
        clear g
        go_wp2_with fail
        refine (HK.out _ G8.out).mono ?_
        rintro e w20 ⟨rfl, g⟩
        have GG := Lib.hid (gb_trans G8.out g)
        clear g
        go_wp2
        go_ret
        exact ⟨rfl, GG.out⟩
end Go.Proofs.YtbeaohnjifcgaaaDoor.Bh
