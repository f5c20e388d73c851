/-
  ProbeRests: the walk.
-/
import Derived.Test.YtjoejaclnijacaaPr
namespace Go.Proofs.Ytjoejaclnijacaa.Ps
open Go Go.RowKit Go.Proofs.Ytjoejaclnijacaa.Sx Go.Proofs.Ytjoejaclnijacaa.Pm

set_option maxHeartbeats 400000 in
theorem Right_any (l h : Int) (w : World) : Calls Try.prog 10 #[.int .i64 l, .int .i64 h] w fun e w' => e = .returned (.bool (rightB l h)) ∧ w = w' := by
  by_cases h1 : 576 ≤ l
  · by_cases h2 : l ≤ h
    · by_cases h3 : h ≤ 9000
      · rw [show rightB l h = true from by unfold rightB; simp [h1, h2, h3]]
        go_enter Try.func10, Try.ntmps10
        go_wp2
        go_ret
        exact ⟨by simp [h3], rfl⟩
      · rw [show rightB l h = false from by unfold rightB; simp [h3]]
        go_enter Try.func10, Try.ntmps10
        go_wp2
        go_ret
        exact ⟨by simp <;> omega, rfl⟩
    · rw [show rightB l h = false from by unfold rightB; simp [h2]]
      go_enter Try.func10, Try.ntmps10
      go_wp2
      go_ret
      exact ⟨by simp, rfl⟩
  · rw [show rightB l h = false from by unfold rightB; simp [h1]]
    go_enter Try.func10, Try.ntmps10
    go_wp2
    go_ret
    exact ⟨by simp, rfl⟩
theorem Right_t (l h : Int) (H : rightB l h = true) (w : World) : Calls Try.prog 10 #[.int .i64 l, .int .i64 h] w fun e w' => e = .returned (.bool true) ∧ w = w' := by
  have := Right_any l h w; rwa [H] at this
theorem Right_f (l h : Int) (H : rightB l h = false) (w : World) : Calls Try.prog 10 #[.int .i64 l, .int .i64 h] w fun e w' => e = .returned (.bool false) ∧ w = w' := by
  have := Right_any l h w; rwa [H] at this

/-- the law looks at it -/
def lookB (l h b t : Int) : Bool := rightB l h && decide (l ≤ b) && decide (b ≤ 10000) && decide (0 ≤ t) && decide (t ≤ 1000000)

set_option maxRecDepth 100000 in
set_option maxHeartbeats 4000000 in
theorem rests_not (l h b t : Int) (w : World) (H : lookB l h b t = false) :
    Calls Try.prog 4 #[.int .i64 l, .int .i64 h, .int .i64 b, .int .i64 t] w fun e w' => e = .returned (.bool true) ∧ w.grownBy w' none := by
  cases h1 : rightB l h
  · have HR := Lib.hid (Right_f l h h1)
    clear h1 H
    go_enter Try.func4, Try.ntmps4
    go_wp2_with fail
    refine (HR.out _).mono ?_
    rintro e w1 ⟨rfl, rfl⟩
    go_wp2_with fail
    refine (awake_any _).mono ?_
    rintro e w2 ⟨rfl, g⟩
    go_wp2
    go_ret
    exact ⟨rfl, g⟩
  · have HR := Lib.hid (Right_t l h h1)
    have hx : b < l ∨ 10000 < b ∨ t < 0 ∨ 1000000 < t := by unfold lookB at H; rw [h1] at H; simp at H; omega
    clear h1 H
    by_cases c1 : b < l
    · have d1 : decide (b < l) = true := by simpa using c1
      clear hx
      go_enter Try.func4, Try.ntmps4
      go_wp2_with fail
      refine (HR.out _).mono ?_
      rintro e w1 ⟨rfl, rfl⟩
      go_wp2_with fail
      refine (awake_any _).mono ?_
      rintro e w2 ⟨rfl, g⟩
      go_wp2
      go_ret
      exact ⟨rfl, g⟩
    · by_cases c2 : 10000 < b
      · clear hx
        go_enter Try.func4, Try.ntmps4
        go_wp2_with fail
        refine (HR.out _).mono ?_
        rintro e w1 ⟨rfl, rfl⟩
        go_wp2_with fail
        refine (awake_any _).mono ?_
        rintro e w2 ⟨rfl, g⟩
        go_wp2
        go_ret
        exact ⟨rfl, g⟩
      · by_cases c3 : t < 0
        · clear hx
          go_enter Try.func4, Try.ntmps4
          go_wp2_with fail
          refine (HR.out _).mono ?_
          rintro e w1 ⟨rfl, rfl⟩
          go_wp2_with fail
          refine (awake_any _).mono ?_
          rintro e w2 ⟨rfl, g⟩
          go_wp2
          go_ret
          exact ⟨rfl, g⟩
        · have c4 : 1000000 < t := by omega
          clear hx
          go_enter Try.func4, Try.ntmps4
          go_wp2_with fail
          refine (HR.out _).mono ?_
          rintro e w1 ⟨rfl, rfl⟩
          go_wp2_with fail
          refine (awake_any _).mono ?_
          rintro e w2 ⟨rfl, g⟩
          go_wp2
          go_ret
          exact ⟨rfl, g⟩

set_option maxRecDepth 1000000 in
set_option maxHeartbeats 8000000 in
theorem rests_yes (l h b t : Int) (w : World) (H : lookB l h b t = true) :
    Calls Try.prog 4 #[.int .i64 l, .int .i64 h, .int .i64 b, .int .i64 t] w fun e w' => e = .returned (.bool true) ∧ w.grownBy w' none := by
  obtain ⟨h1, c1, c2, c3, c4⟩ : rightB l h = true ∧ l ≤ b ∧ b ≤ 10000 ∧ 0 ≤ t ∧ t ≤ 1000000 := by unfold lookB at H; simpa [and_assoc] using H
  have HR := Lib.hid (Right_t l h h1)
  have HN := Lib.hid (fun w => New_ok l h w h1)
  obtain ⟨l1, l2, l3⟩ := rightB_t h1
  clear h1 H
  go_enter Try.func4, Try.ntmps4
  go_wp2_with fail
  refine (HR.out _).mono ?_
  rintro e w1 ⟨rfl, rfl⟩
  go_wp2_with fail
  refine (HN.out _).mono ?_
  rintro e w1 ⟨rfl, H1, g1⟩
  obtain ⟨c, hc⟩ : ∃ c, w.heap.size + 4 = c := ⟨_, rfl⟩
  rw [hc] at H1
  simp only [hc]
  have hcw : w.heap.size ≤ c := by omega
  have HB : PB w1 c h l b 0 0 0 w1 := ⟨l, h, 0, 0, 0, 0, 0, 30, ⟨gb_refl _ _, H1, l1, Int.le_refl _, c1, .inr (Int.le_refl _), l3, Int.le_refl _, l2, by omega, by omega, by omega, by omega, by omega, by omega⟩, good_start l1 l3 l2, by omega, fun _ => by omega, fun h => absurd h (by omega), by omega⟩
  have HG1 := Lib.hid g1
  have HRun := Lib.hid (run_any c h l b 0 0 w1 (by omega) (by omega) (by omega) (.inr HB))
  clear H1 g1 hc HB HN HR
  go_wp2_with fail
  refine HRun.out.mono ?_
  rintro e w2 ⟨rfl, lf, hf, n, s, q, a, k, hR, hcl, hns, hq⟩
  have hR' := hR
  obtain ⟨hgb, HS, r1, r2, r3, r4, r5, r6, r7, r8, r9, r10, r11, r12, r13⟩ := hR'
  obtain ⟨rfl, rfl⟩ : n = 0 ∧ s = 0 := by omega
  have HG2 := Lib.hid (gb_mark HG1.out hgb hcw)
  have HSH := Lib.hid HS
  clear HRun hR hgb HS hns HG1
  go_wp2_with fail
  refine (Size_any _ _ _ _ _ _ _ _ _ _ _ HSH.out).mono ?_
  rintro e w3 ⟨rfl, rfl⟩
  go_wp2_with fail
  refine (Sent_any _ _ _ _ _ _ _ _ _ _ _ HSH.out).mono ?_
  rintro e w3 ⟨rfl, rfl⟩
  by_cases ht : t < 600000
  · have HNx := Lib.hid (Next_rest c lf hf h 0 0 q a k t _ HSH.out (by omega) c3 (by omega) c3 r13 (by omega) (by omega) (by omega) (by omega) hcl (by omega) (by omega) (by omega))
    go_wp2_with fail
    refine HNx.out.mono ?_
    rintro e w3 ⟨rfl, H3, g3⟩
    have H3H := Lib.hid H3
    have HG3 := Lib.hid (gb_mark HG2.out g3 hcw)
    clear H3 g3 HNx
    go_wp2_with fail
    refine (State_two _ _ _ _ _ _ _ _ _ _ _ H3H.out (by omega) (by omega) (by omega) hcl (by omega) (by omega) (by omega)).mono ?_
    rintro e w4 ⟨rfl, g4⟩
    have H4H := Lib.hid (H3H.out.kept g4 (by simp))
    have HG4 := Lib.hid (gb_trans HG3.out g4)
    clear g4
    go_wp2_with fail
    refine (Sent_any _ _ _ _ _ _ _ _ _ _ _ H4H.out).mono ?_
    rintro e w5 ⟨rfl, rfl⟩
    go_wp2_with fail
    refine (awake_any _).mono ?_
    rintro e w6 ⟨rfl, g6⟩
    have HG6 := Lib.hid (gb_trans HG4.out g6)
    clear g6
    go_wp2
    go_ret
    exact ⟨rfl, HG6.out⟩
  · have HA : PA w2 c h lf b t q w2 := ⟨lf, hf, 0, 0, q, a, k, ⟨gb_refl _ _, HSH.out, by omega, Int.le_refl _, r3, r4, r5, r6, r7, by omega, c3, by omega, by omega, r12, r13⟩, hcl, by omega, Int.le_refl _⟩
    have HRun := Lib.hid (run_any c h lf b t q w2 c3 (by omega) (by omega) (.inl HA))
    clear HA
    go_wp2_with fail
    refine HRun.out.mono ?_
    rintro e w3 ⟨rfl, l', h', n', s', q', a', k', hR, hcl', hns, hq'⟩
    obtain ⟨hgb, HS, t1, t2, t3, t4, t5, t6, t7, t8, t9, t10, t11, t12, t13⟩ := hR
    have HG3 := Lib.hid (gb_mark HG2.out hgb hcw)
    have H3H := Lib.hid HS
    clear hgb HS HRun
    go_wp2_with fail
    refine (Range_any _ _ _ _ _ _ _ _ _ _ _ H3H.out).mono ?_
    rintro e w4 ⟨rfl, g4⟩
    have H4H := Lib.hid (H3H.out.kept g4 (by simp))
    have HG4 := Lib.hid (gb_trans HG3.out g4)
    clear g4
    go_wp2_with fail
    refine (Size_any _ _ _ _ _ _ _ _ _ _ _ H4H.out).mono ?_
    rintro e w5 ⟨rfl, rfl⟩
    go_wp2_with fail
    refine (Size_any _ _ _ _ _ _ _ _ _ _ _ H4H.out).mono ?_
    rintro e w5 ⟨rfl, rfl⟩
    have z1 : 0 ≤ b := by omega
    by_cases hbh : b ≤ h
    all_goals
      go_wp2_with fail
      refine (State_two _ _ _ _ _ _ _ _ _ _ _ H4H.out (by omega) (by omega) (by omega) hcl' (by omega) (by omega) (by omega)).mono ?_
      rintro e w5 ⟨rfl, g5⟩
      have HG5 := Lib.hid (gb_trans HG4.out g5)
      clear g5
      go_wp2_with fail
      refine (awake_any _).mono ?_
      rintro e w6 ⟨rfl, g6⟩
      have HG6 := Lib.hid (gb_trans HG5.out g6)
      clear g6
      go_wp2
      go_ret
      exact ⟨rfl, HG6.out⟩

theorem rests_any (l h b t : Int) (w : World) :
    Calls Try.prog 4 #[.int .i64 l, .int .i64 h, .int .i64 b, .int .i64 t] w fun e w' => e = .returned (.bool true) ∧ Below w.heap.size w w' := by
  cases H : lookB l h b t
  · exact (rests_not l h b t w H).mono fun e w' h => ⟨h.1, below_gb h.2⟩
  · exact (rests_yes l h b t w H).mono fun e w' h => ⟨h.1, below_gb h.2⟩
end Go.Proofs.Ytjoejaclnijacaa.Ps
