/-
  The law's run: a search asks till it has found.
-/
import Derived.Test.YtjoejaclnijacaaPg
import Derived.LoopTactic
namespace Go.Proofs.Ytjoejaclnijacaa.Ps
open Go Go.RowKit Go.Proofs.Ytjoejaclnijacaa.Sx Go.Proofs.Ytjoejaclnijacaa.Pm

/-- a search that is no probe ahead -/
def RS (W0 W : World) (c : Nat) (f l0 bound now l h n s q a : Int) (k : Nat) : Prop :=
  W0.grownBy W (some c) ∧ Sb W c l h f n s q 0 a k ∧ 576 ≤ l0 ∧ l0 ≤ l ∧ l ≤ bound ∧ (bound ≤ h ∨ f ≤ h) ∧ l ≤ h ∧ h ≤ f ∧ f ≤ 9000 ∧ 0 ≤ n ∧ n ≤ now ∧ 0 ≤ s ∧ s ≤ n ∧ k ≤ 2 ∧ 0 ≤ q
/-- it rests longer than it must -/
def PA (W0 : World) (c : Nat) (f l0 bound now Q : Int) (W : World) : Prop := ∃ (l h n s q a : Int) (k : Nat), RS W0 W c f l0 bound now l h n s q a k ∧ h - l < 16 ∧ s + 600000 ≤ now ∧ q ≤ Q
/-- it searches, or rests -/
def PB (W0 : World) (c : Nat) (f l0 bound now Q : Int) (j : Nat) (W : World) : Prop := ∃ (l h n s q a : Int) (k fuel : Nat), RS W0 W c f l0 bound now l h n s q a k ∧ good fuel l h k ∧ j + fuel ≤ 30 ∧ (h - l < 16 → now < s + 600000) ∧ (0 < k → a = mid l h) ∧ q ≤ Q + j
/-- it has found -/
def PF (W0 : World) (c : Nat) (f l0 bound now Q : Int) (W : World) : Prop := ∃ (l h n s q a : Int) (k : Nat), RS W0 W c f l0 bound now l h n s q a k ∧ h - l < 16 ∧ n < s + 600000 ∧ q ≤ Q + 30

section
variable {W0 W2 W3 : World} {c : Nat} {f l0 bound now Q l h n s q a : Int} {k fuel j : Nat}
theorem sn_in (hs : 0 ≤ s) (hs2 : s ≤ now) (x y : Int) : 0 ≤ sn x y now s ∧ sn x y now s ≤ now ∧ (y - x < 16 → sn x y now s = now) := by
  unfold sn; split
  · exact ⟨by omega, by omega, fun _ => rfl⟩
  · exact ⟨by omega, by omega, fun h => absurd h (by assumption)⟩
theorem after_lost (hR : RS W0 W2 c f l0 bound now l h n s q a k) (hn : 0 ≤ now) (h16 : 16 ≤ h - l) (hg : good (fuel + 1) l h k) (hj : j + (fuel + 1) ≤ 30) (hQ : q ≤ Q + j) (hb : bound < mid l h) (hgb : W0.grownBy W3 (some c))
    (HS : Sb W3 c l (lh h (mid l h) k) f now (sn l (lh h (mid l h) k) now s) (q + 1) 0 (mid l h) (lk k)) : PB W0 c f l0 bound now Q (j + 1) W3 := by
  obtain ⟨_, _, r1, r2, r3, r4, r5, r6, r7, r8, r9, r10, r11, r12, r13⟩ := hR
  have hm := mid_in (l := l) (h := h) h16
  obtain ⟨s1, s2, s3⟩ := sn_in (now := now) r10 (by omega) l (lh h (mid l h) k)
  by_cases hk : k = 2
  · subst hk
    have e1 : lh h (mid l h) (2 : Nat) = mid l h - 1 := if_pos rfl
    have e2 : lk (2 : Nat) = ((0 : Nat) : Int) := if_pos rfl
    rw [e1] at s1 s2 s3
    rw [e1, e2] at HS
    exact ⟨l, mid l h - 1, now, _, q + 1, mid l h, 0, fuel, ⟨hgb, HS, r1, r2, r3, by omega, by omega, by omega, r7, by omega, by omega, s1, s2, by omega, by omega⟩, good_less hg (by omega), by omega, fun h => by have := s3 h; omega, fun h => absurd h (by omega), by omega⟩
  · have e1 : lh h (mid l h) k = h := if_neg (by omega)
    have e2 : lk k = ((k + 1 : Nat) : Int) := (if_neg (by omega)).trans (by omega)
    rw [e1] at s1 s2 s3
    rw [e1, e2] at HS
    exact ⟨l, h, now, _, q + 1, mid l h, k + 1, fuel, ⟨hgb, HS, r1, r2, r3, r4, r5, r6, r7, by omega, by omega, s1, s2, by omega, by omega⟩, good_lost hg hk, by omega, fun h => by have := s3 h; omega, fun _ => rfl, by omega⟩
theorem after_ack (hR : RS W0 W2 c f l0 bound now l h n s q a k) (hn : 0 ≤ now) (h16 : 16 ≤ h - l) (hg : good (fuel + 1) l h k) (hj : j + (fuel + 1) ≤ 30) (hQ : q ≤ Q + j) (hb : mid l h ≤ bound) (hgb : W0.grownBy W3 (some c))
    (HS : Sb W3 c (mid l h) h f now (sn (mid l h) h now s) (q + 1) 0 (mid l h) 0) : PB W0 c f l0 bound now Q (j + 1) W3 := by
  obtain ⟨_, _, r1, r2, r3, r4, r5, r6, r7, r8, r9, r10, r11, r12, r13⟩ := hR
  have hm := mid_in (l := l) (h := h) h16
  obtain ⟨s1, s2, s3⟩ := sn_in (now := now) r10 (by omega) (mid l h) h
  exact ⟨mid l h, h, now, _, q + 1, mid l h, 0, fuel, ⟨hgb, HS, r1, by omega, hb, r4, by omega, r6, r7, by omega, by omega, s1, s2, by omega, by omega⟩, good_ack hg (by omega), by omega, fun h => by have := s3 h; omega, fun h => absurd h (by omega), by omega⟩
end

set_option maxRecDepth 100000 in
set_option maxHeartbeats 4000000 in
theorem run_any (c : Nat) (f l0 bound now Q : Int) (W0 : World) (hn : 0 ≤ now) (hn2 : now ≤ 1000000000) (hQ : Q ≤ 1000) (h0 : PA W0 c f l0 bound now Q W0 ∨ PB W0 c f l0 bound now Q 0 W0) :
    Calls Try.prog 12 #[.pointer (some ⟨c, 0, none⟩), .int .i64 bound, .int .i64 now] W0 fun e W' => e = .returned (.tuple #[]) ∧ PF W0 c f l0 bound now Q W' := by
  have H0 := Lib.hid h0
  clear h0
  go_enter Try.func12, Try.ntmps12
  go_wp2
  go_loopw [9] (fun i wr => ∃ j : Nat, j ≤ 200 ∧ i = .int .i64 j ∧ Hid ((j = 0 ∧ PA W0 c f l0 bound now Q wr) ∨ PB W0 c f l0 bound now Q j wr)) (fun i _ => 200 - (intOf i).toNat)
  case atStart => exact ⟨0, Nat.zero_le _, rfl, Lib.hid (H0.out.elim (fun h => .inl ⟨rfl, h⟩) .inr)⟩
  case round =>
    obtain ⟨j, hj, rfl, HJ⟩ := hrel
    clear H0
    by_cases hlt : j < 200
    · -- what a round does, once it is known which of its probes is asked
      rcases HJ.out with ⟨hj0, l, h, n, s, q, a, k, hR, hc, hs, hq⟩ | ⟨l, h, n, s, q, a, k, fuel, hR, hg, hjf, hcl, hka, hq⟩
      · have hR' := hR
        obtain ⟨hgb, HS, r1, r2, r3, r4, r5, r6, r7, r8, r9, r10, r11, r12, r13⟩ := hR'
        have f0 : f ≠ 0 := by omega
        by_cases hf : f - l < 16
        · have HN := Lib.hid (Next_end c l h f n s q a k now wr HS f0 hn hn2 r9 r13 (by omega) (by omega) (by omega) (by omega) hc r10 (by omega) hs (by omega) r7 hf (by omega))
          have HF : Hid (∀ W', Sb W' c l f f now now q 0 a k → wr.grownBy W' (some c) → PF W0 c f l0 bound now Q W') := Lib.hid (fun W' hS hg' => ⟨l, f, now, now, q, a, k, ⟨gb_trans hgb hg', hS, r1, r2, r3, .inr (Int.le_refl _), by omega, Int.le_refl _, r7, hn, Int.le_refl _, hn, Int.le_refl _, r12, r13⟩, hf, by omega, by omega⟩)
          clear HJ hR hgb HS hc hs hf hj0
          go_wp2_with fail
          refine HN.out.mono ?_
          rintro e W1 ⟨rfl, H1, g1⟩
          have HE := Lib.hid (HF.out _ H1 g1)
          clear H1 g1 HN HF
          go_wp2
          refine bodyPost_ret (results_none rfl _ _ _) rfl ?_
          exact ⟨rfl, HE.out⟩
        · have HN := Lib.hid (Next_anew c l h f n s q a k now wr HS f0 hn hn2 r9 r13 (by omega) (by omega) (by omega) (by omega) hc r10 (by omega) hs (by omega) r7 (by omega))
          obtain ⟨k', hk', hnk⟩ : ∃ k' : Nat, k' ≤ 2 ∧ nk (mid l f) a k = k' := by unfold nk; split; exact ⟨k, r12, rfl⟩; exact ⟨0, by omega, rfl⟩
          have hm := mid_in (l := l) (h := f) (by omega)
          have hgd : good (29 + 1) l f k' := by have := good_start (l := l) (h := f) (by omega) (by omega) r7; exact ⟨this.1, hk', by have := this.2.2; omega⟩
          have hR2 : RS W0 wr c f l0 bound now l f n s q a k → RS W0 wr c f l0 bound now l f n s q a k := id
          have HL : Hid (∀ W' W'', Sb W' c l f f now s (q + 1) (q + 1) (mid l f) k' → wr.grownBy W' (some c) → W'.grownBy W'' (some c) → bound < mid l f → Sb W'' c l (lh f (mid l f) k') f now (sn l (lh f (mid l f) k') now s) (q + 1) 0 (mid l f) (lk k') → PB W0 c f l0 bound now Q (j + 1) W'') := Lib.hid (fun W' W'' hS g1 g2 hb hS2 => by
            subst hj0
            obtain ⟨s1, s2, s3⟩ := sn_in (now := now) r10 (by omega) l (lh f (mid l f) k')
            by_cases hk : k' = 2
            · subst hk
              have e1 : lh f (mid l f) (2 : Nat) = mid l f - 1 := if_pos rfl
              have e2 : lk (2 : Nat) = ((0 : Nat) : Int) := if_pos rfl
              rw [e1] at s1 s2 s3
              rw [e1, e2] at hS2
              exact ⟨l, mid l f - 1, now, _, q + 1, mid l f, 0, 29, ⟨gb_trans hgb (gb_trans g1 g2), hS2, r1, r2, r3, by omega, by omega, by omega, r7, by omega, by omega, s1, s2, by omega, by omega⟩, good_less hgd (by omega), by omega, fun h => by have := s3 h; omega, fun h => absurd h (by omega), by omega⟩
            · have e1 : lh f (mid l f) k' = f := if_neg (by omega)
              have e2 : lk k' = ((k' + 1 : Nat) : Int) := (if_neg (by omega)).trans (by omega)
              rw [e1] at s1 s2 s3
              rw [e1, e2] at hS2
              exact ⟨l, f, now, _, q + 1, mid l f, k' + 1, 29, ⟨gb_trans hgb (gb_trans g1 g2), hS2, r1, r2, r3, .inr (Int.le_refl _), by omega, Int.le_refl _, r7, by omega, by omega, s1, s2, by omega, by omega⟩, good_lost hgd hk, by omega, fun h => by have := s3 h; omega, fun _ => rfl, by omega⟩)
          have HAk : Hid (∀ W' W'', Sb W' c l f f now s (q + 1) (q + 1) (mid l f) k' → wr.grownBy W' (some c) → W'.grownBy W'' (some c) → mid l f ≤ bound → Sb W'' c (mid l f) f f now (sn (mid l f) f now s) (q + 1) 0 (mid l f) 0 → PB W0 c f l0 bound now Q (j + 1) W'') := Lib.hid (fun W' W'' hS g1 g2 hb hS2 => by
            subst hj0
            obtain ⟨s1, s2, s3⟩ := sn_in (now := now) r10 (by omega) (mid l f) f
            exact ⟨mid l f, f, now, _, q + 1, mid l f, 0, 29, ⟨gb_trans hgb (gb_trans g1 g2), hS2, r1, by omega, hb, .inr (Int.le_refl _), by omega, Int.le_refl _, r7, by omega, by omega, s1, s2, by omega, by omega⟩, good_ack hgd (by omega), by omega, fun h => by have := s3 h; omega, fun h => absurd h (by omega), by omega⟩)
          have hlh : lh f (mid l f) k' ≤ 9000 ∧ -9000 ≤ lh f (mid l f) k' - l := by unfold lh; split <;> omega
          have HNK := Lib.hid hnk
          have m1 := hm.1
          have m2 := hm.2.1
          clear HJ hR hgb HS hc hs hj0 hm hgd hR2 hnk
          by_cases hbm : bound < mid l f
          all_goals
            go_wp2_with fail
            refine HN.out.mono ?_
            rintro e W1 ⟨rfl, H1, g1⟩
            rw [HNK.out] at H1
            have H1H := Lib.hid H1
            have G1 := Lib.hid g1
            clear H1 g1
            go_wp2_with fail
          · refine (Lost_ok c l f f now s (q + 1) (mid l f) k' now _ H1H.out f0 hn hn2 (Int.le_refl _) (by omega) (by omega) (by omega) hlh.1 hlh.2 (by omega) (by omega) (by omega) (by omega)).mono ?_
            rintro e W2 ⟨rfl, H2, g2⟩
            have HE := Lib.hid (HL.out _ _ H1H.out G1.out g2 hbm H2)
            clear H2 g2 HL HAk
            go_wp2
            go_roundw
            case rel => exact ⟨j + 1, by omega, by go_num, Lib.hid (.inr HE.out)⟩
            case measure => simp [intOf]; omega
          · refine (Acked_ok c l f f now s (q + 1) (mid l f) k' now _ H1H.out f0 hn hn2 (Int.le_refl _) (by omega) (by omega) (by omega) r7 (by omega)).mono ?_
            rintro e W2 ⟨rfl, H2, g2⟩
            have HE := Lib.hid (HAk.out _ _ H1H.out G1.out g2 (by omega) H2)
            clear H2 g2 HL HAk
            go_wp2
            go_roundw
            case rel => exact ⟨j + 1, by omega, by go_num, Lib.hid (.inr HE.out)⟩
            case measure => simp [intOf]; omega
      · have hR' := hR
        obtain ⟨hgb, HS, r1, r2, r3, r4, r5, r6, r7, r8, r9, r10, r11, r12, r13⟩ := hR'
        have f0 : f ≠ 0 := by omega
        by_cases hc : h - l < 16
        · have hs := hcl hc
          have HN := Lib.hid (Next_rest c l h f n s q a k now wr HS f0 hn hn2 r9 r13 (by omega) (by omega) (by omega) (by omega) hc r10 (by omega) hs)
          have HF : Hid (∀ W', Sb W' c l h f n s q 0 a k → wr.grownBy W' (some c) → PF W0 c f l0 bound now Q W') := Lib.hid (fun W' hS hg' => ⟨l, h, n, s, q, a, k, ⟨gb_trans hgb hg', hS, r1, r2, r3, r4, r5, r6, r7, r8, r9, r10, r11, r12, r13⟩, hc, by omega, by omega⟩)
          clear HJ hR hgb HS hc hs hg hcl hka
          go_wp2_with fail
          refine HN.out.mono ?_
          rintro e W1 ⟨rfl, H1, g1⟩
          have HE := Lib.hid (HF.out _ H1 g1)
          clear H1 g1 HN HF
          go_wp2
          refine bodyPost_ret (results_none rfl _ _ _) rfl ?_
          exact ⟨rfl, HE.out⟩
        · obtain ⟨fu, rfl⟩ := good_pos hg hc
          have HN := Lib.hid (Next_go c l h f n s q a k now wr HS f0 hn hn2 r9 r13 (by omega) (by omega) (by omega) (by omega))
          have HNK := Lib.hid (nk_same (m := mid l h) (a := a) (k := k) hka)
          have hm := mid_in (l := l) (h := h) (by omega)
          have HL : Hid (∀ W'', wr.grownBy W'' (some c) → bound < mid l h → Sb W'' c l (lh h (mid l h) k) f now (sn l (lh h (mid l h) k) now s) (q + 1) 0 (mid l h) (lk k) → PB W0 c f l0 bound now Q (j + 1) W'') := Lib.hid (fun W'' g hb hS2 => after_lost hR hn (by omega) hg hjf hq hb (gb_trans hgb g) hS2)
          have HAk : Hid (∀ W'', wr.grownBy W'' (some c) → mid l h ≤ bound → Sb W'' c (mid l h) h f now (sn (mid l h) h now s) (q + 1) 0 (mid l h) 0 → PB W0 c f l0 bound now Q (j + 1) W'') := Lib.hid (fun W'' g hb hS2 => after_ack hR hn (by omega) hg hjf hq hb (gb_trans hgb g) hS2)
          have hlh : lh h (mid l h) k ≤ 9000 ∧ -9000 ≤ lh h (mid l h) k - l := by unfold lh; split <;> omega
          have m1 := hm.1
          have m2 := hm.2.1
          clear HJ hR hgb HS hc hm hg hcl hka
          by_cases hbm : bound < mid l h
          all_goals
            go_wp2_with fail
            refine HN.out.mono ?_
            rintro e W1 ⟨rfl, H1, g1⟩
            rw [HNK.out] at H1
            have H1H := Lib.hid H1
            have G1 := Lib.hid g1
            clear H1 g1
            go_wp2_with fail
          · refine (Lost_ok c l h f now s (q + 1) (mid l h) k now _ H1H.out f0 hn hn2 (Int.le_refl _) (by omega) (by omega) (by omega) hlh.1 hlh.2 (by omega) (by omega) (by omega) (by omega)).mono ?_
            rintro e W2 ⟨rfl, H2, g2⟩
            have HE := Lib.hid (HL.out _ (gb_trans G1.out g2) hbm H2)
            clear H2 g2 HL HAk
            go_wp2
            go_roundw
            case rel => exact ⟨j + 1, by omega, by go_num, Lib.hid (.inr HE.out)⟩
            case measure => simp [intOf]; omega
          · refine (Acked_ok c l h f now s (q + 1) (mid l h) k now _ H1H.out f0 hn hn2 (Int.le_refl _) (by omega) (by omega) (by omega) (by omega) (by omega)).mono ?_
            rintro e W2 ⟨rfl, H2, g2⟩
            have HE := Lib.hid (HAk.out _ (gb_trans G1.out g2) (by omega) H2)
            clear H2 g2 HL HAk
            go_wp2
            go_roundw
            case rel => exact ⟨j + 1, by omega, by go_num, Lib.hid (.inr HE.out)⟩
            case measure => simp [intOf]; omega
    · exfalso
      rcases HJ.out with ⟨hj0, _⟩ | ⟨l, h, n, s, q, a, k, fuel, hR, hg, hjf, _⟩
      · omega
      · omega
end Go.Proofs.Ytjoejaclnijacaa.Ps
