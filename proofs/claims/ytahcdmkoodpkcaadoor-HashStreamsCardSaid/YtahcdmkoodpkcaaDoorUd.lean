/-
  Streams: the reference's; HashStreams' walk.
-/
import Derived.Test.YtahcdmkoodpkcaaDoorUc
namespace Go.Proofs.YtahcdmkoodpkcaaDoor.Hi
open Go Go.RowKit Go.Shelf Go.Proofs.YtahcdmkoodpkcaaDoor.Hh Go.Proofs.YtahcdmkoodpkcaaDoor.Sx

set_option maxRecDepth 1000000 in
set_option maxHeartbeats 4000000 in
theorem RStream_yes (s : ByteArray) (F C : Nat) (w : World) (hF : F ≤ 65536) (hC : C + F ≤ 65536) (hs : s.size ≤ 3000) :
    Calls Tryd.prog 7 #[.string s, .int .i64 (F : Int), .int .i64 (C : Int)] w fun e w' => e = .returned (.tuple #[.string (sgB s F C), .int .i64 0]) ∧ w.grownBy w' none := by
  have HD := Lib.hid (fun (k : Nat) (hk : k ≤ 5000) w => Decimal_all k (by omega) w)
  have HSm : Hid (∀ k : Nat, k ≤ 5000 → ∀ w, Calls Tryd.prog 33 #[.string (s ++ (⟨#[47]⟩ : ByteArray) ++ dec k)] w fun e w' => e = .returned (.string (pt s k)) ∧ Below w.heap.size w w') := Lib.hid (fun k hk w => by
    have hz := dec_size k (by omega)
    have := RSum_any (s ++ (⟨#[47]⟩ : ByteArray) ++ dec k) w (by rw [ByteArray.size_append, ByteArray.size_append]; show s.size + 1 + (dec k).size ≤ maxLen; unfold maxLen; omega)
    rwa [show Dg.sum (s ++ (⟨#[47]⟩ : ByteArray) ++ dec k).data.toList = pt s k from by unfold pt ptT; congr 1; simp [ByteArray.data_append, slash]] at this)
  have HDS := Lib.hid (fun (k : Nat) (hk : k ≤ 5000) => dec_size k (by omega))
  have d1 : decide ((F : Int) < 0) = false := by simp
  have d2 : decide ((C : Int) < 0) = false := by simp
  have d3 : decide ((65536 : Int) < (F : Int)) = false := by simp; omega
  have d4 : decide ((65536 : Int) - (F : Int) < (C : Int)) = false := by simp; omega
  obtain ⟨K0, hK0⟩ : ∃ K0, F / 32 = K0 := ⟨_, rfl⟩
  obtain ⟨S0, hS0⟩ : ∃ S0, F % 32 = S0 := ⟨_, rfl⟩
  have hq : (F : Int) / 32 = (K0 : Int) := by omega
  have hr : (F : Int) - (K0 : Int) * 32 = (S0 : Int) := by omega
  have hS32 : S0 < 32 := by omega
  have HFK := Lib.hid (show F = 32 * K0 + S0 by omega)
  have hK5 : K0 ≤ 2048 := by omega
  have hSC : S0 + C ≤ 65600 := by omega
  have hc1 : (⟨#[47]⟩ : ByteArray).size = 1 := rfl
  have hsz1 : (s ++ (⟨#[47]⟩ : ByteArray)).size = s.size + 1 := by rw [ByteArray.size_append, hc1]
  clear hK0 hS0
  go_enter Tryd.func7, Tryd.ntmps7
  go_wp2_with fail
  go_loopw [8, 9] (fun o j wr => ∃ m : Nat, m ≤ 2600 ∧ j = .int .i64 ((K0 + m : Nat) : Int) ∧ o = .string (sgB s (32 * K0) (32 * m)) ∧ (m = 0 ∨ 32 * (m - 1) < S0 + C) ∧ Hid (w.grownBy wr none)) (fun _ j _ => K0 + 2600 - (intOf j).toNat)
  case atStart => exact ⟨0, by omega, rfl, rfl, .inl rfl, Lib.hid (gb_refl _ _)⟩
  case round =>
    obtain ⟨m, hm, rfl, rfl, hm2, HG⟩ := hrel
    have hz := sgB_size s (32 * K0) (32 * m)
    by_cases hlt : 32 * m < S0 + C
    · have hm3 : m < 2600 := by omega
      have hadd : sgB s (32 * K0) (32 * m) ++ pt s (K0 + m) = sgB s (32 * K0) (32 * (m + 1)) := by
        rw [sgB_part, show 32 * (K0 + m) = 32 * K0 + 32 * m by omega, sgB_add, show 32 * m + 32 = 32 * (m + 1) by omega]
      have HAdd := Lib.hid hadd
      have hd := HD.out (K0 + m) (by omega)
      have hS := HSm.out (K0 + m) (by omega)
      have hds := HDS.out (K0 + m) (by omega)
      have hps := pt_size s (K0 + m)
      obtain ⟨o, ho⟩ : ∃ o, sgB s (32 * K0) (32 * m) = o := ⟨_, rfl⟩
      obtain ⟨x, hx⟩ : ∃ x, K0 + m = x := ⟨_, rfl⟩
      simp only [ho, hx] at hz hps hds HAdd hd hS ⊢
      obtain ⟨p, hp⟩ : ∃ p, pt s x = p := ⟨_, rfl⟩
      obtain ⟨d, hdd⟩ : ∃ d, dec x = d := ⟨_, rfl⟩
      simp only [hp, hdd] at hps hds HAdd hd hS
      have HDx := Lib.hid hd
      have HSx := Lib.hid hS
      have HX := Lib.hid hx
      have hz1 : (o.size : Int) < (S0 : Int) + (C : Int) := by omega
      have hz3 : (s ++ (⟨#[47]⟩ : ByteArray)).size + d.size ≤ 9223372036854775807 := by omega
      have hz4 : o.size + p.size ≤ 9223372036854775807 := by omega
      have hz5 : s.size + 1 ≤ 9223372036854775807 := by omega
      have hx5 : x ≤ 5000 := by omega
      have HLT := Lib.hid hlt
      have HZ := Lib.hid hz
      clear ho hp hdd hx hd hS hadd hz hlt
      go_wp2_with fail
      refine (HDx.out _).mono ?_
      rintro e w1 ⟨rfl, hb1⟩
      have HG1 := Lib.hid (gb_trans HG.out (gb_below hb1 none))
      clear hb1
      go_wp2_with fail
      refine (HSx.out _).mono ?_
      rintro e w2 ⟨rfl, hb1⟩
      have HG2 := Lib.hid (gb_trans HG1.out (gb_below hb1 none))
      clear hb1
      go_wp2_with fail
      exact ⟨⟨m + 1, by omega, by have := HX.out; first | (congr 1; omega) | (simp; omega), by rw [HAdd.out], .inr (by have := HLT.out; omega), HG2⟩, by have := HX.out; simp [intOf]; omega⟩
    · have hex : (sgB s (32 * K0) (32 * m)).extract S0 (S0 + C) = sgB s F C := by
        rw [sgB_ext _ _ _ _ _ (by omega) (by omega), HFK.out, show S0 + C - S0 = C by omega]
      have HEX := Lib.hid hex
      obtain ⟨o, ho⟩ : ∃ o, sgB s (32 * K0) (32 * m) = o := ⟨_, rfl⟩
      simp only [ho] at hz HEX ⊢
      have hz1 : (S0 : Int) + (C : Int) ≤ (o.size : Int) := by omega
      have hz2 : S0 + C ≤ o.size := by omega
      obtain ⟨x, hx⟩ : ∃ x, K0 + m = x := ⟨_, rfl⟩
      rw [hx]
      clear ho hex hz hx hlt
      go_wp2_with fail
      go_ret2
      exact ⟨by rw [← HEX.out] <;> rfl, HG.out⟩

set_option maxRecDepth 100000 in
set_option maxHeartbeats 1600000 in
theorem RStream_no (s : ByteArray) (F C : Int) (w : World) (h : badS F C) :
    Calls Tryd.prog 7 #[.string s, .int .i64 F, .int .i64 C] w fun e w' => e = .returned (.tuple #[.string ⟨#[]⟩, .int .i64 7]) ∧ w.grownBy w' none := by
  have h4 : (F < 0) ∨ (0 ≤ F ∧ C < 0) ∨ (0 ≤ F ∧ 0 ≤ C ∧ 65536 < F) ∨ (0 ≤ F ∧ 0 ≤ C ∧ F ≤ 65536 ∧ 65536 - F < C) := by unfold badS at h; omega
  clear h
  rcases h4 with h | h | h | h
  · have d1 : decide (F < 0) = true := by simp; omega
    clear h
    go_enter Tryd.func7, Tryd.ntmps7
    go_wp2
    go_ret2
    exact ⟨rfl, gb_refl _ _⟩
  · have d1 : decide (F < 0) = false := by simp; omega
    have d2 : decide (C < 0) = true := by simp; omega
    clear h
    go_enter Tryd.func7, Tryd.ntmps7
    go_wp2
    go_ret2
    exact ⟨rfl, gb_refl _ _⟩
  · have d1 : decide (F < 0) = false := by simp; omega
    have d2 : decide (C < 0) = false := by simp; omega
    have d3 : decide (65536 < F) = true := by simp; omega
    clear h
    go_enter Tryd.func7, Tryd.ntmps7
    go_wp2
    go_ret2
    exact ⟨rfl, gb_refl _ _⟩
  · have d1 : decide (F < 0) = false := by simp; omega
    have d2 : decide (C < 0) = false := by simp; omega
    have d3 : decide (65536 < F) = false := by simp; omega
    have d4 : decide (65536 - F < C) = true := by simp; omega
    have f0 : 0 ≤ F := by omega
    have f1 : F ≤ 65536 := by omega
    clear h
    go_enter Tryd.func7, Tryd.ntmps7
    go_wp2
    go_ret2
    exact ⟨rfl, gb_refl _ _⟩
theorem RStream_any (s : ByteArray) (F C : Int) (w : World) (hs : s.size ≤ 3000) :
    Calls Tryd.prog 7 #[.string s, .int .i64 F, .int .i64 C] w fun e w' => e = .returned (.tuple #[.string (stS s F C), .int .i64 (stE F C)]) ∧ w.grownBy w' none := by
  by_cases h : badS F C
  · rw [show stS s F C = ⟨#[]⟩ from if_pos h, show stE F C = 7 from if_pos h]
    exact RStream_no s F C w h
  · rw [show stS s F C = sgB s F.toNat C.toNat from if_neg h, show stE F C = 0 from if_neg h]
    unfold badS at h
    obtain ⟨f, rfl⟩ : ∃ f : Nat, F = f := ⟨F.toNat, by omega⟩
    obtain ⟨c, rfl⟩ : ∃ c : Nat, C = c := ⟨C.toNat, by omega⟩
    rw [Int.toNat_natCast, Int.toNat_natCast]
    exact RStream_yes s f c w (by omega) (by omega) hs
theorem st_cut {F C X : Int} (s : ByteArray) (h : stE F C = 0) (h0 : 0 ≤ X) (h1 : X ≤ C) : stE F X = 0 ∧ stE (F + X) (C - X) = 0 ∧ stS s F X ++ stS s (F + X) (C - X) = stS s F C ∧ 0 ≤ F ∧ F ≤ 65536 ∧ C ≤ 65536 := by
  have hb : ¬ badS F C := by
    unfold stE at h
    split at h
    · omega
    · assumption
  have hb' := hb
  unfold badS at hb'
  have b1 : ¬ badS F X := by unfold badS; omega
  have b2 : ¬ badS (F + X) (C - X) := by unfold badS; omega
  refine ⟨if_neg b1, if_neg b2, ?_, by omega, by omega, by omega⟩
  unfold stS
  rw [if_neg b1, if_neg b2, if_neg hb, show (F + X).toNat = F.toNat + X.toNat by omega, sgB_add, show X.toNat + (C - X).toNat = C.toNat by omega]
theorem stS_size {F C : Int} (s : ByteArray) : (stS s F C).size ≤ 65536 := by
  unfold stS
  split
  · exact Nat.zero_le _
  · rename_i h
    unfold badS at h
    rw [sgB_size]; omega

set_option maxRecDepth 1000000 in
set_option maxHeartbeats 4000000 in
theorem streams_walk (s : ByteArray) (F C X : Int) (w : World) (hs0 : s.size ≤ 140737488351232) (ht : Tab w) :
    Calls Tryd.prog 3 #[.string s, .int .i64 F, .int .i64 C, .int .i64 X] w fun e w' => e = .returned (.bool true) ∧ Below w.heap.size w w' := by
  suffices H : Calls Tryd.prog 3 #[.string s, .int .i64 F, .int .i64 C, .int .i64 X] w fun e w' => e = .returned (.bool true) ∧ w.grownBy w' none from H.mono fun e w' h => ⟨h.1, below_gb h.2⟩
  have HA : Hid (∀ w', Calls Tryd.prog 5 #[] w' fun e w2 => e = .returned (.bool true) ∧ w'.grownBy w2 none) := Lib.hid (fun w' => (awake_any w').mono fun e w2 h => ⟨h.1, gb_below h.2 none⟩)
  have HT := Lib.hid ht
  clear ht
  by_cases h1 : 300 < s.size
  · have h1' : (300 : Int) < (s.size : Int) := by omega
    go_enter Tryd.func3, Tryd.ntmps3
    go_wp2_with fail
    refine (HA.out _).mono ?_
    rintro e w1 ⟨rfl, hg⟩
    go_wp2
    go_ret
    exact ⟨rfl, hg⟩
  · have h1' : (s.size : Int) ≤ 300 := by omega
    by_cases h2 : 2000 < C ∧ 0 ≤ F ∧ C ≤ 65536
    · have d1 : decide (2000 < C) = true := by simp; omega
      have d2 : decide (0 ≤ F) = true := by simp; omega
      have d3 : decide (C ≤ 65536) = true := by simp; omega
      clear h2
      go_enter Tryd.func3, Tryd.ntmps3
      go_wp2_with fail
      refine (HA.out _).mono ?_
      rintro e w1 ⟨rfl, hg⟩
      go_wp2
      go_ret
      exact ⟨rfl, hg⟩
    · have HSt := Lib.hid (fun w ht => Stream_any s F C w (by omega) ht)
      have HRS := Lib.hid (fun w => RStream_any s F C w (by omega))
      have HX1 := Lib.hid (fun w ht => Stream_any s F X w (by omega) ht)
      have HX2 := Lib.hid (fun w ht => Stream_any s (F + X) (C - X) w (by omega) ht)
      have hcut := fun h h0 h1 => st_cut (F := F) (C := C) (X := X) s h h0 h1
      have hz1 := stS_size (F := F) (C := X) s
      have hz2 := stS_size (F := F + X) (C := C - X) s
      have hE : stE F C = 0 ∨ stE F C = 7 := by unfold stE; split <;> simp
      have hguard : (decide (2000 < C) && decide (0 ≤ F) && decide (C ≤ 65536)) = false := by
        rw [Bool.eq_false_iff]; intro h; simp at h; omega
      obtain ⟨v1, e1⟩ : ∃ v, stS s F C = v := ⟨_, rfl⟩
      obtain ⟨v2, e2⟩ : ∃ v, stE F C = v := ⟨_, rfl⟩
      obtain ⟨v3, e3⟩ : ∃ v, stS s F X = v := ⟨_, rfl⟩
      obtain ⟨v4, e4⟩ : ∃ v, stS s (F + X) (C - X) = v := ⟨_, rfl⟩
      obtain ⟨v5, e5⟩ : ∃ v, stE F X = v := ⟨_, rfl⟩
      obtain ⟨v6, e6⟩ : ∃ v, stE (F + X) (C - X) = v := ⟨_, rfl⟩
      simp only [e1, e2, e3, e4, e5, e6] at HSt HRS HX1 HX2 hcut hz1 hz2 hE
      have HCut := Lib.hid hcut
      have HG := Lib.hid h2
      clear e1 e2 e3 e4 e5 e6 hcut h2
      have three : (¬ 2000 < C) ∨ (2000 < C ∧ F < 0) ∨ (2000 < C ∧ 0 ≤ F ∧ 65536 < C) := by have := HG.out; omega
      rcases three with h | h | h
      · have d1 : decide (2000 < C) = false := by simp; omega
        clear h
        rcases hE with rfl | rfl
        · by_cases hx : 0 ≤ X ∧ X ≤ C
          · obtain ⟨c1, c2, c3, c4, c5, c6⟩ := HCut.out rfl hx.1 hx.2
            have x0 : 0 ≤ X := hx.1
            have x1 : X ≤ C := hx.2
            have dx0 : decide (0 ≤ X) = true := by simp; omega
            have dx1 : decide (X ≤ C) = true := by simp; omega
            have hzc : v3.size + v4.size ≤ 9223372036854775807 := by omega
            subst c1 c2 c3
            clear hx HCut HG hguard
            go_enter Tryd.func3, Tryd.ntmps3
            go_wp2_with fail
            refine (HSt.out _ HT.out).mono ?_
            rintro e w1 ⟨rfl, g1⟩
            have G1 := Lib.hid g1
            clear g1
            go_wp2_with fail
            refine (HRS.out _).mono ?_
            rintro e w2 ⟨rfl, g2⟩
            have G2 := Lib.hid (gb_trans G1.out g2)
            clear g2 G1
            go_wp2_with fail
            refine (HX1.out _ (tab_gb HT.out G2.out)).mono ?_
            rintro e w3 ⟨rfl, g2⟩
            have G3 := Lib.hid (gb_trans G2.out g2)
            clear g2 G2
            go_wp2_with fail
            refine (HX2.out _ (tab_gb HT.out G3.out)).mono ?_
            rintro e w4 ⟨rfl, g2⟩
            have G2 := Lib.hid (gb_trans G3.out g2)
            clear g2 G3
            go_wp2_with fail
            refine (HA.out _).mono ?_
            rintro e w9 ⟨rfl, g2⟩
            have G9 := Lib.hid (gb_trans G2.out g2)
            clear g2 G2
            go_wp2
            go_ret
            exact ⟨rfl, G9.out⟩
          · by_cases hx0 : 0 ≤ X
            · have dx0 : decide (0 ≤ X) = true := by simp; omega
              have dx1 : decide (X ≤ C) = false := by simp; omega
              clear hx HCut HG hguard
              go_enter Tryd.func3, Tryd.ntmps3
              go_wp2_with fail
              refine (HSt.out _ HT.out).mono ?_
              rintro e w1 ⟨rfl, g1⟩
              have G1 := Lib.hid g1
              clear g1
              go_wp2_with fail
              refine (HRS.out _).mono ?_
              rintro e w2 ⟨rfl, g2⟩
              have G2 := Lib.hid (gb_trans G1.out g2)
              clear g2 G1
              go_wp2_with fail
              refine (HA.out _).mono ?_
              rintro e w9 ⟨rfl, g2⟩
              have G9 := Lib.hid (gb_trans G2.out g2)
              clear g2 G2
              go_wp2
              go_ret
              exact ⟨rfl, G9.out⟩
            · have dx0 : decide (0 ≤ X) = false := by simp; omega
              clear hx HCut HG hguard
              go_enter Tryd.func3, Tryd.ntmps3
              go_wp2_with fail
              refine (HSt.out _ HT.out).mono ?_
              rintro e w1 ⟨rfl, g1⟩
              have G1 := Lib.hid g1
              clear g1
              go_wp2_with fail
              refine (HRS.out _).mono ?_
              rintro e w2 ⟨rfl, g2⟩
              have G2 := Lib.hid (gb_trans G1.out g2)
              clear g2 G1
              go_wp2_with fail
              refine (HA.out _).mono ?_
              rintro e w9 ⟨rfl, g2⟩
              have G9 := Lib.hid (gb_trans G2.out g2)
              clear g2 G2
              go_wp2
              go_ret
              exact ⟨rfl, G9.out⟩
        · clear HCut HG hguard
          go_enter Tryd.func3, Tryd.ntmps3
          go_wp2_with fail
          refine (HSt.out _ HT.out).mono ?_
          rintro e w1 ⟨rfl, g1⟩
          have G1 := Lib.hid g1
          clear g1
          go_wp2_with fail
          refine (HRS.out _).mono ?_
          rintro e w2 ⟨rfl, g2⟩
          have G2 := Lib.hid (gb_trans G1.out g2)
          clear g2 G1
          go_wp2_with fail
          refine (HA.out _).mono ?_
          rintro e w9 ⟨rfl, g2⟩
          have G9 := Lib.hid (gb_trans G2.out g2)
          clear g2 G2
          go_wp2
          go_ret
          exact ⟨rfl, G9.out⟩
      · have d1 : decide (2000 < C) = true := by simp; omega
        have d2 : decide (0 ≤ F) = false := by simp; omega
        clear h
        rcases hE with rfl | rfl
        · by_cases hx : 0 ≤ X ∧ X ≤ C
          · obtain ⟨c1, c2, c3, c4, c5, c6⟩ := HCut.out rfl hx.1 hx.2
            simp at d2; omega
          · by_cases hx0 : 0 ≤ X
            · have dx0 : decide (0 ≤ X) = true := by simp; omega
              have dx1 : decide (X ≤ C) = false := by simp; omega
              clear hx HCut HG hguard
              go_enter Tryd.func3, Tryd.ntmps3
              go_wp2_with fail
              refine (HSt.out _ HT.out).mono ?_
              rintro e w1 ⟨rfl, g1⟩
              have G1 := Lib.hid g1
              clear g1
              go_wp2_with fail
              refine (HRS.out _).mono ?_
              rintro e w2 ⟨rfl, g2⟩
              have G2 := Lib.hid (gb_trans G1.out g2)
              clear g2 G1
              go_wp2_with fail
              refine (HA.out _).mono ?_
              rintro e w9 ⟨rfl, g2⟩
              have G9 := Lib.hid (gb_trans G2.out g2)
              clear g2 G2
              go_wp2
              go_ret
              exact ⟨rfl, G9.out⟩
            · have dx0 : decide (0 ≤ X) = false := by simp; omega
              clear hx HCut HG hguard
              go_enter Tryd.func3, Tryd.ntmps3
              go_wp2_with fail
              refine (HSt.out _ HT.out).mono ?_
              rintro e w1 ⟨rfl, g1⟩
              have G1 := Lib.hid g1
              clear g1
              go_wp2_with fail
              refine (HRS.out _).mono ?_
              rintro e w2 ⟨rfl, g2⟩
              have G2 := Lib.hid (gb_trans G1.out g2)
              clear g2 G1
              go_wp2_with fail
              refine (HA.out _).mono ?_
              rintro e w9 ⟨rfl, g2⟩
              have G9 := Lib.hid (gb_trans G2.out g2)
              clear g2 G2
              go_wp2
              go_ret
              exact ⟨rfl, G9.out⟩
        · clear HCut HG hguard
          go_enter Tryd.func3, Tryd.ntmps3
          go_wp2_with fail
          refine (HSt.out _ HT.out).mono ?_
          rintro e w1 ⟨rfl, g1⟩
          have G1 := Lib.hid g1
          clear g1
          go_wp2_with fail
          refine (HRS.out _).mono ?_
          rintro e w2 ⟨rfl, g2⟩
          have G2 := Lib.hid (gb_trans G1.out g2)
          clear g2 G1
          go_wp2_with fail
          refine (HA.out _).mono ?_
          rintro e w9 ⟨rfl, g2⟩
          have G9 := Lib.hid (gb_trans G2.out g2)
          clear g2 G2
          go_wp2
          go_ret
          exact ⟨rfl, G9.out⟩
      · have d1 : decide (2000 < C) = true := by simp; omega
        have d2 : decide (0 ≤ F) = true := by simp; omega
        have d3 : decide (C ≤ 65536) = false := by simp; omega
        clear h
        rcases hE with rfl | rfl
        · by_cases hx : 0 ≤ X ∧ X ≤ C
          · obtain ⟨c1, c2, c3, c4, c5, c6⟩ := HCut.out rfl hx.1 hx.2
            simp at d3; omega
          · by_cases hx0 : 0 ≤ X
            · have dx0 : decide (0 ≤ X) = true := by simp; omega
              have dx1 : decide (X ≤ C) = false := by simp; omega
              clear hx HCut HG hguard
              go_enter Tryd.func3, Tryd.ntmps3
              go_wp2_with fail
              refine (HSt.out _ HT.out).mono ?_
              rintro e w1 ⟨rfl, g1⟩
              have G1 := Lib.hid g1
              clear g1
              go_wp2_with fail
              refine (HRS.out _).mono ?_
              rintro e w2 ⟨rfl, g2⟩
              have G2 := Lib.hid (gb_trans G1.out g2)
              clear g2 G1
              go_wp2_with fail
              refine (HA.out _).mono ?_
              rintro e w9 ⟨rfl, g2⟩
              have G9 := Lib.hid (gb_trans G2.out g2)
              clear g2 G2
              go_wp2
              go_ret
              exact ⟨rfl, G9.out⟩
            · have dx0 : decide (0 ≤ X) = false := by simp; omega
              clear hx HCut HG hguard
              go_enter Tryd.func3, Tryd.ntmps3
              go_wp2_with fail
              refine (HSt.out _ HT.out).mono ?_
              rintro e w1 ⟨rfl, g1⟩
              have G1 := Lib.hid g1
              clear g1
              go_wp2_with fail
              refine (HRS.out _).mono ?_
              rintro e w2 ⟨rfl, g2⟩
              have G2 := Lib.hid (gb_trans G1.out g2)
              clear g2 G1
              go_wp2_with fail
              refine (HA.out _).mono ?_
              rintro e w9 ⟨rfl, g2⟩
              have G9 := Lib.hid (gb_trans G2.out g2)
              clear g2 G2
              go_wp2
              go_ret
              exact ⟨rfl, G9.out⟩
        · clear HCut HG hguard
          go_enter Tryd.func3, Tryd.ntmps3
          go_wp2_with fail
          refine (HSt.out _ HT.out).mono ?_
          rintro e w1 ⟨rfl, g1⟩
          have G1 := Lib.hid g1
          clear g1
          go_wp2_with fail
          refine (HRS.out _).mono ?_
          rintro e w2 ⟨rfl, g2⟩
          have G2 := Lib.hid (gb_trans G1.out g2)
          clear g2 G1
          go_wp2_with fail
          refine (HA.out _).mono ?_
          rintro e w9 ⟨rfl, g2⟩
          have G9 := Lib.hid (gb_trans G2.out g2)
          clear g2 G2
          go_wp2
          go_ret
          exact ⟨rfl, G9.out⟩
end Go.Proofs.YtahcdmkoodpkcaaDoor.Hi
