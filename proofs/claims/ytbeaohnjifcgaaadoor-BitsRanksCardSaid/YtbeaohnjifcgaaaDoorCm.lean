/-
  Fields of bits: BitsRanks' walk.
-/
import Derived.Test.YtbeaohnjifcgaaaDoorCk
import Derived.Test.YtbeaohnjifcgaaaDoorCj
namespace Go.Proofs.YtbeaohnjifcgaaaDoor.Bh
open Go Go.RowKit Go.Shelf Go.Proofs.YtbeaohnjifcgaaaDoor.Sx Go.Proofs.YtbeaohnjifcgaaaDoor.Na Go.Proofs.YtbeaohnjifcgaaaDoor.Ba

theorem nbl_at (β : Nat → Bool) : ∀ (N k : Nat), k < (nbl β N).length → ∃ j : Nat, j < N ∧ β j = true ∧ cnt β j = k ∧ (nbl β N).getD k 0 = (j : Int) := by
  intro N
  induction N with
  | zero => intro k h; simp [nbl] at h
  | succ N ih =>
    intro k h
    cases hb : β N
    · rw [nbl_f hb] at h ⊢
      obtain ⟨j, h1, h2⟩ := ih k h
      exact ⟨j, by omega, h2⟩
    · rw [nbl_t hb] at h ⊢
      by_cases hk : k < (nbl β N).length
      · obtain ⟨j, h1, h2, h3, h4⟩ := ih k hk
        refine ⟨j, by omega, h2, h3, ?_⟩
        rw [← h4]
        simp [List.getD, List.getElem?_append_left hk]
      · have e : k = (nbl β N).length := by rw [List.length_append] at h; simp at h; omega
        refine ⟨N, by omega, hb, e.symm, ?_⟩
        rw [e]
        simp [List.getD]
theorem rk_at {n : Int} {s : ByteArray} (hc : chk n s = 0) {k : Nat} (hk : k < (liL n s).length) : rkV n s ((liL n s).getD k 0) = k ∧ rkE n s ((liL n s).getD k 0) = 0 ∧ slV n s k = (liL n s).getD k 0 ∧ slE n s k = 0 := by
  obtain ⟨N, rfl, h1, _⟩ := vd_t (chk_t hc)
  have eL : liL N s = nbl (bt s) N := by rw [liL, if_pos hc, Int.toNat_natCast]
  rw [eL] at hk ⊢
  obtain ⟨j, j1, j2, j3, j4⟩ := nbl_at (bt s) N k hk
  have e1 : rkE N s j = 0 := by unfold rkE; rw [if_pos hc, if_neg (by omega)]
  have e2 : slE N s k = 0 := by unfold slE; rw [if_pos hc, if_neg (by omega), Int.toNat_natCast, if_neg (by unfold cnt; omega)]
  rw [j4]
  refine ⟨by unfold rkV; rw [if_pos e1, Int.toNat_natCast, j3], e1, ?_, e2⟩
  unfold slV
  rw [if_pos e2, Int.toNat_natCast, Int.toNat_natCast, j4]
theorem rk_all {n : Int} {s : ByteArray} (hc : chk n s = 0) : rkV n s n = ((liL n s).length : Int) ∧ rkE n s n = 0 := by
  obtain ⟨N, rfl, h1, _⟩ := vd_t (chk_t hc)
  have e1 : rkE N s N = 0 := by unfold rkE; rw [if_pos hc, if_neg (by omega)]
  refine ⟨?_, e1⟩
  unfold rkV
  rw [if_pos e1, Int.toNat_natCast, liL, if_pos hc, Int.toNat_natCast]
  rfl

set_option maxRecDepth 1000000 in
set_option maxHeartbeats 4000000 in
theorem ranks_walk (n : Int) (s : ByteArray) (i : Int) (w : World) (hi : i ≤ 9223372036854775807) (hs : s.size ≤ 140737488351232) (ht : Hh.Tab w) :
    Calls Tryd.prog 7 #[.int .i64 n, .string s, .int .i64 i] w fun e w' => e = .returned (.bool true) ∧ Below w.heap.size w w' := by
  suffices H : Calls Tryd.prog 7 #[.int .i64 n, .string s, .int .i64 i] w fun e w' => e = .returned (.bool true) ∧ w.grownBy w' none from H.mono fun e w' h => ⟨h.1, below_of h.2⟩
  have HA : Hid (∀ w', w.grownBy w' none → Calls Tryd.prog 11 #[] w' fun e w2 => e = .returned (.bool true) ∧ w'.grownBy w2 none) := Lib.hid (fun w' hg => awake_any w' (ht.below (below_of hg)))
  clear ht
  cases hl : lgt n s
  · have HL := Lib.hid (fun w => Light_w n s w _ hl)
    clear hl hi
    go_enter Tryd.func7, Tryd.ntmps7
    go_wp2_with fail
    refine (HL.out _).mono ?_
    rintro e w1 ⟨rfl, rfl⟩
    go_wp2_with fail
    refine (HA.out _ (gb_refl _ _)).mono ?_
    rintro e w1 ⟨rfl, hg⟩
    go_wp2
    go_ret
    exact ⟨rfl, hg⟩
  · have HL := Lib.hid (fun w => Light_w n s w _ hl)
    have HR := Lib.hid (fun w => Rank_any n s i w hs)
    have HRr := Lib.hid (fun w => RRank_any n s i w hs)
    have HS := Lib.hid (fun w => Select_any n s i w hs hi)
    have HSr := Lib.hid (fun w => RSelect_any n s i w hs)
    have HLi := Lib.hid (fun w => List_any n s w hs)
    have HR0 : Hid (chk n s = 0 → ∀ w, Calls Tryd.prog 38 #[.int .i64 n, .string s, .int .i64 n] w fun e w' => e = .returned (.tuple #[.int .i64 ((liL n s).length : Int), .int .i64 0]) ∧ w.grownBy w' none) := Lib.hid (fun hc w => by
      have := Rank_any n s n w hs
      rwa [(rk_all hc).1, (rk_all hc).2] at this)
    have HRk : Hid (chk n s = 0 → ∀ k, k < (liL n s).length → ∀ w, Calls Tryd.prog 38 #[.int .i64 n, .string s, .int .i64 ((liL n s).getD k 0)] w fun e w' => e = .returned (.tuple #[.int .i64 (k : Int), .int .i64 0]) ∧ w.grownBy w' none) := Lib.hid (fun hc k hk w => by
      have := Rank_any n s ((liL n s).getD k 0) w hs
      rwa [(rk_at hc hk).1, (rk_at hc hk).2.1] at this)
    have HSk : Hid (chk n s = 0 → ∀ k : Nat, k < (liL n s).length → ∀ w, Calls Tryd.prog 40 #[.int .i64 n, .string s, .int .i64 (k : Int)] w fun e w' => e = .returned (.tuple #[.int .i64 ((liL n s).getD k 0), .int .i64 0]) ∧ w.grownBy w' none) := Lib.hid (fun hc k hk w => by
      have := Select_any n s k w hs (by have := liL_len hc; omega)
      rwa [(rk_at hc hk).2.2.1, (rk_at hc hk).2.2.2] at this)
    have hll : chk n s = 0 → (liL n s).length ≤ 4096 := fun h => liL_len h
    obtain ⟨v1, e1⟩ : ∃ v, rkV n s i = v := ⟨_, rfl⟩
    obtain ⟨v2, e2⟩ : ∃ v, rkE n s i = v := ⟨_, rfl⟩
    obtain ⟨v3, e3⟩ : ∃ v, slV n s i = v := ⟨_, rfl⟩
    obtain ⟨v4, e4⟩ : ∃ v, slE n s i = v := ⟨_, rfl⟩
    obtain ⟨l, e5⟩ : ∃ v, liL n s = v := ⟨_, rfl⟩
    obtain ⟨v6, e6⟩ : ∃ v, chk n s = v := ⟨_, rfl⟩
    simp only [e1, e2, e3, e4, e5, e6] at HR HRr HS HSr HLi HR0 HRk HSk hll
    clear e1 e2 e3 e4 e5 e6 hl hs hi
    have HLL := Lib.hid hll
    clear hll
    go_enter Tryd.func7, Tryd.ntmps7
    go_wp2_with fail
    refine (HL.out _).mono ?_
    rintro e w1 ⟨rfl, rfl⟩
    go_wp2_with fail
    refine (HR.out _).mono ?_
    rintro e w1 ⟨rfl, g1⟩
    have G1 := Lib.hid g1
    clear g1
    go_wp2_with fail
    refine (HRr.out _).mono ?_
    rintro e w2 ⟨rfl, g2⟩
    have G2 := Lib.hid (gb_trans G1.out g2)
    clear g2 G1
    go_wp2_with fail
    refine (HS.out _).mono ?_
    rintro e w3 ⟨rfl, g2⟩
    have G3 := Lib.hid (gb_trans G2.out g2)
    clear g2 G2
    go_wp2_with fail
    refine (HSr.out _).mono ?_
    rintro e w4 ⟨rfl, g2⟩
    have G4 := Lib.hid (gb_trans G3.out g2)
    clear g2 G3
    go_wp2_with fail
    refine (HLi.out _).mono ?_
    rintro e w5 ⟨a, len, cap, rfl, ho, g2⟩
    have G5 := Lib.hid (gb_trans G4.out g2)
    clear g2 G4
    obtain ⟨a', cap', e0, hil⟩ := OR.il ho
    obtain ⟨rfl, rfl, rfl⟩ : a = a' ∧ len = l.length ∧ cap = cap' := by cases e0; exact ⟨rfl, rfl, rfl⟩
    have HI := Lib.hid hil
    clear ho hil e0
    obtain ⟨len, hlen⟩ : ∃ len, l.length = len := ⟨_, rfl⟩
    have HLN := Lib.hid hlen
    simp only [hlen] at HR0 HRk HSk HLL ⊢
    clear hlen
    by_cases he : v6 = 0
    · subst he
      have hll := HLL.out rfl
      by_cases h2 : 200 < n
      · have d2 : decide (200 < n) = true := by simpa using h2
        clear HR0 HRk HSk HI
        go_wp2_with fail
        refine (HA.out _ G5.out).mono ?_
        rintro e w9 ⟨rfl, g2⟩
        have G9 := Lib.hid (gb_trans G5.out g2)
        clear g2 G5
        go_wp2
        go_ret
        exact ⟨rfl, G9.out⟩
      · have d2 : decide (200 < n) = false := by simpa using h2
        have HR0' := Lib.hid (HR0.out rfl)
        have HRk' := Lib.hid (HRk.out rfl)
        have HSk' := Lib.hid (HSk.out rfl)
        clear HR0 HRk HSk
        go_wp2_with fail
        go_loopw [17, 18, 19, 20, 21, 89] (fun _ _ _ _ _ j wr => ∃ k : Nat, k ≤ len ∧ j = .int .i64 k ∧ Hid (w5.grownBy wr none)) (fun _ _ _ _ _ j _ => len - (intOf j).toNat)
        case atStart => exact ⟨0, Nat.zero_le _, rfl, Lib.hid (gb_refl _ _)⟩
        case round =>
          obtain ⟨k, hk, rfl, HG⟩ := hrel
          by_cases hlt : k < len
          · have hlt' : (k : Int) < (len : Int) := by omega
            obtain ⟨zb, off, rfl, hzc⟩ := HI.out (by rw [HLN.out]; omega)
            have cz := gb_cell HG.out (hzc k (by rw [HLN.out]; exact hlt)) (by simp)
            have HR1 := Lib.hid (HRk'.out k hlt)
            have HS1 := Lib.hid (HSk'.out k hlt)
            clear hzc
            obtain ⟨z, hz⟩ : ∃ z, l.getD k 0 = z := ⟨_, rfl⟩
            simp only [hz] at cz HR1 HS1
            clear hz
            go_wp2_with fail
            refine (HR1.out _).mono ?_
            rintro e w6 ⟨rfl, g2⟩
            have G6 := Lib.hid (gb_trans HG.out g2)
            clear g2
            go_wp2_with fail
            refine (HS1.out _).mono ?_
            rintro e w7 ⟨rfl, g2⟩
            have G7 := Lib.hid (gb_trans G6.out g2)
            clear g2 G6
            go_wp2_with fail
            go_roundw
            case rel => exact ⟨k + 1, by omega, by go_num, G7⟩
            case measure => simp [intOf]; omega
          · obtain rfl : k = len := by omega
            go_wp2_with fail
            refine (HR0'.out _).mono ?_
            rintro e w6 ⟨rfl, g2⟩
            have G6 := Lib.hid (gb_trans (gb_trans G5.out HG.out) g2)
            clear g2
            go_wp2_with fail
            refine (HA.out _ G6.out).mono ?_
            rintro e w9 ⟨rfl, g2⟩
            have G9 := Lib.hid (gb_trans G6.out g2)
            clear g2
            go_wp2
            go_ret
            exact ⟨rfl, G9.out⟩
    · have d0 : (v6 != 0) = true := by simpa using he
      clear HR0 HRk HSk HI
      go_wp2_with fail
      refine (HA.out _ G5.out).mono ?_
      rintro e w9 ⟨rfl, g2⟩
      have G9 := Lib.hid (gb_trans G5.out g2)
      clear g2 G5
      go_wp2
      go_ret
      exact ⟨rfl, G9.out⟩
end Go.Proofs.YtbeaohnjifcgaaaDoor.Bh
