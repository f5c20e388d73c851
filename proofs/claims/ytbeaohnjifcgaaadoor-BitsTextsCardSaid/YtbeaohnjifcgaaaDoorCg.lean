/-
  Fields of bits: the reference's Rank and Select.
-/
import Derived.Test.YtbeaohnjifcgaaaDoorCf
namespace Go.Proofs.YtbeaohnjifcgaaaDoor.Bh
open Go Go.RowKit Go.Shelf Go.Proofs.YtbeaohnjifcgaaaDoor.Sx Go.Proofs.YtbeaohnjifcgaaaDoor.Na Go.Proofs.YtbeaohnjifcgaaaDoor.Ba

theorem liL_len {n : Int} {s : ByteArray} (hc : chk n s = 0) : (liL n s).length ≤ 4096 := by
  rw [liL, if_pos hc]
  obtain ⟨N, rfl, h1, _⟩ := vd_t (chk_t hc)
  have := nbl_len (bt s) N
  rw [Int.toNat_natCast]; omega

set_option maxRecDepth 100000 in
set_option maxHeartbeats 1600000 in
theorem RRank_any (n : Int) (s : ByteArray) (f : Int) (w : World) (hs : s.size ≤ 140737488351232) :
    Calls Tryd.prog 39 #[.int .i64 n, .string s, .int .i64 f] w fun e w' => e = .returned (.tuple #[.int .i64 (rkV n s f), .int .i64 (rkE n s f)]) ∧ w.grownBy w' none := by
  have HL := Lib.hid (RList_any n s w hs)
  by_cases hc : chk n s = 0
  · by_cases hf : f < 0 ∨ n < f
    · have e0 : rkE n s f = 7 := by unfold rkE; rw [if_pos hc, if_pos hf]
      rw [show rkV n s f = 0 from if_neg (by rw [e0]; decide), e0]
      rw [hc] at HL
      by_cases h1 : f < 0
      · have d1 : decide (f < 0) = true := by simpa using h1
        clear hf hc e0
        go_enter Tryd.func39, Tryd.ntmps39
        go_wp2_with fail
        refine HL.out.mono ?_
        rintro e w1 ⟨v, rfl, ho, hb⟩
        go_wp2
        go_ret2
        exact ⟨rfl, gb_below hb none⟩
      · have d1 : decide (f < 0) = false := by simpa using h1
        have d2 : decide (n < f) = true := by simp; omega
        clear hf hc e0
        go_enter Tryd.func39, Tryd.ntmps39
        go_wp2_with fail
        refine HL.out.mono ?_
        rintro e w1 ⟨v, rfl, ho, hb⟩
        go_wp2
        go_ret2
        exact ⟨rfl, gb_below hb none⟩
    · have e0 : rkE n s f = 0 := by unfold rkE; rw [if_pos hc, if_neg hf]
      obtain ⟨N, rfl, hN, _⟩ := vd_t (chk_t hc)
      obtain ⟨I, rfl⟩ : ∃ I : Nat, f = I := ⟨f.toNat, by omega⟩
      have hV : rkV N s I = (rkL I (liL N s) : Int) := by
        unfold rkV
        rw [if_pos e0, Int.toNat_natCast, liL, if_pos hc, Int.toNat_natCast, rkL_nbl _ _ _ (by omega)]
      rw [hV, e0]
      have hll := liL_len hc
      rw [hc] at HL
      obtain ⟨l, hl⟩ : ∃ l, liL N s = l := ⟨_, rfl⟩
      rw [hl] at hll HL ⊢
      obtain ⟨r, hr⟩ : ∃ r, rkL I l = r := ⟨_, rfl⟩
      have HR := Lib.hid hr
      rw [hr]
      have d1 : decide ((I : Int) < 0) = false := by simp
      have d2 : decide (N < I) = false := by simp; omega
      clear hf hc hl hr hV e0
      go_enter Tryd.func39, Tryd.ntmps39
      go_wp2_with fail
      refine HL.out.mono ?_
      rintro e w1 ⟨v, rfl, ho, hb⟩
      obtain ⟨a, cap, rfl, hil⟩ := OR.il ho
      have HI := Lib.hid hil
      have HB := Lib.hid hb
      clear ho hb hil HL
      obtain ⟨len, hlen⟩ : ∃ len, l.length = len := ⟨_, rfl⟩
      have HLN := Lib.hid hlen
      rw [hlen] at hll ⊢
      clear hlen
      go_wp2_with fail
      go_loop [10, 12, 31] (fun c _ i => ∃ k j : Nat, k ≤ len ∧ j ≤ k ∧ i = .int .i64 k ∧ c = .int .i64 j ∧ Hid (rkL I (l.take k) = j)) (fun _ _ i => len - (intOf i).toNat)
      case atStart => exact ⟨0, 0, Nat.zero_le _, Nat.zero_le _, rfl, rfl, Lib.hid (by simp [rkL])⟩
      case round =>
        obtain ⟨k, j, hk, hj, rfl, rfl, HRk⟩ := hrel
        by_cases hlt : k < len
        · have hlt' : (k : Int) < (len : Int) := by omega
          obtain ⟨zb, off, rfl, hzc⟩ := HI.out (by rw [HLN.out]; omega)
          have cz := hzc k (by rw [HLN.out]; exact hlt)
          have hrk := rkL_take I l k (by rw [HLN.out]; exact hlt)
          rw [HRk.out] at hrk
          clear hzc
          obtain ⟨i, hi⟩ : ∃ i, l.getD k 0 = i := ⟨_, rfl⟩
          rw [hi] at cz hrk
          clear hi
          by_cases hfi : i < (I : Int)
          · rw [if_pos hfi] at hrk
            have HRR := Lib.hid hrk
            have d3 : decide (i < (I : Int)) = true := by simpa using hfi
            clear hrk
            go_wp2_with fail
            go_round
            case rel => exact ⟨k + 1, j + 1, by omega, by omega, by go_num, by go_num, HRR⟩
            case measure => simp [intOf]; omega
          · rw [if_neg hfi] at hrk
            have HRR := Lib.hid hrk
            have d3 : decide (i < (I : Int)) = false := by simpa using hfi
            clear hrk
            go_wp2_with fail
            go_round
            case rel => exact ⟨k + 1, j, by omega, by omega, by go_num, by go_num, HRR⟩
            case measure => simp [intOf]; omega
        · obtain rfl : k = len := by omega
          have HRR : Hid (r = j) := Lib.hid (by have h1 := HRk.out; have h2 := HR.out; rw [← HLN.out, List.take_length] at h1; omega)
          go_wp2_with fail
          go_ret2
          refine ⟨?_, gb_below HB.out none⟩
          rw [HRR.out]
          rfl
  · have e0 : rkE n s f = chk n s := by unfold rkE; rw [if_neg hc]
    rw [show rkV n s f = 0 from if_neg (by rw [e0]; exact hc), e0]
    obtain ⟨c, hcc⟩ : ∃ c, chk n s = c := ⟨_, rfl⟩
    rw [hcc] at hc HL ⊢
    clear hcc e0
    go_enter Tryd.func39, Tryd.ntmps39
    go_wp2_with fail
    refine HL.out.mono ?_
    rintro e w1 ⟨v, rfl, ho, hb⟩
    go_wp2
    go_ret2
    exact ⟨rfl, gb_below hb none⟩

set_option maxRecDepth 100000 in
set_option maxHeartbeats 1600000 in
theorem RSelect_any (n : Int) (s : ByteArray) (f : Int) (w : World) (hs : s.size ≤ 140737488351232) :
    Calls Tryd.prog 41 #[.int .i64 n, .string s, .int .i64 f] w fun e w' => e = .returned (.tuple #[.int .i64 (slV n s f), .int .i64 (slE n s f)]) ∧ w.grownBy w' none := by
  have HL := Lib.hid (RList_any n s w hs)
  by_cases hc : chk n s = 0
  · have hcn : (cnt (bt s) n.toNat) = (liL n s).length := by rw [liL, if_pos hc]; rfl
    have hE : slE n s f = if f < 0 then 7 else if ((liL n s).length : Int) ≤ f then 8 else 0 := by unfold slE; rw [if_pos hc, hcn]
    have hll := liL_len hc
    by_cases h1 : f < 0
    · rw [if_pos h1] at hE
      rw [show slV n s f = 0 from if_neg (by rw [hE]; decide), hE]
      rw [hc] at HL
      have d1 : decide (f < 0) = true := by simpa using h1
      clear hc hE hcn
      go_enter Tryd.func41, Tryd.ntmps41
      go_wp2_with fail
      refine HL.out.mono ?_
      rintro e w1 ⟨v, rfl, ho, hb⟩
      go_wp2
      go_ret2
      exact ⟨rfl, gb_below hb none⟩
    · rw [if_neg h1] at hE
      have d1 : decide (f < 0) = false := by simpa using h1
      by_cases h2 : ((liL n s).length : Int) ≤ f
      · rw [if_pos h2] at hE
        rw [show slV n s f = 0 from if_neg (by rw [hE]; decide), hE]
        rw [hc] at HL
        obtain ⟨l, hl⟩ : ∃ l, liL n s = l := ⟨_, rfl⟩
        rw [hl] at hll HL h2
        clear hc hE hcn hl
        go_enter Tryd.func41, Tryd.ntmps41
        go_wp2_with fail
        refine HL.out.mono ?_
        rintro e w1 ⟨v, rfl, ho, hb⟩
        obtain ⟨a, cap, rfl⟩ := Or.OR.slice_ ho
        go_wp2
        go_ret2
        exact ⟨rfl, gb_below hb none⟩
      · rw [if_neg h2] at hE
        obtain ⟨K, rfl⟩ : ∃ K : Nat, f = K := ⟨f.toNat, by omega⟩
        have hV : slV n s K = (liL n s).getD K 0 := by unfold slV; rw [if_pos hE, Int.toNat_natCast, liL, if_pos hc]
        rw [hV, hE]
        rw [hc] at HL
        obtain ⟨l, hl⟩ : ∃ l, liL n s = l := ⟨_, rfl⟩
        rw [hl] at hll HL h2 ⊢
        have hK : K < l.length := by omega
        have hK' : (K : Int) < (l.length : Int) := by omega
        obtain ⟨z, hz⟩ : ∃ z, l.getD K 0 = z := ⟨_, rfl⟩
        have HZ := Lib.hid hz
        rw [hz]
        clear hz
        clear hc hE hcn hl hV
        go_enter Tryd.func41, Tryd.ntmps41
        go_wp2_with fail
        refine HL.out.mono ?_
        rintro e w1 ⟨v, rfl, ho, hb⟩
        obtain ⟨a, cap, rfl, hil⟩ := OR.il ho
        obtain ⟨zb, off, rfl, hzc⟩ := hil (by omega)
        have cz := hzc K hK
        rw [HZ.out] at cz
        clear hzc ho hil
        go_wp2
        go_ret2
        exact ⟨rfl, gb_below hb none⟩
  · have e0 : slE n s f = chk n s := by unfold slE; rw [if_neg hc]
    rw [show slV n s f = 0 from if_neg (by rw [e0]; exact hc), e0]
    obtain ⟨c, hcc⟩ : ∃ c, chk n s = c := ⟨_, rfl⟩
    rw [hcc] at hc HL ⊢
    clear hcc e0
    go_enter Tryd.func41, Tryd.ntmps41
    go_wp2_with fail
    refine HL.out.mono ?_
    rintro e w1 ⟨v, rfl, ho, hb⟩
    go_wp2
    go_ret2
    exact ⟨rfl, gb_below hb none⟩
end Go.Proofs.YtbeaohnjifcgaaaDoor.Bh
