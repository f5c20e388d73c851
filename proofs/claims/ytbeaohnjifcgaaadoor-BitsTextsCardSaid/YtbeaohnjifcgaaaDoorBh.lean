/-
  Fields of bits: the program's small functions.
-/
import Derived.Test.YtbeaohnjifcgaaaDoorBa
import Derived.Test.YtbeaohnjifcgaaaDoorBc
import Derived.Test.YtbeaohnjifcgaaaDoorSx
import Derived.IntWalk
import Derived.Deep.RegionWith
import Derived.RegionTactic
import Derived.BigRegion
import Derived.Deep.QuietTactic
import Derived.BigQuiet
import Derived.RegionDies
import Derived.LoopTactic
import Derived.Outline
import Derived.WalkSpells
import Derived.WalkLawsBesides
namespace Go.Proofs.YtbeaohnjifcgaaaDoor.Bh
open Go Go.RowKit Go.Proofs.YtbeaohnjifcgaaaDoor.Sx Go.Proofs.YtbeaohnjifcgaaaDoor.Na Go.Proofs.YtbeaohnjifcgaaaDoor.Ba

set_option maxHeartbeats 400000 in
theorem size_any (n : Int) (w : World) (h1 : 0 ≤ n) (h2 : n ≤ 5000) : Calls Tryd.prog 51 #[.int .i64 n] w fun e w' => e = .returned (.int .i64 (sz n)) ∧ w = w' := by
  go_enter Tryd.func51, Tryd.ntmps51
  go_wp2
  go_ret
  exact ⟨rfl, rfl⟩

theorem and8 (a b : Nat) (ha : a < 256) (hb : b < 256) : bits .and .u8 (a : Int) (b : Int) = ((a &&& b : Nat) : Int) := by
  have h1 : (BitVec.ofInt 8 (a : Int)).toNat = a := by rw [BitVec.ofInt_natCast, BitVec.toNat_ofNat]; exact Nat.mod_eq_of_lt ha
  have h2 : (BitVec.ofInt 8 (b : Int)).toNat = b := by rw [BitVec.ofInt_natCast, BitVec.toNat_ofNat]; exact Nat.mod_eq_of_lt hb
  show IntKind.u8.wrap ((BitVec.ofInt 8 (a : Int) &&& BitVec.ofInt 8 (b : Int)).toNat : Int) = _
  rw [BitVec.toNat_and, h1, h2, IntKind.wrap_u8]
  have : a &&& b < 256 := Nat.lt_of_le_of_lt Nat.and_le_left ha
  omega
theorem or8 (a b : Nat) (ha : a < 256) (hb : b < 256) : bits .or .u8 (a : Int) (b : Int) = ((a ||| b : Nat) : Int) := by
  have h1 : (BitVec.ofInt 8 (a : Int)).toNat = a := by rw [BitVec.ofInt_natCast, BitVec.toNat_ofNat]; exact Nat.mod_eq_of_lt ha
  have h2 : (BitVec.ofInt 8 (b : Int)).toNat = b := by rw [BitVec.ofInt_natCast, BitVec.toNat_ofNat]; exact Nat.mod_eq_of_lt hb
  show IntKind.u8.wrap ((BitVec.ofInt 8 (a : Int) ||| BitVec.ofInt 8 (b : Int)).toNat : Int) = _
  rw [BitVec.toNat_or, h1, h2, IntKind.wrap_u8]
  have : a ||| b < 256 := Nat.or_lt_two_pow (n := 8) ha hb
  omega
theorem shr128 (j : Nat) (h : j < 8) : (128 : Int) / 2 ^ j = ((2 ^ (7 - j) : Nat) : Int) := by
  obtain rfl | rfl | rfl | rfl | rfl | rfl | rfl | rfl : j = 0 ∨ j = 1 ∨ j = 2 ∨ j = 3 ∨ j = 4 ∨ j = 5 ∨ j = 6 ∨ j = 7 := by omega
  all_goals decide
theorem and_bit (x t : Nat) : (x &&& 2 ^ t != 0) = x.testBit t := by
  cases h : x.testBit t
  · have : x &&& 2 ^ t = 0 := by
      apply Nat.eq_of_testBit_eq
      intro i
      rw [Nat.testBit_and, Nat.testBit_two_pow, Nat.zero_testBit]
      by_cases e : t = i
      · subst e; rw [h]; rfl
      · simp [e]
    rw [this]; rfl
  · rw [bne_iff_ne]
    intro e
    have := congrArg (fun z => z.testBit t) e
    simp [Nat.testBit_and, Nat.testBit_two_pow, h] at this
theorem bit_at (x t : Nat) (hx : x < 256) (ht : t < 8) : ((bits .and .u8 (x : Int) ((128 : Int) / 2 ^ t)) != 0) = x.testBit (7 - t) := by
  rw [shr128 _ ht, and8 _ _ hx (two_lt _), ← and_bit]
  generalize x &&& 2 ^ (7 - t) = z
  rw [Bool.eq_iff_iff]
  simp

set_option maxRecDepth 100000 in
set_option maxHeartbeats 1600000 in
theorem isSet_any (s : ByteArray) (i : Nat) (w : World) (hi : i < 8 * s.size) (hs : s.size ≤ 140737488351232) :
    Calls Tryd.prog 52 #[.string s, .int .i64 (i : Int)] w fun e w' => e = .returned (.bool (bt s i)) ∧ w.grownBy w' none := by
  have hw1 : IntKind.i64.wrap ((i : Int) / 8) = ((i / 8 : Nat) : Int) := by rw [IntKind.wrap_i64]; omega
  have hw2 : ((i : Int).tmod 8) = ((i % 8 : Nat) : Int) := by rw [Int.tmod_eq_emod_of_nonneg (by omega)]; omega
  have hba := bit_at (by_ s (i / 8)) (i % 8) (by_lt _ _) (by omega)
  have hq8 : i / 8 < s.size := by omega
  have ht8 : i % 8 < 8 := by omega
  have hbt : bt s i = (by_ s (i / 8)).testBit (7 - i % 8) := rfl
  rw [hbt]
  obtain ⟨q, hq⟩ : ∃ q, i / 8 = q := ⟨_, rfl⟩
  obtain ⟨t, ht⟩ : ∃ t, i % 8 = t := ⟨_, rfl⟩
  rw [hq] at hw1 hba hq8 ⊢
  rw [ht] at hw2 hba ht8 ⊢
  have hw3 : (q : Int) < (s.size : Int) := by omega
  have hb := by_at s q hq8
  have hbl := by_lt s q
  clear hq ht hbt
  obtain ⟨x, hx⟩ : ∃ x, by_ s q = x := ⟨_, rfl⟩
  rw [hx] at hb hbl hba ⊢
  obtain ⟨c, hc⟩ : ∃ c, x.testBit (7 - t) = c := ⟨_, rfl⟩
  rw [hc] at hba ⊢
  clear hx hc
  go_enter Tryd.func52, Tryd.ntmps52
  go_wp2_with fail
  go_quiet (fail)
  go_wp2
  go_ret
  exact ⟨rfl, gb_drew _ _ _⟩
theorem isSet_w (s : ByteArray) (i : Nat) (w : World) (hi : i < 8 * s.size) (hs : s.size ≤ 140737488351232) (b : Bool) (hb : bt s i = b) :
    Calls Tryd.prog 52 #[.string s, .int .i64 (i : Int)] w fun e w' => e = .returned (.bool b) ∧ w.grownBy w' none := hb ▸ isSet_any s i w hi hs

set_option maxRecDepth 100000 in
set_option maxHeartbeats 1600000 in
theorem Wrong_any (n : Int) (s : ByteArray) (w : World) (hs : s.size ≤ 140737488351232) :
    Calls Tryd.prog 12 #[.int .i64 n, .string s] w fun e w' => e = .returned (.tuple #[.int .i64 (wat n s), .int .i64 (wer n s)]) ∧ w.grownBy w' none := by
  by_cases h0 : n < 0 ∨ 4096 < n
  · rw [show wat n s = 0 from if_pos h0, show wer n s = 7 from if_pos h0]
    by_cases h1 : n < 0
    · clear h0
      go_enter Tryd.func12, Tryd.ntmps12
      go_wp2
      go_ret2
      exact ⟨rfl, gb_refl _ _⟩
    · have h2 : 4096 < n := by omega
      clear h0
      go_enter Tryd.func12, Tryd.ntmps12
      go_wp2
      go_ret2
      exact ⟨rfl, gb_refl _ _⟩
  · have n0 : 0 ≤ n := by omega
    have n1 : n ≤ 4096 := by omega
    have HS := Lib.hid (fun w => size_any n w n0 (by omega))
    have z1 : 0 ≤ sz n ∧ sz n ≤ 512 := by unfold sz; omega
    obtain ⟨z1, z2⟩ := z1
    by_cases h1 : (s.size : Int) < sz n
    · rw [show wat n s = s.size from by unfold wat; rw [if_neg h0, if_pos h1], show wer n s = 11 from by unfold wer; rw [if_neg h0, if_pos h1]]
      obtain ⟨z, hz⟩ : ∃ z, sz n = z := ⟨_, rfl⟩
      simp only [hz] at HS z1 z2 h1
      clear hz h0
      go_enter Tryd.func12, Tryd.ntmps12
      go_wp2_with fail
      refine (HS.out _).mono ?_
      rintro e w1 ⟨rfl, rfl⟩
      go_wp2
      go_ret2
      exact ⟨rfl, gb_refl _ _⟩
    · by_cases h2 : sz n < (s.size : Int)
      · rw [show wat n s = sz n from by unfold wat; rw [if_neg h0, if_neg h1, if_pos h2], show wer n s = 11 from by unfold wer; rw [if_neg h0, if_neg h1, if_pos h2]]
        obtain ⟨z, hz⟩ : ∃ z, sz n = z := ⟨_, rfl⟩
        rw [hz]
        simp only [hz] at HS z1 z2 h1 h2
        clear hz h0
        go_enter Tryd.func12, Tryd.ntmps12
        go_wp2_with fail
        refine (HS.out _).mono ?_
        rintro e w1 ⟨rfl, rfl⟩
        go_wp2_with fail
        refine (HS.out _).mono ?_
        rintro e w1 ⟨rfl, rfl⟩
        go_wp2_with fail
        refine (HS.out _).mono ?_
        rintro e w1 ⟨rfl, rfl⟩
        go_wp2
        go_ret2
        exact ⟨rfl, gb_refl _ _⟩
      · have hN : ∃ N : Nat, n = N := ⟨n.toNat, by omega⟩
        obtain ⟨N, rfl⟩ := hN
        have ea : wat N s = match scan s N (8 * s.size - N) with | some i => (i : Int) | none => -1 := by unfold wat; rw [if_neg h0, if_neg h1, if_neg h2]; rfl
        have ee : wer N s = match scan s N (8 * s.size - N) with | some i => (12 : Int) | none => 0 := by unfold wer; rw [if_neg h0, if_neg h1, if_neg h2]; rfl
        have hsz : N ≤ 8 * s.size := by unfold sz at h1; omega
        have s512 : (s.size : Int) ≤ 512 := by omega
        obtain ⟨va, hva⟩ : ∃ v, wat N s = v := ⟨_, rfl⟩
        obtain ⟨ve, hve⟩ : ∃ v, wer N s = v := ⟨_, rfl⟩
        rw [hva] at ea ⊢
        rw [hve] at ee ⊢
        clear hva hve
        obtain ⟨z, hz⟩ : ∃ z, sz N = z := ⟨_, rfl⟩
        simp only [hz] at HS z1 z2 h1 h2
        have hzz : z = (s.size : Int) := by omega
        subst hzz
        have HSZ := Lib.hid hs
        obtain ⟨r, hr⟩ : ∃ r, scan s N (8 * s.size - N) = r := ⟨_, rfl⟩
        rw [hr] at ea ee
        have HRr := Lib.hid hr
        have Hea := Lib.hid ea
        have Hee := Lib.hid ee
        clear hz h0 h1 h2 ea ee hs hr
        go_enter Tryd.func12, Tryd.ntmps12
        go_wp2_with fail
        refine (HS.out _).mono ?_
        rintro e w1 ⟨rfl, rfl⟩
        go_wp2_with fail
        refine (HS.out _).mono ?_
        rintro e w1 ⟨rfl, rfl⟩
        go_wp2_with fail
        go_loopw [6] (fun i wr => ∃ j f : Nat, i = .int .i64 j ∧ N ≤ j ∧ j ≤ 8 * s.size ∧ Hid (j + f = 8 * s.size) ∧ Hid (scan s j f = r) ∧ Hid (w.grownBy wr none)) (fun i _ => 8 * s.size - (intOf i).toNat)
        case atStart => exact ⟨N, 8 * s.size - N, rfl, Nat.le_refl _, hsz, Lib.hid (by omega), HRr, Lib.hid (gb_refl _ _)⟩
        case round =>
          obtain ⟨j, f, rfl, hj1, hj2, HF, HSc, HG⟩ := hrel
          by_cases hlt : j < 8 * s.size
          · obtain ⟨f', rfl⟩ : ∃ f', f = f' + 1 := ⟨f - 1, by have := HF.out; omega⟩
            obtain ⟨b, hb⟩ : ∃ b, bt s j = b := ⟨_, rfl⟩
            have HI := Lib.hid (fun w => isSet_w s j w hlt HSZ.out b hb)
            have hlt' : (j : Int) < 8 * (s.size : Int) := by omega
            cases b
            · have hn : scan s (j + 1) f' = r := by have := HSc.out; rw [scan, if_neg (by rw [hb]; decide)] at this; exact this
              have Hn := Lib.hid hn
              clear hb hn
              go_wp2_with fail
              refine (HI.out _).mono ?_
              rintro e w1 ⟨rfl, g1⟩
              have HG1 := Lib.hid (gb_trans HG.out g1)
              clear g1
              go_wp2
              go_roundw
              case rel => exact ⟨j + 1, f', by go_num, by omega, by omega, Lib.hid (by have := HF.out; omega), Hn, HG1⟩
              case measure => simp [intOf]; omega
            · have hn : r = some j := by have := HSc.out; rw [scan, if_pos hb] at this; exact this.symm
              have Hn := Lib.hid hn
              clear hb hn
              go_wp2_with fail
              refine (HI.out _).mono ?_
              rintro e w1 ⟨rfl, g1⟩
              have HG1 := Lib.hid (gb_trans HG.out g1)
              clear g1
              go_wp2
              go_ret2
              exact ⟨by rw [show va = (j : Int) from by have := Hea.out; rw [Hn.out] at this; exact this, show ve = 12 from by have := Hee.out; rw [Hn.out] at this; exact this] <;> rfl, HG1.out⟩
          · have hn : r = none := by
              have h0 : f = 0 := by have := HF.out; omega
              subst h0
              exact HSc.out.symm
            have Hn := Lib.hid hn
            clear hn
            have hlt' : 8 * (s.size : Int) ≤ (j : Int) := by omega
            go_wp2
            go_ret2
            exact ⟨by rw [show va = -1 from by have := Hea.out; rw [Hn.out] at this; exact this, show ve = 0 from by have := Hee.out; rw [Hn.out] at this; exact this] <;> rfl, HG.out⟩
end Go.Proofs.YtbeaohnjifcgaaaDoor.Bh
