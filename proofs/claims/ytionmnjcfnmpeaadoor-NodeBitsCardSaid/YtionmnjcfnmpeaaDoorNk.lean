/-
  node: an identifier out of bits; the specification's Distance, Common, Nearer.
-/
import Derived.Test.YtionmnjcfnmpeaaDoorNj
import Derived.Test.YtionmnjcfnmpeaaDoorNi
import Derived.RegionTactic
import Derived.BigRegion
import Derived.Laws.Rows
namespace Go.Proofs.YtionmnjcfnmpeaaDoor.Nj
open Go Go.RowKit Go.Proofs.YtionmnjcfnmpeaaDoor.Hz Go.Proofs.YtionmnjcfnmpeaaDoor.Na Go.Proofs.YtionmnjcfnmpeaaDoor.Nb Go.Proofs.YtionmnjcfnmpeaaDoor.Nf
open Go.Proofs.YtionmnjcfnmpeaaDoor.Ng (and8)
open Go.Proofs.YtionmnjcfnmpeaaDoor.Nh (two_lt)

theorem or8 (a b : Nat) (ha : a < 256) (hb : b < 256) : Go.bits .or .u8 (a : Int) (b : Int) = ((a ||| b : Nat) : Int) := by
  have h1 : (BitVec.ofInt 8 (a : Int)).toNat = a := by rw [BitVec.ofInt_natCast, BitVec.toNat_ofNat]; exact Nat.mod_eq_of_lt ha
  have h2 : (BitVec.ofInt 8 (b : Int)).toNat = b := by rw [BitVec.ofInt_natCast, BitVec.toNat_ofNat]; exact Nat.mod_eq_of_lt hb
  show IntKind.u8.wrap ((BitVec.ofInt 8 (a : Int) ||| BitVec.ofInt 8 (b : Int)).toNat : Int) = _
  rw [BitVec.toNat_or, h1, h2, IntKind.wrap_u8]
  have : a ||| b < 2 ^ 8 := Nat.or_lt_two_pow ha hb
  omega
/-- the bytes that bits are put into, so many of them put -/
def Fr (f : Nat → Bool) (k : Nat) (xs : List Int) : Prop := xs.length = 20 ∧ ∀ q, q < 20 → ∃ n : Nat, xs.getD q 0 = (n : Int) ∧ n < 256 ∧ ∀ b, b < 8 → n.testBit b = (decide (8 * q + (7 - b) < k) && f (8 * q + (7 - b)))
theorem Fr.zero (f : Nat → Bool) : Fr f 0 (List.replicate 20 0) := by
  refine ⟨by simp, fun q hq => ⟨0, ?_, by omega, fun b hb => by simp⟩⟩
  rw [List.getD, List.getElem?_replicate, if_pos hq]; rfl
theorem Fr.skip {f : Nat → Bool} {k : Nat} {xs : List Int} (h : Fr f k xs) (hf : f k = false) : Fr f (k + 1) xs := by
  refine ⟨h.1, fun q hq => ?_⟩
  obtain ⟨n, h1, h2, h3⟩ := h.2 q hq
  refine ⟨n, h1, h2, fun b hb => ?_⟩
  rw [h3 b hb]
  by_cases e : 8 * q + (7 - b) = k
  · rw [e, hf]; simp
  · congr 1
    rw [Bool.eq_iff_iff, decide_eq_true_iff, decide_eq_true_iff]
    omega
theorem Fr.set {f : Nat → Bool} {k n : Nat} {xs : List Int} (h : Fr f k xs) (hk : k < 160) (hf : f k = true) (hn : xs.getD (k / 8) 0 = (n : Int)) : Fr f (k + 1) (xs.set (k / 8) ((n ||| 2 ^ (7 - k % 8) : Nat) : Int)) := by
  refine ⟨by rw [List.length_set]; exact h.1, fun q hq => ?_⟩
  obtain ⟨m, h1, h2, h3⟩ := h.2 q hq
  by_cases e : q = k / 8
  · subst e
    obtain rfl : m = n := by rw [hn] at h1; omega
    refine ⟨m ||| 2 ^ (7 - k % 8), ?_, Nat.or_lt_two_pow (n := 8) h2 (two_lt _), fun b hb => ?_⟩
    · rw [List.getD, List.getElem?_set_self (by rw [h.1]; omega)]; rfl
    · rw [Nat.testBit_or, h3 b hb, Nat.testBit_two_pow]
      by_cases e2 : 7 - k % 8 = b
      · have e3 : 8 * (k / 8) + (7 - b) = k := by omega
        rw [e3, hf]
        simp [e2]
      · rw [decide_eq_false e2, Bool.or_false]
        congr 1
        rw [Bool.eq_iff_iff, decide_eq_true_iff, decide_eq_true_iff]
        omega
  · refine ⟨m, ?_, h2, fun b hb => ?_⟩
    · rw [List.getD, List.getElem?_set_ne (fun h => e h.symm), ← List.getD]; exact h1
    · rw [h3 b hb]
      congr 1
      rw [Bool.eq_iff_iff, decide_eq_true_iff, decide_eq_true_iff]
      omega
theorem Fr.done {f : Nat → Bool} {xs : List Int} (h : Fr f 160 xs) (D : ByteArray) (hD : D.size = 20) (hb : ∀ i, i < 160 → bt D i = f i) : strOfNums xs = D := by
  refine bt_ext _ _ (by rw [strOfNums_size, h.1]) hD fun i hi => ?_
  rw [hb i hi]
  obtain ⟨n, h1, h2, h3⟩ := h.2 (i / 8) (by omega)
  unfold bt
  rw [by_str xs (i / 8) (by rw [h.1]; omega) n h2 h1, h3 _ (by omega)]
  have e : 8 * (i / 8) + (7 - (7 - i % 8)) = i := by omega
  rw [e, decide_eq_true hi, Bool.true_and]

set_option maxRecDepth 100000 in
set_option maxHeartbeats 1600000 in
/-- an identifier out of bits -/
theorem from_any (g cap : Nat) (f : Nat → Bool) (D : ByteArray) (w : World) (hD : D.size = 20) (hb : ∀ i, i < 160 → bt D i = f i) (hc : ∀ i, i < 160 → w.cell? ⟨g, i, none⟩ = some (.bool (f i))) :
    Calls Tryd.prog 74 #[.slice (some ⟨g, 0, none⟩) 160 cap] w fun e w' => e = .returned (.string D) ∧ Below w.heap.size w w' := by
  have hmk : ∀ w, (Instr.makeSlice 70 (.int .i64 20) (.int .i64 20)).run Tryd.prog w = .ok (.slice (some ⟨w.heap.size, 0, none⟩) 20 20) (w.alloc (.cells (bytesI (List.replicate 20 0)) 5)) := fun w => makeN 20 w (by omega)
  have hg : g < w.heap.size := World.block_lt_of_cell? w _ (hc 0 (by omega))
  have HD := Lib.hid (fun xs (h : Fr f 160 xs) => h.done D hD hb)
  have HC := Lib.hid hc
  clear hc hD hb
  go_enter Tryd.func74, Tryd.ntmps74
  go_wp2_with fail
  go_loopw [9, 4, 5] (fun i _ _ wr => ∃ (k : Nat) (xs : List Int), k ≤ 160 ∧ i = .int .i64 k ∧ Fr f k xs ∧ Bk wr w.heap.size xs ∧ Below w.heap.size w wr) (fun i _ _ _ => 160 - (intOf i).toNat)
  case atStart => exact ⟨0, _, Nat.zero_le _, rfl, Fr.zero f, Bk.new w _ _, (Below.refl _ _).alloc (Nat.le_refl _) _⟩
  case round =>
    obtain ⟨k, xs, hk, rfl, hF, hB, hbl⟩ := hrel
    by_cases hlt : k < 160
    · have hcell : wr.cell? ⟨g, k, none⟩ = some (.bool (f k)) := (hbl.cell (p := ⟨g, k, none⟩) hg).trans (HC.out k hlt)
      cases hfk : f k
      · have HF := Lib.hid (hF.skip hfk)
        rw [hfk] at hcell
        have HB := Lib.hid hB
        clear hF hB hfk hmk
        go_wp2_with fail
        exact ⟨⟨k + 1, xs, by omega, by go_num, HF.out, HB.out, hbl⟩, by simp [intOf]; omega⟩
      · obtain ⟨n, h1, h2, _⟩ := hF.2 (k / 8) (by omega)
        have HF := Lib.hid (hF.set hlt hfk h1)
        have hxl := hF.1
        have hcx := hB.cell (k / 8) (by omega)
        have hfx := hB.free (k / 8)
        have HB := Lib.hid (hB.set (k / 8) ((n ||| 2 ^ (7 - k % 8) : Nat) : Int))
        rw [hfk] at hcell
        rw [h1] at hcx
        have hor := or8 n (2 ^ (7 - k % 8)) h2 (two_lt _)
        have hw1 : IntKind.i64.wrap ((k : Int) / 8) = ((k / 8 : Nat) : Int) := by rw [IntKind.wrap_i64]; omega
        have hw2 : ((k : Int).tmod 8) = ((k % 8 : Nat) : Int) := by rw [Int.tmod_eq_emod_of_nonneg (by omega)]; omega
        have ht8 : k % 8 < 8 := by omega
        obtain ⟨q, hq⟩ : ∃ q, k / 8 = q := ⟨_, rfl⟩
        obtain ⟨t, ht⟩ : ∃ t, k % 8 = t := ⟨_, rfl⟩
        simp only [hq, ht] at HF HB hcx hfx hor hw1 hw2 ht8
        have hq20 : q < 20 := by omega
        have hp := two_lt t
        have h2t : ((2 : Int) ^ (7 - t)) % 256 = ((2 ^ (7 - t) : Nat) : Int) := by
          rw [show ((2 : Int) ^ (7 - t)) = ((2 ^ (7 - t) : Nat) : Int) by rw [Int.natCast_pow]; rfl]
          exact (show ∀ p : Nat, p < 256 → (p : Int) % 256 = (p : Int) from fun p hp => by omega) _ hp
        rw [← h2t] at hor
        obtain ⟨y, hy⟩ : ∃ y, n ||| 2 ^ (7 - t) = y := ⟨_, rfl⟩
        simp only [hy] at hor HF HB
        clear hq ht hF hB hfk hmk h1 h2t hy hp
        go_wp2_with fail
        go_region
        all_goals
          go_wp2_with fail
          exact ⟨⟨k + 1, _, by omega, by go_num, HF.out, HB.out.drew, (hbl.setCell (Nat.le_refl _) _).drew⟩, by simp [intOf]; omega⟩
    · obtain rfl : k = 160 := by omega
      have hcv := hB.conv 20 20 hF.1
      have HX := Lib.hid (HD.out xs hF)
      clear hmk hB hF
      go_wp2_with fail
      rw [HX.out]
      go_ret
      exact ⟨rfl, hbl⟩

/-- a row's cells, where it lies -/
theorem OT.row {w : World} {base : Nat} {v : Value} {l : List Bool} (h : OT w base v l) (h0 : 0 < l.length) : ∃ g cap, v = .slice (some ⟨g, 0, none⟩) l.length cap ∧ base ≤ g ∧ (∀ i, i < l.length → w.cell? ⟨g, i, none⟩ = some (.bool (l.getD i false))) ∧ (∀ i, w.frozen? ⟨g, i, none⟩ = false) := by
  obtain ⟨h1, ⟨rfl, h2⟩ | ⟨g, cap, cur, rfl, hb, hh, hn, hc, hz, ht⟩⟩ := h
  · omega
  · refine ⟨g, cap, rfl, hb, fun i hi => ?_, fun i => by simp [World.frozen?, hh]⟩
    rw [cell_of_row _ _ _ _ _ _ hh]
    have e : cur.toList[i]? = (bC l)[i]? := by rw [← ht, List.getElem?_take_of_lt (by rw [Nat.mul_one]; exact hi)]
    rw [← Array.getElem?_toList, e]
    simp [bC, List.getD, hi]
theorem bits_at (s : ByteArray) (i : Nat) (hi : i < 160) : (bits s 160).getD i false = bt s i := by
  simp [bits, List.getD, hi]
end Go.Proofs.YtionmnjcfnmpeaaDoor.Nj
