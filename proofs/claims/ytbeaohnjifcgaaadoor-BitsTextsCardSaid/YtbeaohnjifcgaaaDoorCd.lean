/-
  Fields of bits: the reference's Next.
-/
import Derived.Test.YtbeaohnjifcgaaaDoorCc
namespace Go.Proofs.YtbeaohnjifcgaaaDoor.Bh
open Go Go.RowKit Go.Shelf Go.Proofs.YtbeaohnjifcgaaaDoor.Sx Go.Proofs.YtbeaohnjifcgaaaDoor.Na Go.Proofs.YtbeaohnjifcgaaaDoor.Ba

theorem OR.il {w : World} {base : Nat} {v : Value} {zs : List Int} (h : Or.OR w base v zs) : ∃ a cap, v = .slice a zs.length cap ∧ IL w a zs := by
  obtain ⟨h1, ⟨rfl, h2⟩ | ⟨g, cap, cur, rfl, hb, hh, hn, hc, hz, ht⟩⟩ := h
  · exact ⟨none, 0, by rw [h2], fun h => absurd h (by omega)⟩
  · refine ⟨_, cap, rfl, fun h0 => ⟨g, 0, rfl, fun i hi => ?_⟩⟩
    rw [Nat.zero_add, cell_of_row _ _ _ _ _ _ hh]
    have e : cur.toList[i]? = (Or.cI zs)[i]? := by rw [← ht, List.getElem?_take_of_lt (by omega)]
    rw [← Array.getElem?_toList, e]
    simp [Or.cI, List.getD, hi]
/-- the first number from one on -/
def fstL (from_ : Int) : List Int → Option Int
  | [] => none
  | z :: l => if from_ ≤ z then some z else fstL from_ l
def nxE (n : Int) (s : ByteArray) (from_ : Int) : Int := if chk n s = 0 then (if from_ < 0 ∨ n < from_ then 7 else match fstL from_ (liL n s) with | some _ => 0 | none => 8) else chk n s
def nxV (n : Int) (s : ByteArray) (from_ : Int) : Int := if nxE n s from_ = 0 then (match fstL from_ (liL n s) with | some i => i | none => 0) else 0

set_option maxRecDepth 100000 in
set_option maxHeartbeats 1600000 in
theorem RNext_any (n : Int) (s : ByteArray) (f : Int) (w : World) (hs : s.size ≤ 140737488351232) :
    Calls Tryd.prog 25 #[.int .i64 n, .string s, .int .i64 f] w fun e w' => e = .returned (.tuple #[.int .i64 (nxV n s f), .int .i64 (nxE n s f)]) ∧ w.grownBy w' none := by
  have HL := Lib.hid (RList_any n s w hs)
  by_cases hc : chk n s = 0
  · by_cases hf : f < 0 ∨ n < f
    · have e0 : nxE n s f = 7 := by unfold nxE; rw [if_pos hc, if_pos hf]
      rw [show nxV n s f = 0 from if_neg (by rw [e0]; decide), e0]
      rw [hc] at HL
      by_cases h1 : f < 0
      · have d1 : decide (f < 0) = true := by simpa using h1
        clear hf hc e0
        go_enter Tryd.func25, Tryd.ntmps25
        go_wp2_with fail
        refine HL.out.mono ?_
        rintro e w1 ⟨v, rfl, ho, hb⟩
        go_wp2
        go_ret2
        exact ⟨rfl, gb_below hb none⟩
      · have d1 : decide (f < 0) = false := by simpa using h1
        have d2 : decide (n < f) = true := by simp; omega
        clear hf hc e0
        go_enter Tryd.func25, Tryd.ntmps25
        go_wp2_with fail
        refine HL.out.mono ?_
        rintro e w1 ⟨v, rfl, ho, hb⟩
        go_wp2
        go_ret2
        exact ⟨rfl, gb_below hb none⟩
    · have hE : nxE n s f = match fstL f (liL n s) with | some _ => 0 | none => 8 := by unfold nxE; rw [if_pos hc, if_neg hf]
      have hV : nxV n s f = match fstL f (liL n s) with | some i => i | none => 0 := by
        unfold nxV
        rw [hE]
        cases fstL f (liL n s) with
        | some i => rfl
        | none => rfl
      rw [hc] at HL
      obtain ⟨l, hl⟩ : ∃ l, liL n s = l := ⟨_, rfl⟩
      have hll : l.length ≤ 4096 := by
        rw [← hl, liL, if_pos hc]
        obtain ⟨N, rfl, h1, _⟩ := vd_t (chk_t hc)
        have := nbl_len (bt s) N
        rw [Int.toNat_natCast]; omega
      rw [hl] at hE hV HL
      obtain ⟨x, hx⟩ : ∃ x, nxE n s f = x := ⟨_, rfl⟩
      obtain ⟨y, hy⟩ : ∃ y, nxV n s f = y := ⟨_, rfl⟩
      rw [hx] at hE
      rw [hy] at hV
      rw [hx, hy]
      obtain ⟨r, hr⟩ : ∃ r, fstL f l = r := ⟨_, rfl⟩
      rw [hr] at hE hV
      have HE := Lib.hid hE
      have HV := Lib.hid hV
      have HR : Hid (fstL f (l.drop 0) = r) := Lib.hid hr
      have d1 : decide (f < 0) = false := by simp; omega
      have d2 : decide (n < f) = false := by simp; omega
      clear hf hc hl hx hy hE hV hr
      go_enter Tryd.func25, Tryd.ntmps25
      go_wp2_with fail
      refine HL.out.mono ?_
      rintro e w1 ⟨v, rfl, ho, hb⟩
      obtain ⟨a, cap, rfl, hil⟩ := OR.il ho
      have HI := Lib.hid hil
      have HB := Lib.hid hb
      clear ho hb hil HL
      obtain ⟨len, hlen⟩ : ∃ len, l.length = len := ⟨_, rfl⟩
      have HLN := Lib.hid hlen
      rw [hlen] at hll ⊢
      clear hlen
      go_wp2_with fail
      go_loop [11, 30] (fun _ i => ∃ k : Nat, k ≤ len ∧ i = .int .i64 k ∧ Hid (fstL f (l.drop k) = r)) (fun _ i => len - (intOf i).toNat)
      case atStart => exact ⟨0, Nat.zero_le _, rfl, HR⟩
      case round =>
        obtain ⟨k, hk, rfl, HRk⟩ := hrel
        by_cases hlt : k < len
        · have hlt' : (k : Int) < (len : Int) := by omega
          obtain ⟨zb, off, rfl, hzc⟩ := HI.out (by rw [HLN.out]; omega)
          have cz := hzc k (by rw [HLN.out]; exact hlt)
          have hrk := HRk.out
          rw [drop_at l k (by rw [HLN.out]; exact hlt)] at hrk
          clear hzc
          obtain ⟨i, hi⟩ : ∃ i, l.getD k 0 = i := ⟨_, rfl⟩
          rw [hi] at cz hrk
          clear hi
          rw [fstL] at hrk
          by_cases hfi : f ≤ i
          · rw [if_pos hfi] at hrk
            have HRR := Lib.hid hrk
            have d3 : decide (f ≤ i) = true := by simpa using hfi
            clear hrk
            go_wp2_with fail
            go_ret2
            refine ⟨?_, gb_below HB.out none⟩
            have e1 := HE.out
            have e2 := HV.out
            rw [← HRR.out] at e1 e2
            rw [e1, e2]
            rfl
          · rw [if_neg hfi] at hrk
            have HRR := Lib.hid hrk
            have d3 : decide (f ≤ i) = false := by simpa using hfi
            clear hrk
            go_wp2_with fail
            go_round
            case rel => exact ⟨k + 1, by omega, by go_num, HRR⟩
            case measure => simp [intOf]; omega
        · obtain rfl : k = len := by omega
          have hrk := HRk.out
          rw [List.drop_of_length_le (by rw [HLN.out]; exact Nat.le_refl _)] at hrk
          have HRR : Hid ((none : Option Int) = r) := Lib.hid hrk
          clear hrk
          go_wp2_with fail
          go_ret2
          refine ⟨?_, gb_below HB.out none⟩
          have e1 := HE.out
          have e2 := HV.out
          rw [← HRR.out] at e1 e2
          rw [e1, e2]
          rfl
  · have e0 : nxE n s f = chk n s := by unfold nxE; rw [if_neg hc]
    rw [show nxV n s f = 0 from if_neg (by rw [e0]; exact hc), e0]
    obtain ⟨c, hcc⟩ : ∃ c, chk n s = c := ⟨_, rfl⟩
    rw [hcc] at hc HL ⊢
    clear hcc e0
    go_enter Tryd.func25, Tryd.ntmps25
    go_wp2_with fail
    refine HL.out.mono ?_
    rintro e w1 ⟨v, rfl, ho, hb⟩
    go_wp2
    go_ret2
    exact ⟨rfl, gb_below hb none⟩
end Go.Proofs.YtbeaohnjifcgaaaDoor.Bh
