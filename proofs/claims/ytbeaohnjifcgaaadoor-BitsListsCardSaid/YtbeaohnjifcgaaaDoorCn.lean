/-
  Fields of bits: the reference's Of; the law's Ints; what Of makes of a field's numbers.
-/
import Derived.Test.YtbeaohnjifcgaaaDoorCf
namespace Go.Proofs.YtbeaohnjifcgaaaDoor.Bh
open Go Go.RowKit Go.Shelf Go.Proofs.YtbeaohnjifcgaaaDoor.Sx Go.Proofs.YtbeaohnjifcgaaaDoor.Na Go.Proofs.YtbeaohnjifcgaaaDoor.Ba

set_option maxRecDepth 100000 in
set_option maxHeartbeats 1600000 in
theorem ROf_any (n : Int) (zs : List Int) (a : Option Addr) (cap : Nat) (w : World) (hz : IL w a zs) (hzl : zs.length ≤ 100000) :
    Calls Tryd.prog 33 #[.int .i64 n, .slice a zs.length cap] w fun e w' => e = .returned (.tuple #[.string (ofS n zs), .int .i64 (ofE n zs)]) ∧ w.grownBy w' none := by
  cases hr : rgt n
  · have e0 : ofE n zs = 7 := by unfold ofE; rw [if_neg (by rw [hr]; decide)]
    rw [show ofS n zs = ⟨#[]⟩ from if_neg (by rw [e0]; decide), e0]
    have HR := Lib.hid (fun w => right_f n w hr)
    clear hr e0
    go_enter Tryd.func33, Tryd.ntmps33
    go_wp2_with fail
    refine (HR.out _).mono ?_
    rintro e w1 ⟨rfl, rfl⟩
    go_wp2
    go_ret2
    exact ⟨rfl, gb_refl _ _⟩
  · have HR := Lib.hid (fun w => right_t n w hr)
    have HE : Hid (ofE n zs = (ofL n zs fun _ => false).1) := Lib.hid (if_pos hr)
    obtain ⟨n0, n1⟩ := rgt_t hr
    obtain ⟨N, rfl⟩ : ∃ N : Nat, n = N := ⟨n.toNat, by omega⟩
    have HS : Hid (ofS N zs = if ofE N zs = 0 then tf N (ofL N zs fun _ => false).2 else ⟨#[]⟩) := Lib.hid (by unfold ofS; rw [Int.toNat_natCast])
    obtain ⟨r, hrr⟩ : ∃ r, ofL N zs (fun _ => false) = r := ⟨_, rfl⟩
    obtain ⟨E, hE⟩ : ∃ E, ofE N zs = E := ⟨_, rfl⟩
    obtain ⟨S, hS⟩ : ∃ S, ofS N zs = S := ⟨_, rfl⟩
    simp only [hE, hS, hrr] at HE HS ⊢
    have HRR0 : Hid (ofL N (zs.drop 0) (fun _ => false) = r) := Lib.hid hrr
    have hmk := mkTruths N (by omega)
    have HF := Lib.hid (fun a cap β base w (hT : TL w base a N β) => Field_any a N cap β base w hT (by omega))
    have hn5 : N ≤ 4096 := by omega
    have HI := Lib.hid hz
    have HTB : Hid (TB (w.alloc (.cells (madeCells #[.bool false] N) 4)) w.heap.size N fun _ => false) := Lib.hid (TB.new w N)
    clear hr hE hS hrr hz n0 n1
    obtain ⟨len, hlen⟩ : ∃ len, zs.length = len := ⟨_, rfl⟩
    have HLE := Lib.hid hlen
    rw [hlen] at hzl ⊢
    clear hlen
    go_enter Tryd.func33, Tryd.ntmps33
    go_wp2_with fail
    refine (HR.out _).mono ?_
    rintro e w1 ⟨rfl, rfl⟩
    go_wp2_with fail
    obtain ⟨g, hg⟩ : ∃ g, w.heap.size = g := ⟨_, rfl⟩
    have HGE := Lib.hid hg
    rw [hg] at HTB ⊢
    have HG0 : Hid (w.grownBy (w.alloc (.cells (madeCells #[.bool false] N) 4)) none) := Lib.hid (gb_alloc _ _ _)
    clear hg hmk
    go_loopw [8, 16] (fun _ i wr => ∃ (k : Nat) (β : Nat → Bool), k ≤ len ∧ i = .int .i64 k ∧ Hid (TB wr g N β) ∧ Hid (w.grownBy wr none) ∧ Hid (ofL N (zs.drop k) β = r)) (fun _ i _ => len - (intOf i).toNat)
    case atStart => exact ⟨0, _, Nat.zero_le _, rfl, HTB, HG0, HRR0⟩
    case round =>
      obtain ⟨k, β, hk, rfl, HBk, HGk, HRk⟩ := hrel
      by_cases hlt : k < len
      · have hlt' : (k : Int) < (len : Int) := by omega
        obtain ⟨zb, off, rfl, hzc⟩ := HI.out (by rw [HLE.out]; omega)
        have cz := gb_cell HGk.out (hzc k (by rw [HLE.out]; exact hlt)) (by simp)
        have hrk := HRk.out
        rw [drop_at zs k (by rw [HLE.out]; exact hlt)] at hrk
        clear hzc
        obtain ⟨i, hi⟩ : ∃ i, zs.getD k 0 = i := ⟨_, rfl⟩
        rw [hi] at cz hrk
        clear hi
        rw [ofL] at hrk
        by_cases hbad : i < 0 ∨ (N : Int) ≤ i
        · rw [if_pos hbad] at hrk
          have hE7 : E = 7 := by rw [HE.out, ← hrk]
          have hS7 : S = ⟨#[]⟩ := by rw [HS.out, if_neg (by rw [hE7]; decide)]
          have HE7 := Lib.hid hE7
          have HS7 := Lib.hid hS7
          clear hrk hE7 hS7
          by_cases h1 : i < 0
          · have d1 : decide (i < 0) = true := by simpa using h1
            clear hbad
            go_wp2_with fail
            go_ret2
            exact ⟨by rw [HE7.out, HS7.out] <;> rfl, HGk.out⟩
          · have d1 : decide (i < 0) = false := by simp; omega
            have d2 : decide ((N : Int) ≤ i) = true := by simp; omega
            clear hbad
            go_wp2_with fail
            go_ret2
            exact ⟨by rw [HE7.out, HS7.out] <;> rfl, HGk.out⟩
        · rw [if_neg hbad] at hrk
          obtain ⟨I, rfl⟩ : ∃ I : Nat, i = I := ⟨i.toNat, by omega⟩
          rw [Int.toNat_natCast] at hrk
          have d1 : decide ((I : Int) < 0) = false := by simp
          have d2 : decide (N ≤ I) = false := by simp; omega
          have hI : I < N := by omega
          have hI' : (I : Int) < (N : Int) := by omega
          clear hbad
          have c0 := HBk.out.cell I hI
          have f0 := HBk.out.free I
          have HST := Lib.hid (HBk.out.set I true hI)
          have HGS : Hid (∀ v, w.grownBy (wr.setCell ⟨g, I, none⟩ v) none) := Lib.hid (fun v => gb_new HGk.out g I v (by rw [HGE.out]; exact Nat.le_refl _))
          cases hβ : β I
          · rw [hβ] at c0 hrk
            rw [if_neg (by decide)] at hrk
            have HRR := Lib.hid hrk
            clear hrk hβ
            go_wp2_with fail
            exact ⟨⟨k + 1, _, by omega, by go_num, HST, Lib.hid (HGS.out _), HRR⟩, by simp [intOf]; omega⟩
          · rw [hβ] at c0 hrk
            rw [if_pos rfl] at hrk
            have hE7 : E = 6 := by rw [HE.out, ← hrk]
            have hS7 : S = ⟨#[]⟩ := by rw [HS.out, if_neg (by rw [hE7]; decide)]
            have HE7 := Lib.hid hE7
            have HS7 := Lib.hid hS7
            clear hrk hβ hE7 hS7
            go_wp2_with fail
            go_ret2
            exact ⟨by rw [HE7.out, HS7.out] <;> rfl, HGk.out⟩
      · obtain rfl : k = len := by omega
        have hrk := HRk.out
        rw [List.drop_of_length_le (by rw [HLE.out]; exact Nat.le_refl _)] at hrk
        have hE7 : E = 0 := by rw [HE.out, ← hrk]; rfl
        have hS7 : S = fld ((N + 7) / 8) (lim N β) := by rw [HS.out, if_pos hE7, ← hrk]; rfl
        have HE7 := Lib.hid hE7
        have HS7 := Lib.hid hS7
        clear hrk hE7 hS7
        go_wp2_with fail
        refine (HF.out _ _ _ g _ (fun _ => ⟨g, rfl, Nat.le_refl _, HBk.out⟩)).mono ?_
        rintro e w2 ⟨rfl, hg2⟩
        have HG2 := Lib.hid (gb_trans HGk.out hg2)
        clear hg2
        go_wp2_with fail
        go_ret2
        exact ⟨by rw [HE7.out, HS7.out] <;> rfl, HG2.out⟩

theorem ofL_snoc (N : Int) (i : Int) : ∀ (l : List Int) (γ : Nat → Bool), (ofL N l γ).1 = 0 → ofL N (l ++ [i]) γ = ofL N [i] (ofL N l γ).2 := by
  intro l
  induction l with
  | nil => intro γ _; rfl
  | cons z l ih =>
    intro γ h
    have e : ofL N (z :: l) γ = if z < 0 ∨ N ≤ z then (7, γ) else if γ z.toNat = true then (6, γ) else ofL N l (upd γ z.toNat true) := rfl
    have e2 : ofL N (z :: (l ++ [i])) γ = if z < 0 ∨ N ≤ z then (7, γ) else if γ z.toNat = true then (6, γ) else ofL N (l ++ [i]) (upd γ z.toNat true) := rfl
    rw [List.cons_append, e2]
    rw [e] at h ⊢
    by_cases h1 : z < 0 ∨ N ≤ z
    · rw [if_pos h1] at h; simp at h
    · rw [if_neg h1] at h ⊢
      rw [if_neg h1]
      by_cases h2 : γ z.toNat = true
      · rw [if_pos h2] at h; simp at h
      · rw [if_neg h2] at h ⊢
        rw [if_neg h2]
        exact ih _ h
theorem of_nbl (β : Nat → Bool) (N : Nat) : ∀ k, k ≤ N → ofL N (nbl β k) (fun _ => false) = (0, fun j => decide (j < k) && β j) := by
  intro k
  induction k with
  | zero => intro _; rw [nbl, ofL]; simp
  | succ k ih =>
    intro h
    have := ih (by omega)
    cases hb : β k
    · rw [nbl_f hb, this]
      congr 1
      funext j
      by_cases e : j = k
      · subst e; simp [hb]
      · rw [show decide (j < k + 1) = decide (j < k) by simp; omega]
    · rw [nbl_t hb, ofL_snoc _ _ _ _ (by rw [this]), this, ofL, if_neg (by omega), if_neg (by simp), ofL]
      congr 1
      funext j
      rw [Int.toNat_natCast]
      unfold upd
      by_cases e : j = k
      · subst e; simp [hb]
      · rw [if_neg e, show decide (j < k + 1) = decide (j < k) by simp; omega]
/-- what a field's numbers make is the field -/
theorem of_list {n : Int} {s : ByteArray} (hc : chk n s = 0) : ofE n (liL n s) = 0 ∧ ofS n (liL n s) = s := by
  have hv := chk_t hc
  obtain ⟨N, rfl, h1, _⟩ := vd_t hv
  have eL : liL N s = nbl (bt s) N := by rw [liL, if_pos hc, Int.toNat_natCast]
  have e0 : ofE N (liL N s) = 0 := by unfold ofE; rw [if_pos (rgt_of h1), eL, of_nbl _ _ _ (Nat.le_refl _)]
  refine ⟨e0, ?_⟩
  unfold ofS
  rw [if_pos e0, Int.toNat_natCast, eL, of_nbl _ _ _ (Nat.le_refl _)]
  rw [← tf_self hv]
  refine tf_congr fun i hi => ?_
  simp only [decide_eq_true hi, Bool.true_and]
  rw [tf_self hv]

set_option maxRecDepth 100000 in
set_option maxHeartbeats 1600000 in
/-- two rows of the same numbers -/
theorem Ints_any (a b : Option Addr) (ca cb : Nat) (zs : List Int) (w : World) (ha : IL w a zs) (hb : IL w b zs) (hl : zs.length ≤ 100000) :
    Calls Tryd.prog 37 #[.slice a zs.length ca, .slice b zs.length cb] w fun e w' => e = .returned (.bool true) ∧ w.grownBy w' none := by
  have HIA := Lib.hid ha
  have HIB := Lib.hid hb
  obtain ⟨len, hlen⟩ : ∃ len, zs.length = len := ⟨_, rfl⟩
  have HLE := Lib.hid hlen
  rw [hlen] at hl ⊢
  clear hlen ha hb
  go_enter Tryd.func37, Tryd.ntmps37
  go_wp2_with fail
  go_loopw [5, 13] (fun _ i wr => ∃ k : Nat, k ≤ len ∧ i = .int .i64 k ∧ Hid (w.grownBy wr none)) (fun _ i _ => len - (intOf i).toNat)
  case atStart => exact ⟨0, Nat.zero_le _, rfl, Lib.hid (gb_refl _ _)⟩
  case round =>
    obtain ⟨k, hk, rfl, HG⟩ := hrel
    by_cases hlt : k < len
    · have hlt' : (k : Int) < (len : Int) := by omega
      obtain ⟨za, offa, rfl, hza⟩ := HIA.out (by rw [HLE.out]; omega)
      obtain ⟨zb, offb, rfl, hzb⟩ := HIB.out (by rw [HLE.out]; omega)
      have c1 := gb_cell HG.out (hza k (by rw [HLE.out]; exact hlt)) (by simp)
      have c2 := gb_cell HG.out (hzb k (by rw [HLE.out]; exact hlt)) (by simp)
      clear hza hzb
      obtain ⟨z, hz⟩ : ∃ z, zs.getD k 0 = z := ⟨_, rfl⟩
      rw [hz] at c1 c2
      clear hz
      go_wp2_with fail
      go_quiet (fail)
      go_wp2
      go_roundw
      case rel => exact ⟨k + 1, by omega, by go_num, Lib.hid (gb_trans HG.out (gb_drew _ _ _))⟩
      case measure => simp [intOf]; omega
    · obtain rfl : k = len := by omega
      go_wp2_with fail
      go_ret
      exact ⟨rfl, HG.out⟩
end Go.Proofs.YtbeaohnjifcgaaaDoor.Bh
