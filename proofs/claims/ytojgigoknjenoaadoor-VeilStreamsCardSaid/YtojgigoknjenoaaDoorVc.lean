/-
  Veiled streams: Looks of both, awake, the reference's Stream.
-/
import Derived.Test.YtojgigoknjenoaaDoorVb
namespace Go.Proofs.YtojgigoknjenoaaDoor.Vb
open Go Go.RowKit Go.Shelf Go.Proofs.YtojgigoknjenoaaDoor.Hh Go.Proofs.YtojgigoknjenoaaDoor.Sx Go.Proofs.YtojgigoknjenoaaDoor.Hi

/-- how a beginning looks -/
def lkN (s : ByteArray) : Nat := if s.size < 20 then s.size else 20
def lkB (s : ByteArray) : Bool := (s.extract 0 (lkN s)).toList == (prot.extract 0 (lkN s)).toList
def lk (s : ByteArray) : Int := if s.toList.isEmpty = true then 0 else if lkB s = true then 1 else 2
theorem lk_data (s : ByteArray) : lk s = if s.data.toList.isEmpty = true then 0 else if ((s.extract 0 (lkN s)).data.toList == (prot.extract 0 (lkN s)).data.toList) = true then 1 else 2 := by
  unfold lk lkB
  rw [ByteArray.toList_eq, ByteArray.toList_eq, ByteArray.toList_eq]
theorem lk_one : lk ⟨#[19, 99, 111, 118]⟩ = 1 := by rw [lk_data]; rfl
theorem lk_two : lk ⟨#[49, 50, 51, 52, 53, 54, 55, 56]⟩ = 2 := by rw [lk_data]; rfl
theorem lk_zero : lk ⟨#[]⟩ = 0 := by rw [lk_data]; rfl

set_option maxRecDepth 100000 in
set_option maxHeartbeats 800000 in
theorem Looks_any (s : ByteArray) (w : World) : Calls Tryd.prog 7 #[.string s] w fun e w' => e = .returned (.int .i64 (lk s)) ∧ w.grownBy w' none := by
  by_cases h0 : s.toList.isEmpty = true
  · rw [show lk s = 0 from if_pos h0]
    go_enter Tryd.func7, Tryd.ntmps7
    go_wp2
    go_ret
    exact ⟨rfl, gb_refl _ _⟩
  · rw [Bool.not_eq_true] at h0
    obtain ⟨n, hn⟩ : ∃ n, lkN s = n := ⟨_, rfl⟩
    have hn20 : n ≤ 20 := by rw [← hn]; unfold lkN; split <;> omega
    have hns : n ≤ s.size := by rw [← hn]; unfold lkN; split <;> omega
    have hmin : min (s.size : Int) 20 = (n : Int) := by rw [← hn]; unfold lkN; split <;> omega
    have c1 : (n : Int) ≤ (s.size : Int) := by omega
    have c2 : (n : Int) ≤ 20 := by omega
    obtain ⟨b, hb⟩ : ∃ b, lkB s = b := ⟨_, rfl⟩
    have HL : Hid (lk s = if b = true then 1 else 2) := Lib.hid (by unfold lk; rw [h0, hb]; rfl)
    have hb2 : ((s.extract 0 n).toList == ((⟨#[19, 99, 111, 118, 101, 121, 32, 112, 101, 101, 114, 32, 112, 114, 111, 116, 111, 99, 111, 108]⟩ : ByteArray).extract 0 n).toList) = b := by
      rw [← hb, ← hn]; rfl
    clear hn hb
    cases b
    · go_enter Tryd.func7, Tryd.ntmps7
      go_wp2_with fail
      go_region
      all_goals
        go_wp2
        go_ret
        exact ⟨by rw [HL.out]; rfl, gb_drew _ _ _⟩
    · go_enter Tryd.func7, Tryd.ntmps7
      go_wp2_with fail
      go_region
      all_goals
        go_wp2
        go_ret
        exact ⟨by rw [HL.out]; rfl, gb_drew _ _ _⟩

set_option maxRecDepth 100000 in
set_option maxHeartbeats 800000 in
theorem RLooks_any (s : ByteArray) (w : World) : Calls Tryd.prog 8 #[.string s] w fun e w' => e = .returned (.int .i64 (lk s)) ∧ w.grownBy w' none := by
  by_cases h0 : s.toList.isEmpty = true
  · rw [show lk s = 0 from if_pos h0]
    have hmin : min (s.size : Int) 20 = 0 := by
      have : s.size = 0 := by rw [← len_data]; rw [ByteArray.toList_eq, List.isEmpty_iff] at h0; rw [h0]; rfl
      omega
    go_enter Tryd.func8, Tryd.ntmps8
    go_wp2
    go_ret
    exact ⟨rfl, gb_refl _ _⟩
  · rw [Bool.not_eq_true] at h0
    obtain ⟨n, hn⟩ : ∃ n, lkN s = n := ⟨_, rfl⟩
    have hn20 : n ≤ 20 := by rw [← hn]; unfold lkN; split <;> omega
    have hns : n ≤ s.size := by rw [← hn]; unfold lkN; split <;> omega
    have hmin : min (s.size : Int) 20 = (n : Int) := by rw [← hn]; unfold lkN; split <;> omega
    have c1 : (n : Int) ≤ (s.size : Int) := by omega
    have c2 : (n : Int) ≤ 20 := by omega
    obtain ⟨b, hb⟩ : ∃ b, lkB s = b := ⟨_, rfl⟩
    have HL : Hid (lk s = if b = true then 1 else 2) := Lib.hid (by unfold lk; rw [h0, hb]; rfl)
    have hb2 : ((s.extract 0 n).toList == ((⟨#[19, 99, 111, 118, 101, 121, 32, 112, 101, 101, 114, 32, 112, 114, 111, 116, 111, 99, 111, 108]⟩ : ByteArray).extract 0 n).toList) = b := by
      rw [← hb, ← hn]; rfl
    clear hn hb
    cases b
    · go_enter Tryd.func8, Tryd.ntmps8
      go_wp2_with fail
      go_region
      all_goals
        go_wp2
        go_ret
        exact ⟨by rw [HL.out]; rfl, gb_drew _ _ _⟩
    · go_enter Tryd.func8, Tryd.ntmps8
      go_wp2_with fail
      go_region
      all_goals
        go_wp2
        go_ret
        exact ⟨by rw [HL.out]; rfl, gb_drew _ _ _⟩

set_option maxRecDepth 100000 in
set_option maxHeartbeats 800000 in
theorem awake_any (w : World) : Calls Tryd.prog 4 #[] w fun e w' => e = .returned (.bool true) ∧ w.grownBy w' none := by
  have H1 : Hid (∀ w, Calls Tryd.prog 7 #[.string ⟨#[19, 99, 111, 118]⟩] w fun e w' => e = .returned (.int .i64 1) ∧ w.grownBy w' none) := Lib.hid fun w => by have := Looks_any ⟨#[19, 99, 111, 118]⟩ w; rwa [lk_one] at this
  have H2 : Hid (∀ w, Calls Tryd.prog 7 #[.string ⟨#[49, 50, 51, 52, 53, 54, 55, 56]⟩] w fun e w' => e = .returned (.int .i64 2) ∧ w.grownBy w' none) := Lib.hid fun w => by have := Looks_any ⟨#[49, 50, 51, 52, 53, 54, 55, 56]⟩ w; rwa [lk_two] at this
  have H3 : Hid (∀ w, Calls Tryd.prog 7 #[.string ⟨#[]⟩] w fun e w' => e = .returned (.int .i64 0) ∧ w.grownBy w' none) := Lib.hid fun w => by have := Looks_any ⟨#[]⟩ w; rwa [lk_zero] at this
  go_enter Tryd.func4, Tryd.ntmps4
  go_wp2_with fail
  refine (H1.out _).mono ?_
  rintro e w1 ⟨rfl, g1⟩
  go_wp2_with fail
  refine (H2.out _).mono ?_
  rintro e w2 ⟨rfl, g2⟩
  go_wp2_with fail
  refine (H3.out _).mono ?_
  rintro e w3 ⟨rfl, g3⟩
  go_wp2
  go_ret
  exact ⟨rfl, gb_trans (gb_trans g1 g2) g3⟩

/-- what Stream tells -/
def vE (q : Int) (sh nm : ByteArray) (F C : Int) : Int := if nm.size ≠ 20 then 1 else if (q ≠ 65 ∧ q ≠ 66) ∨ badS F C then 7 else if sh.size ≠ 8 then 11 else 0
def vS (q : Int) (sh nm : ByteArray) (F C : Int) : ByteArray := if vE q sh nm F C = 0 then sgB (ky q sh nm) F.toNat C.toNat else ⟨#[]⟩
theorem v_one {q : Int} {sh nm : ByteArray} {F C : Int} (h : nm.size ≠ 20) : vE q sh nm F C = 1 ∧ vS q sh nm F C = ⟨#[]⟩ := by
  have e : vE q sh nm F C = 1 := if_pos h
  exact ⟨e, if_neg (by rw [e]; decide)⟩
theorem v_seven {q : Int} {sh nm : ByteArray} {F C : Int} (h : nm.size = 20) (h2 : (q ≠ 65 ∧ q ≠ 66) ∨ badS F C) : vE q sh nm F C = 7 ∧ vS q sh nm F C = ⟨#[]⟩ := by
  have e : vE q sh nm F C = 7 := by unfold vE; rw [if_neg (by omega), if_pos h2]
  exact ⟨e, if_neg (by rw [e]; decide)⟩
theorem v_eleven {q : Int} {sh nm : ByteArray} {F C : Int} (h : nm.size = 20) (h2 : ¬ ((q ≠ 65 ∧ q ≠ 66) ∨ badS F C)) (h3 : sh.size ≠ 8) : vE q sh nm F C = 11 ∧ vS q sh nm F C = ⟨#[]⟩ := by
  have e : vE q sh nm F C = 11 := by unfold vE; rw [if_neg (by omega), if_neg h2, if_pos h3]
  exact ⟨e, if_neg (by rw [e]; decide)⟩
theorem v_zero {q : Int} {sh nm : ByteArray} {F C : Int} (h : nm.size = 20) (h2 : ¬ ((q ≠ 65 ∧ q ≠ 66) ∨ badS F C)) (h3 : sh.size = 8) : vE q sh nm F C = 0 ∧ vS q sh nm F C = sgB (ky q sh nm) F.toNat C.toNat := by
  have e : vE q sh nm F C = 0 := by unfold vE; rw [if_neg (by omega), if_neg h2, if_neg (by omega)]
  exact ⟨e, if_pos e⟩

/-- the reference refuses -/
abbrev RS (q : Int) (sh nm : ByteArray) (F C : Int) (w : World) (s : ByteArray) (k : Int) : Prop :=
  Calls Tryd.prog 6 #[.int .u8 q, .string sh, .string nm, .int .i64 F, .int .i64 C] w fun e w' => e = .returned (.tuple #[.string s, .int .i64 k]) ∧ w.grownBy w' none
set_option maxRecDepth 100000 in
set_option maxHeartbeats 800000 in
theorem rs_one (q : Int) (sh nm : ByteArray) (F C : Int) (w : World) (h : nm.size ≠ 20) : RS q sh nm F C w ⟨#[]⟩ 1 := by
  have d : ((nm.size : Int) == 20) = false := by rw [beq_eq_false_iff_ne]; omega
  have d2 : ¬ ((nm.size : Int) = 20) := by omega
  unfold RS
  go_enter Tryd.func6, Tryd.ntmps6
  go_wp2
  go_ret2
  exact ⟨rfl, gb_refl _ _⟩
set_option maxRecDepth 100000 in
set_option maxHeartbeats 800000 in
theorem rs_who (q : Int) (sh nm : ByteArray) (F C : Int) (w : World) (h : nm.size = 20) (h5 : q ≠ 65) (h6 : q ≠ 66) : RS q sh nm F C w ⟨#[]⟩ 7 := by
  have d : (nm.size : Int) = 20 := by omega
  have e5 : (q == 65) = false := by rw [beq_eq_false_iff_ne]; exact h5
  have e6 : (q == 66) = false := by rw [beq_eq_false_iff_ne]; exact h6
  unfold RS
  go_enter Tryd.func6, Tryd.ntmps6
  go_wp2
  go_ret2
  exact ⟨rfl, gb_refl _ _⟩
set_option maxRecDepth 100000 in
set_option maxHeartbeats 1600000 in
theorem rs_bad (q : Int) (sh nm : ByteArray) (F C : Int) (w : World) (h : nm.size = 20) (hq : q = 65 ∨ q = 66) (hb : badS F C) : RS q sh nm F C w ⟨#[]⟩ 7 := by
  have d : (nm.size : Int) = 20 := by omega
  have h4 : (F < 0) ∨ (0 ≤ F ∧ C < 0) ∨ (0 ≤ F ∧ 0 ≤ C ∧ 65536 < F) ∨ (0 ≤ F ∧ 0 ≤ C ∧ F ≤ 65536 ∧ 65536 - F < C) := by unfold badS at hb; omega
  clear hb
  unfold RS
  rcases hq with rfl | rfl
  all_goals
    rcases h4 with h | h | h | h
    · have d1 : decide (F < 0) = true := by simp; omega
      clear h
      go_enter Tryd.func6, Tryd.ntmps6
      go_wp2
      go_ret2
      exact ⟨rfl, gb_refl _ _⟩
    · have d1 : decide (F < 0) = false := by simp; omega
      have d2 : decide (C < 0) = true := by simp; omega
      clear h
      go_enter Tryd.func6, Tryd.ntmps6
      go_wp2
      go_ret2
      exact ⟨rfl, gb_refl _ _⟩
    · have d1 : decide (F < 0) = false := by simp; omega
      have d2 : decide (C < 0) = false := by simp; omega
      have d3 : decide (65536 < F) = true := by simp; omega
      clear h
      go_enter Tryd.func6, Tryd.ntmps6
      go_wp2
      go_ret2
      exact ⟨rfl, gb_refl _ _⟩
    · have d1 : decide (F < 0) = false := by simp; omega
      have d2 : decide (C < 0) = false := by simp; omega
      have d3 : decide (65536 < F) = false := by simp; omega
      have d4 : decide (65536 - F < C) = true := by simp; omega
      have f0 : 0 ≤ F := by omega
      have f1 : F ≤ 65536 := by omega
      clear h
      go_enter Tryd.func6, Tryd.ntmps6
      go_wp2
      go_ret2
      exact ⟨rfl, gb_refl _ _⟩
set_option maxRecDepth 100000 in
set_option maxHeartbeats 1600000 in
theorem rs_size (q : Int) (sh nm : ByteArray) (F C : Int) (w : World) (h : nm.size = 20) (hq : q = 65 ∨ q = 66) (hb : ¬ badS F C) (hs : sh.size ≠ 8) : RS q sh nm F C w ⟨#[]⟩ 11 := by
  have d : (nm.size : Int) = 20 := by omega
  have ds : ((sh.size : Int) == 8) = false := by rw [beq_eq_false_iff_ne]; omega
  have ds2 : ¬ ((sh.size : Int) = 8) := by omega
  have h4 : 0 ≤ F ∧ 0 ≤ C ∧ F ≤ 65536 ∧ C ≤ 65536 - F := by unfold badS at hb; omega
  clear hb
  have d1 : decide (F < 0) = false := by simp; omega
  have d2 : decide (C < 0) = false := by simp; omega
  have d3 : decide (65536 < F) = false := by simp; omega
  have d4 : decide (65536 - F < C) = false := by simp; omega
  have f0 : 0 ≤ F := by omega
  have f1 : F ≤ 65536 := by omega
  clear h4
  unfold RS
  rcases hq with rfl | rfl
  all_goals
    go_enter Tryd.func6, Tryd.ntmps6
    go_wp2
    go_ret2
    exact ⟨rfl, gb_refl _ _⟩
set_option maxRecDepth 100000 in
set_option maxHeartbeats 1600000 in
theorem rs_good (q : Int) (sh nm : ByteArray) (F C : Int) (w : World) (h : nm.size = 20) (hq : q = 65 ∨ q = 66) (hb : ¬ badS F C) (hs : sh.size = 8) (hC1 : C ≤ 1000) : RS q sh nm F C w (sgB (ky q sh nm) F.toNat C.toNat) 0 := by
  have d : (nm.size : Int) = 20 := by omega
  have ds : (sh.size : Int) = 8 := by omega
  have h4 : 0 ≤ F ∧ 0 ≤ C ∧ F ≤ 65536 ∧ C ≤ 65536 - F := by unfold badS at hb; omega
  clear hb
  have d1 : decide (F < 0) = false := by simp; omega
  have d2 : decide (C < 0) = false := by simp; omega
  have d3 : decide (65536 < F) = false := by simp; omega
  have d4 : decide (65536 - F < C) = false := by simp; omega
  have f0 : 0 ≤ F := by omega
  have f1 : F ≤ 65536 := by omega
  have HS : Hid (∀ w, Calls Tryd.prog 15 #[.int .u8 q, .string sh, .string nm, .int .i64 F, .int .i64 C] w fun e w' => e = .returned (.string (sgB (ky q sh nm) F.toNat C.toNat)) ∧ w.grownBy w' none) := Lib.hid fun w => by
    have := rstream_any q sh nm F.toNat C.toNat w (by omega) (by omega) (by omega) (by omega) (by omega)
    rwa [Int.toNat_of_nonneg (by omega), Int.toNat_of_nonneg (by omega)] at this
  obtain ⟨T, hT⟩ : ∃ T, sgB (ky q sh nm) F.toNat C.toNat = T := ⟨_, rfl⟩
  rw [hT] at HS ⊢
  clear hT h4
  unfold RS
  rcases hq with rfl | rfl
  all_goals
    go_enter Tryd.func6, Tryd.ntmps6
    go_wp2_with fail
    refine (HS.out _).mono ?_
    rintro e w1 ⟨rfl, g1⟩
    go_wp2
    go_ret2
    exact ⟨rfl, g1⟩
theorem RVStream_any (q : Int) (sh nm : ByteArray) (F C : Int) (w : World) (hC1 : C ≤ 1000 ∨ badS F C) : RS q sh nm F C w (vS q sh nm F C) (vE q sh nm F C) := by
  by_cases h : nm.size = 20
  · by_cases h2 : q ≠ 65 ∧ q ≠ 66
    · obtain ⟨e1, e2⟩ := v_seven (sh := sh) (F := F) (C := C) h (.inl h2)
      rw [e1, e2]; exact rs_who _ _ _ _ _ _ h h2.1 h2.2
    · by_cases h3 : badS F C
      · obtain ⟨e1, e2⟩ := v_seven (q := q) (sh := sh) h (.inr h3)
        rw [e1, e2]; exact rs_bad _ _ _ _ _ _ h (by omega) h3
      · by_cases h4 : sh.size = 8
        · obtain ⟨e1, e2⟩ := v_zero h (fun h => h.elim h2 h3) h4
          rw [e1, e2]; exact rs_good _ _ _ _ _ _ h (by omega) h3 h4 (hC1.elim id fun h => absurd h h3)
        · obtain ⟨e1, e2⟩ := v_eleven h (fun h => h.elim h2 h3) h4
          rw [e1, e2]; exact rs_size _ _ _ _ _ _ h (by omega) h3 h4
  · obtain ⟨e1, e2⟩ := v_one (q := q) (sh := sh) (F := F) (C := C) h
    rw [e1, e2]; exact rs_one _ _ _ _ _ _ h
end Go.Proofs.YtojgigoknjenoaaDoor.Vb
