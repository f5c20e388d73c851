/-
  Addresses: the law AddrNear: its walk.
-/
import Derived.Test.YtpmmilnoeoapoaaDoorBm
import Derived.Test.YtpmmilnoeoapoaaDoorBn
import Derived.Test.YtpmmilnoeoapoaaDoorBj
namespace Go.Proofs.YtpmmilnoeoapoaaDoor.Bo
open Go Go.RowKit Go.Proofs.YtpmmilnoeoapoaaDoor.Hz Go.Proofs.YtpmmilnoeoapoaaDoor.Ac Go.Proofs.YtpmmilnoeoapoaaDoor.Na Go.Proofs.YtpmmilnoeoapoaaDoor.Sx Go.Proofs.YtpmmilnoeoapoaaDoor.Ba Go.Proofs.YtpmmilnoeoapoaaDoor.Bk

/-- the boxes of three addresses -/
def bx3 (w : World) (a b c : Adr) : World := ((w.alloc (.cells #[.int .i64 a.f, .string a.ip, .int .i64 a.p] 23)).alloc (.cells #[.int .i64 b.f, .string b.ip, .int .i64 b.p] 23)).alloc (.cells #[.int .i64 c.f, .string c.ip, .int .i64 c.p] 23)
def pick3 (a b c : Adr) (i : Nat) : Adr := if i = 0 then a else if i = 1 then b else c
def row3 (w : World) (a b c : Adr) : World := w.alloc (.cells #[.int .i64 a.f, .string a.ip, .int .i64 a.p, .int .i64 b.f, .string b.ip, .int .i64 b.p, .int .i64 c.f, .string c.ip, .int .i64 c.p] 23)
theorem bx3_al (w : World) (a b c : Adr) : AL (row3 (bx3 w a b c) a b c) w.heap.size a.f a.ip a.p ∧ AL (row3 (bx3 w a b c) a b c) (w.heap.size + 1) b.f b.ip b.p ∧ AL (row3 (bx3 w a b c) a b c) (w.heap.size + 2) c.f c.ip c.p := by
  unfold row3 bx3 AL
  simp [go_sem]
theorem bx3_below (w : World) (a b c : Adr) : Below w.heap.size w (row3 (bx3 w a b c) a b c) := by
  unfold row3 bx3
  exact below_gb (gb_trans (gb_trans (gb_trans (gb_alloc _ _ none) (gb_alloc _ _ _)) (gb_alloc _ _ _)) (gb_alloc _ _ _))
theorem bx3_row (w : World) (a b c : Adr) : AA (row3 (bx3 w a b c) a b c) (some ⟨w.heap.size + 3, 0, none⟩) 3 (pick3 a b c) := fun _ => by
  refine ⟨w.heap.size + 3, 0, rfl, by unfold row3 bx3; simp, fun i hi => ?_⟩
  obtain rfl | rfl | rfl : i = 0 ∨ i = 1 ∨ i = 2 := by omega
  all_goals
    unfold row3 bx3 pick3
    simp [go_sem]

set_option maxRecDepth 100000 in
set_option maxHeartbeats 1000000 in
theorem heavy (a b c : Adr) (w : World) (ht : Bh.Tab w) (h : ¬ lt40 (pick3 a b c) 3) :
    Calls Tryd.prog 3 #[.agg #[.int .i64 a.f, .string a.ip, .int .i64 a.p], .agg #[.int .i64 b.f, .string b.ip, .int .i64 b.p], .agg #[.int .i64 c.f, .string c.ip, .int .i64 c.p]] w fun e w' => e = .returned (.bool true) ∧ Below w.heap.size w w' := by
  have HL := Lib.hid (Light_any (some ⟨w.heap.size + 3, 0, none⟩) 3 3 (pick3 a b c) _ (by omega) (bx3_row w a b c))
  rw [decide_eq_false h] at HL
  have HW := Lib.hid (bx3_below w a b c)
  unfold row3 bx3 at HL HW
  have HA := Lib.hid (fun w ht => Bj.awake_any w ht)
  have HT := Lib.hid ht
  clear ht h
  go_enter Tryd.func3, Tryd.ntmps3
  go_wp2_with fail
  refine HL.out.mono ?_
  rintro e w1 ⟨rfl, hb⟩
  have hb1 := blw HW.out hb
  go_wp2_with fail
  refine (HA.out _ (HT.out.below hb1)).mono ?_
  rintro e w2 ⟨rfl, hb2⟩
  have hb3 := blw hb1 hb2
  go_wp2
  go_ret
  exact ⟨rfl, hb3⟩

theorem near3 (a b c : Adr) (x p q r : Nat) (h1 : nrE a.f a.ip a.p b.f b.ip b.p = 0) (h2 : nrE b.f b.ip b.p c.f c.ip c.p = 0) (hx : nrS a.f a.ip a.p b.f b.ip b.p x) (hp : nrS b.f b.ip b.p c.f c.ip c.p p) (hq : nrS a.f a.ip a.p c.f c.ip c.p q) (hr : nrS a.f a.ip a.p a.f a.ip a.p r) :
    nrE a.f a.ip a.p c.f c.ip c.p = 0 ∧ nrE a.f a.ip a.p a.f a.ip a.p = 0 ∧ r = 8 * a.ip.size ∧ a.ip.size ≤ 16 ∧ ((x = p ∧ x ≤ q) ∨ (x = q ∧ x ≤ p) ∨ (p = q ∧ p ≤ x)) ∧ x ≤ 128 ∧ p ≤ 128 ∧ q ≤ 128 := by
  have split : ∀ {f : Int} {ip : ByteArray} {p : Int} {g : Int} {iq : ByteArray} {q : Int}, nrE f ip p g iq q = 0 → okA f ip p ∧ okA g iq q ∧ f = g := by
    intro f ip p g iq q h
    unfold nrE at h
    by_cases e : okA f ip p ∧ okA g iq q
    · rw [if_pos e] at h
      by_cases e2 : f = g
      · exact ⟨e.1, e.2, e2⟩
      · rw [if_neg e2] at h; omega
    · rw [if_neg e] at h; omega
  obtain ⟨oa, ob, eab⟩ := split h1
  obtain ⟨_, oc, ebc⟩ := split h2
  have h3 : nrE a.f a.ip a.p c.f c.ip c.p = 0 := by unfold nrE; rw [if_pos ⟨oa, oc⟩, if_pos (by omega)]
  have h4 : nrE a.f a.ip a.p a.f a.ip a.p = 0 := by unfold nrE; rw [if_pos ⟨oa, oa⟩, if_pos rfl]
  have sa := oa.1
  have sb := ob.1
  have hs : b.ip.size = a.ip.size := by omega
  unfold nrS at hx hp hq hr
  rw [if_pos h1] at hx
  rw [if_pos h2, hs] at hp
  rw [if_pos h3] at hq
  rw [if_pos h4] at hr
  have := hx.le
  have := hp.le
  have := hq.le
  exact ⟨h3, h4, hr.uniq (isF_self _ _), by omega, tri hx hp hq, by omega, by omega, by omega⟩
/-- how many of the first ones are so -/
def cnt (f : Nat → Bool) : Nat → Nat
  | 0 => 0
  | k + 1 => if f k then cnt f k + 1 else cnt f k
theorem cnt_le (f : Nat → Bool) (k : Nat) : cnt f k ≤ k := by
  induction k with
  | zero => exact Nat.le_refl _
  | succ k ih =>
    unfold cnt
    split
    · omega
    · omega
theorem cnt_yes (f : Nat → Bool) (k : Nat) (h : f k = true) : cnt f (k + 1) = cnt f k + 1 := if_pos h
theorem cnt_no (f : Nat → Bool) (k : Nat) (h : f k = false) : cnt f (k + 1) = cnt f k := if_neg (by rw [h]; decide)
def v3 (x p q : Nat) (j : Nat) : Int := if j = 0 then (x : Int) else if j = 1 then (p : Int) else (q : Int)
theorem cnt3 (x p q : Nat) (m : Int) (hm : m = min (min (x : Int) (p : Int)) (q : Int)) (h : (x = p ∧ x ≤ q) ∨ (x = q ∧ x ≤ p) ∨ (p = q ∧ p ≤ x)) : ∃ f : Nat → Bool, (∀ k, (v3 x p q k == m) = f k) ∧ 2 ≤ cnt f 3 := by
  refine ⟨fun k => v3 x p q k == m, fun _ => rfl, ?_⟩
  have e : cnt (fun k => v3 x p q k == m) 3 = (if (x : Int) = m then 1 else 0) + (if (p : Int) = m then 1 else 0) + (if (q : Int) = m then 1 else 0) := by
    simp only [cnt, v3]
    by_cases h1 : (x : Int) = m <;> by_cases h2 : (p : Int) = m <;> by_cases h3 : (q : Int) = m <;> simp [h1, h2, h3]
  rw [e]
  rcases h with ⟨h1, h2⟩ | ⟨h1, h2⟩ | ⟨h1, h2⟩
  · rw [if_pos (show (x : Int) = m by omega), if_pos (show (p : Int) = m by omega)]; omega
  · rw [if_pos (show (x : Int) = m by omega), if_pos (show (q : Int) = m by omega)]; omega
  · rw [if_pos (show (p : Int) = m by omega), if_pos (show (q : Int) = m by omega)]; omega

set_option maxRecDepth 100000 in
set_option maxHeartbeats 4000000 in
theorem light (a b c : Adr) (w : World) (ht : Bh.Tab w) (h : lt40 (pick3 a b c) 3) :
    Calls Tryd.prog 3 #[.agg #[.int .i64 a.f, .string a.ip, .int .i64 a.p], .agg #[.int .i64 b.f, .string b.ip, .int .i64 b.p], .agg #[.int .i64 c.f, .string c.ip, .int .i64 c.p]] w fun e w' => e = .returned (.bool true) ∧ Below w.heap.size w w' := by
  have HL := Lib.hid (Light_any (some ⟨w.heap.size + 3, 0, none⟩) 3 3 (pick3 a b c) _ (by omega) (bx3_row w a b c))
  rw [decide_eq_true h] at HL
  have HW := Lib.hid (bx3_below w a b c)
  have HX := Lib.hid (bx3_al w a b c)
  have HU := Lib.hid (show row3 (bx3 w a b c) a b c = row3 (bx3 w a b c) a b c from rfl)
  generalize hW0 : row3 (bx3 w a b c) a b c = W0 at HL HW HX
  clear HU
  have HW0 := Lib.hid hW0
  unfold row3 bx3 at HW0
  clear hW0
  have HA := Lib.hid (fun w ht => Bj.awake_any w ht)
  have HT := Lib.hid ht
  have N1 := Lib.hid (fun w => Near_any a.f a.ip a.p b.f b.ip b.p w)
  have R1 := Lib.hid (fun w => RNear_any a.f a.ip a.p b.f b.ip b.p w)
  have N2 := Lib.hid (fun w => Near_any b.f b.ip b.p c.f c.ip c.p w)
  have N3 := Lib.hid (fun w => Near_any a.f a.ip a.p c.f c.ip c.p w)
  have N4 := Lib.hid (fun w => Near_any a.f a.ip a.p a.f a.ip a.p w)
  have HG := Lib.hid (near3 a b c)
  have U1 := Lib.hid (fun n m (h : nrS a.f a.ip a.p b.f b.ip b.p n) (k : nrS a.f a.ip a.p b.f b.ip b.p m) => nrS_uniq h k)
  clear ht h
  generalize nrE a.f a.ip a.p b.f b.ip b.p = E1 at N1 R1 HG
  generalize nrE b.f b.ip b.p c.f c.ip c.p = E2 at N2 HG
  generalize nrE a.f a.ip a.p c.f c.ip c.p = E3 at N3 HG
  generalize nrE a.f a.ip a.p a.f a.ip a.p = E4 at N4 HG
  generalize nrS a.f a.ip a.p b.f b.ip b.p = S1 at N1 R1 HG U1
  generalize nrS b.f b.ip b.p c.f c.ip c.p = S2 at N2 HG
  generalize nrS a.f a.ip a.p c.f c.ip c.p = S3 at N3 HG
  generalize nrS a.f a.ip a.p a.f a.ip a.p = S4 at N4 HG
  have hEE : (E1 != E1) = false := by simp
  go_enter Tryd.func3, Tryd.ntmps3
  go_wp2_with fail
  rw [HW0.out]
  refine HL.out.mono ?_
  rintro e w1 ⟨rfl, hb⟩
  have hb1 := blw HW.out hb
  have A1 := HX.out.1.below hb
  have A2 := HX.out.2.1.below hb
  have A3 := HX.out.2.2.below hb
  clear hb
  obtain ⟨a0, a1, a2⟩ := A1
  obtain ⟨b0, b1, b2⟩ := A2
  go_wp2_with fail
  refine (N1.out _).mono ?_
  rintro e w2 ⟨⟨x, rfl, hx⟩, hb⟩
  have hb2 := blw hb1 hb
  have A1 := AL.below ⟨a0, a1, a2⟩ hb
  have A2 := AL.below ⟨b0, b1, b2⟩ hb
  have A3 := A3.below hb
  clear a0 a1 a2 b0 b1 b2 hb hb1
  obtain ⟨a0, a1, a2⟩ := A1
  obtain ⟨b0, b1, b2⟩ := A2
  go_wp2_with fail
  refine (R1.out _).mono ?_
  rintro e w3 ⟨⟨x', rfl, hx'⟩, hb⟩
  obtain rfl : x = x' := U1.out _ _ hx hx'
  have hb3 := blw hb2 hb
  have A1 := AL.below ⟨a0, a1, a2⟩ hb
  have A2 := AL.below ⟨b0, b1, b2⟩ hb
  have A3 := A3.below hb
  clear a0 a1 a2 b0 b1 b2 hb hb2 hx'
  obtain ⟨b0, b1, b2⟩ := A2
  obtain ⟨c0, c1, c2⟩ := A3
  have hxx : ((x : Int) != (x : Int)) = false := by simp
  go_wp2_with fail
  refine (N2.out _).mono ?_
  rintro e w4 ⟨⟨p, rfl, hp⟩, hb⟩
  have hb4 := blw hb3 hb
  have A1 := A1.below hb
  have A3 := AL.below ⟨c0, c1, c2⟩ hb
  clear b0 b1 b2 c0 c1 c2 hb hb3
  obtain ⟨a0, a1, a2⟩ := A1
  obtain ⟨c0, c1, c2⟩ := A3
  go_wp2_with fail
  refine (N3.out _).mono ?_
  rintro e w5 ⟨⟨q, rfl, hq⟩, hb⟩
  have hb5 := blw hb4 hb
  have A1 := AL.below ⟨a0, a1, a2⟩ hb
  clear a0 a1 a2 c0 c1 c2 hb hb4
  obtain ⟨a0, a1, a2⟩ := A1
  have HB5 := Lib.hid hb5
  clear hb5
  by_cases z1 : E1 = 0
  · by_cases z2 : E2 = 0
    · have y1 : (E1 == 0) = true := by simpa using z1
      have y2 : (E2 == 0) = true := by simpa using z2
      go_wp2_with fail
      refine (N4.out _).mono ?_
      rintro e w6 ⟨⟨r, rfl, hr⟩, hb⟩
      have HB6 := Lib.hid (blw HB5.out hb)
      obtain ⟨a0, a1, a2⟩ := AL.below ⟨a0, a1, a2⟩ hb
      clear hb
      obtain ⟨z3, z4, z5, z6, htri, z7, z8, z9⟩ := HG.out x p q r z1 z2 hx hp hq hr
      have HTR := Lib.hid htri
      subst z5
      have y3 : (E3 != 0) = false := by simpa using z3
      have y4 : (E4 != 0) = false := by simpa using z4
      have hrr : ((8 * a.ip.size : Nat) : Int) = 8 * (a.ip.size : Int) := by omega
      have hr8 : (8 * (a.ip.size : Int) != 8 * (a.ip.size : Int)) = false := by simp
      clear htri HG hx hp hq hr
      rw [hrr]
      obtain ⟨M, hM⟩ : ∃ M, M = min (min (x : Int) (p : Int)) (q : Int) := ⟨_, rfl⟩
      obtain ⟨bf, hbf, hc3⟩ := cnt3 x p q M hM HTR.out
      have HBF := Lib.hid hbf
      have HC3 := Lib.hid hc3
      clear hbf hc3
      go_wp2_with fail
      all_goals
        obtain ⟨W6, hW6⟩ : ∃ W6, w6.alloc (.cells #[.int .i64 (x : Int), .int .i64 (p : Int), .int .i64 (q : Int)] 3) = W6 := ⟨_, rfl⟩
        have hr6 : W6.heap[w6.heap.size]? = some (.cells #[.int .i64 (x : Int), .int .i64 (p : Int), .int .i64 (q : Int)] 3) := by rw [← hW6]; exact World.alloc_heap_new _ _
        have HB7 := Lib.hid (show Below w.heap.size w W6 from by rw [← hW6]; exact blw_alloc HB6.out)
        rw [hW6]
        clear hW6
        have HV := Lib.hid (show ∀ j, j < 3 → W6.cell? ⟨w6.heap.size, j, none⟩ = some (.int .i64 (v3 x p q j)) from fun j hj => by
          obtain rfl | rfl | rfl : j = 0 ∨ j = 1 ∨ j = 2 := by omega
          all_goals exact cell_at hr6 rfl)
        clear hr6
        first
        | (have e : M = (p : Int) := by rw [hM]; first | omega | (rw [if_pos (by omega)] at *; omega) | (rw [if_neg (by omega)] at *; omega)
           subst e)
        | (have e : M = (x : Int) := by rw [hM]; first | omega | (rw [if_pos (by omega)] at *; omega) | (rw [if_neg (by omega)] at *; omega)
           subst e)
        | (have e : M = (q : Int) := by rw [hM]; first | omega | (rw [if_pos (by omega)] at *; omega) | (rw [if_neg (by omega)] at *; omega)
           subst e)
        clear hM HTR
        go_loopw [95, 18] (fun i cv wr => ∃ (k : Nat), k ≤ 3 ∧ i = .int .i64 (k : Int) ∧ cv = .int .i64 ((cnt bf k : Nat) : Int) ∧ wr = W6) (fun i _ _ => 3 - (iOf i).toNat)
        case atStart => exact ⟨0, by omega, rfl, rfl, rfl⟩
        case round =>
          obtain ⟨k, hk, rfl, rfl, rfl⟩ := hrel
          by_cases hkl : k < 3
          · have hcv := HV.out k hkl
            have hbk := HBF.out k
            have hle := cnt_le bf k
            have hi0 : (0 : Int) ≤ (k : Int) := by omega
            have hi3 : (k : Int) < 3 := by omega
            generalize v3 x p q k = v at hcv hbk
            cases hb : bf k
            · rw [hb] at hbk
              have HO := Lib.hid (cnt_no bf k hb)
              clear hb
              go_wp2_with fail
              exact ⟨⟨k + 1, by omega, by go_num, by rw [HO.out], trivial⟩, by simp [iOf]; omega⟩
            · rw [hb] at hbk
              have HY := Lib.hid (cnt_yes bf k hb)
              clear hb
              go_wp2_with fail
              exact ⟨⟨k + 1, by omega, by go_num, by rw [HY.out]; go_num, trivial⟩, by simp [iOf]; omega⟩
          · obtain rfl : k = 3 := by omega
            have h3 := HC3.out
            have h3' : ¬ ((cnt bf 3 : Nat) : Int) < 2 := by omega
            go_wp2_with fail
            refine (HA.out _ (HT.out.below HB7.out)).mono ?_
            rintro e wb ⟨rfl, hb⟩
            have hb8 := blw HB7.out hb
            go_wp2
            go_ret
            exact ⟨rfl, hb8⟩
    · have y1 : (E1 == 0) = true := by simpa using z1
      have y2 : (E2 == 0) = false := by simpa using z2
      go_wp2_with fail
      refine (HA.out _ (HT.out.below HB5.out)).mono ?_
      rintro e w6 ⟨rfl, hb⟩
      have hb6 := blw HB5.out hb
      go_wp2
      go_ret
      exact ⟨rfl, hb6⟩
  · have y1 : (E1 == 0) = false := by simpa using z1
    go_wp2_with fail
    refine (HA.out _ (HT.out.below HB5.out)).mono ?_
    rintro e w6 ⟨rfl, hb⟩
    have hb6 := blw HB5.out hb
    go_wp2
    go_ret
    exact ⟨rfl, hb6⟩
end Go.Proofs.YtpmmilnoeoapoaaDoor.Bo
