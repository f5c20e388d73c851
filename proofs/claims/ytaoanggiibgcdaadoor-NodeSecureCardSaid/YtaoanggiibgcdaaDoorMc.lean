/-
  node: NodeSecure's walk.
-/
import Derived.Test.YtaoanggiibgcdaaDoorMd
import Derived.Test.YtaoanggiibgcdaaDoorNx
import Derived.Test.YtaoanggiibgcdaaDoorAg
namespace Go.Proofs.YtaoanggiibgcdaaDoor.Ma
open Go Go.ChangeShapes Go.WideShapes Go.ChangeAt Go.RowKit Go.Shelf Go.Proofs.YtaoanggiibgcdaaDoor.Hz Go.Proofs.YtaoanggiibgcdaaDoor.Na Go.Proofs.YtaoanggiibgcdaaDoor.Nb Go.Proofs.YtaoanggiibgcdaaDoor.Nf Go.Proofs.YtaoanggiibgcdaaDoor.Nq

set_option maxRecDepth 1000000 in
theorem open_addr {H : Type} {enc : TypeId × Value → H} {w : World} {base : Nat} {r : Reach} {v : Value} {d : DataW H} {ps : List MemPlace} (hv : Value.okWide Tryd.prog w r base 23 v) (h : DataW.Trod enc Tryd.prog w 0 (fun _ => true) true 23 v d ps) :
    ∃ (f : Int) (ip : ByteArray) (p : Int), v = .agg #[.int .i64 f, .string ip, .int .i64 p] := by
  obtain ⟨cs, rfl, hsz, hf⟩ := Ag.fields_of [true, false, true] Tryd.underlying23 (by kernel_rfl) hv h
  have I : ∀ j, j < 3 → [true, false, true].getD j true = true → ∃ z, cs[j]? = some (.int .i64 z) := fun j hj hk => by
    rcases hf j hj with ⟨_, z, _, h⟩ | ⟨h, _⟩
    · exact ⟨z, h⟩
    · rw [hk] at h; cases h
  have S : ∀ j, j < 3 → [true, false, true].getD j true = false → ∃ s, cs[j]? = some (.string s) := fun j hj hk => by
    rcases hf j hj with ⟨h, _⟩ | ⟨_, s, _, h⟩
    · rw [hk] at h; cases h
    · exact ⟨s, h⟩
  obtain ⟨z0, e0⟩ := I 0 (by omega) rfl
  obtain ⟨s1, e1⟩ := S 1 (by omega) rfl
  obtain ⟨z2, e2⟩ := I 2 (by omega) rfl
  refine ⟨z0, s1, z2, ?_⟩
  congr 1
  apply Array.ext_getElem?
  intro j
  by_cases hj : j < 3
  · obtain rfl | rfl | rfl : j = 0 ∨ j = 1 ∨ j = 2 := by omega
    all_goals assumption
  · rw [Array.getElem?_eq_none (by rw [hsz]; simp; omega), Array.getElem?_eq_none (by simp; omega)]

/-- what the law lets by -/
def lets (f : Int) (ip : ByteArray) (p : Int) (d : ByteArray) (r k : Int) : Prop := okIP f ip p ∧ 0 ≤ r ∧ r ≤ 255 ∧ d.size ≤ 100 ∧ 0 ≤ k
set_option maxRecDepth 1000000 in
set_option maxHeartbeats 4000000 in
theorem secure_no (f : Int) (ip : ByteArray) (p : Int) (d : ByteArray) (r k : Int) (w : World) (h : ¬ lets f ip p d r k) :
    Calls Tryd.prog 3 #[.agg #[.int .i64 f, .string ip, .int .i64 p], .string d, .int .i64 r, .int .i64 k] w fun e w' => e = .returned (.bool true) ∧ Below w.heap.size w w' := by
  have HV := Lib.hid (fun w => RVal_any f ip p w)
  have HAW := Lib.hid Nh.awake_any
  by_cases ho : okIP f ip p
  · rw [decide_eq_true ho] at HV
    by_cases h1 : r < 0
    · have d1 : decide (r < 0) = true := by simp; omega
      clear ho h
      go_enter Tryd.func3, Tryd.ntmps3
      go_wp2_with fail
      refine (HV.out _).mono ?_
      rintro e w1 ⟨rfl, b1⟩
      have B1 := Lib.hid (below_alloc _ b1)
      clear b1
      go_wp2_with fail
      refine (HAW.out _).mono ?_
      rintro e w2 ⟨rfl, b2⟩
      have B2 := Lib.hid (blw B1.out b2)
      clear b2
      go_wp2
      go_ret
      exact ⟨rfl, B2.out⟩
    · have d1 : decide (r < 0) = false := by simp; omega
      by_cases h2 : 255 < r
      · have d2 : decide (255 < r) = true := by simp; omega
        clear ho h
        go_enter Tryd.func3, Tryd.ntmps3
        go_wp2_with fail
        refine (HV.out _).mono ?_
        rintro e w1 ⟨rfl, b1⟩
        have B1 := Lib.hid (below_alloc _ b1)
        clear b1
        go_wp2_with fail
        refine (HAW.out _).mono ?_
        rintro e w2 ⟨rfl, b2⟩
        have B2 := Lib.hid (blw B1.out b2)
        clear b2
        go_wp2
        go_ret
        exact ⟨rfl, B2.out⟩
      · have d2 : decide (255 < r) = false := by simp; omega
        by_cases h3 : 100 < d.size
        · have d3 : decide ((100 : Int) < (d.size : Int)) = true := by simp; omega
          clear ho h
          go_enter Tryd.func3, Tryd.ntmps3
          go_wp2_with fail
          refine (HV.out _).mono ?_
          rintro e w1 ⟨rfl, b1⟩
          have B1 := Lib.hid (below_alloc _ b1)
          clear b1
          go_wp2_with fail
          refine (HAW.out _).mono ?_
          rintro e w2 ⟨rfl, b2⟩
          have B2 := Lib.hid (blw B1.out b2)
          clear b2
          go_wp2
          go_ret
          exact ⟨rfl, B2.out⟩
        · have d3 : decide ((100 : Int) < (d.size : Int)) = false := by simp; omega
          have h4 : k < 0 := by
            by_cases q : k < 0
            · exact q
            · exact absurd ⟨ho, by omega, by omega, by omega, by omega⟩ h
          have d4 : decide (k < 0) = true := by simp; omega
          clear ho h
          go_enter Tryd.func3, Tryd.ntmps3
          go_wp2_with fail
          refine (HV.out _).mono ?_
          rintro e w1 ⟨rfl, b1⟩
          have B1 := Lib.hid (below_alloc _ b1)
          clear b1
          go_wp2_with fail
          refine (HAW.out _).mono ?_
          rintro e w2 ⟨rfl, b2⟩
          have B2 := Lib.hid (blw B1.out b2)
          clear b2
          go_wp2
          go_ret
          exact ⟨rfl, B2.out⟩
  · rw [decide_eq_false ho] at HV
    clear ho h
    go_enter Tryd.func3, Tryd.ntmps3
    go_wp2_with fail
    refine (HV.out _).mono ?_
    rintro e w1 ⟨rfl, b1⟩
    have B1 := Lib.hid (below_alloc _ b1)
    clear b1
    go_wp2_with fail
    refine (HAW.out _).mono ?_
    rintro e w2 ⟨rfl, b2⟩
    have B2 := Lib.hid (blw B1.out b2)
    clear b2
    go_wp2
    go_ret
    exact ⟨rfl, B2.out⟩

set_option maxRecDepth 1000000 in
set_option maxHeartbeats 4000000 in
theorem secure_yes (f : Int) (ip : ByteArray) (p : Int) (d : ByteArray) (r k : Nat) (w : World) (h : lets f ip p d r k) (hk : k ≤ 9223372036854775807) (ht : Hh.Tab w) :
    Calls Tryd.prog 3 #[.agg #[.int .i64 f, .string ip, .int .i64 p], .string d, .int .i64 (r : Int), .int .i64 (k : Int)] w fun e w' => e = .returned (.bool true) ∧ Below w.heap.size w w' := by
  have HT : Hid (∀ w', Below w.heap.size w w' → Hh.Tab w') := Lib.hid fun w' h => ht.below h
  have HV := Lib.hid (fun w => RVal_any f ip p w)
  rw [decide_eq_true h.1] at HV
  have HAW := Lib.hid Nh.awake_any
  have hs := h.2.2.2.1
  have HN := Lib.hid (fun w => RNode_any f ip p d r w h.1 (by have := h.2.2.1; omega) hs)
  have HIN := Lib.hid (fun (D : ByteArray) (hD : D.size = 20) w ht => In_yes D 21 d k w (by unfold vd; rw [hD]; rfl) hs (by omega) hk ht)
  have HWI : Hid (∀ (D : ByteArray) (hD : D.size = 20) (w : World), Calls Tryd.prog 8 #[.string (hd D (rnd d k) 21), .string D, .int .i64 21] w fun e w' => e = .returned (.tuple #[.bool true, .int .i64 0]) ∧ Below w.heap.size w w') := Lib.hid (fun D hD w => by
    have := Within_yes (hd D (rnd d k) 21) D 21 w (by unfold vd; rw [hD, hd_size]; rfl) (by omega)
    rwa [decide_eq_true (hd_cmn D (rnd d k) 21 hD (by omega))] at this)
  have HCM : Hid (∀ (D : ByteArray) (hD : D.size = 20) (w : World), Calls Tryd.prog 9 #[.string (hd D (rnd d k) 21), .string D] w fun e w' => e = .returned (.tuple #[.int .i64 (cmn (hd D (rnd d k) 21) D : Int), .int .i64 0]) ∧ Below w.heap.size w w') := Lib.hid (fun D hD w => by
    have := Nh.Common_any (hd D (rnd d k) 21) D w
    have hv : (vd (hd D (rnd d k) 21) && vd D) = true := by unfold vd; rw [hD, hd_size]; rfl
    rwa [Nh.cV, Nh.dE, if_pos hv, if_pos hv] at this)
  have HCL : Hid (∀ (D : ByteArray), D.size = 20 → 21 ≤ cmn (hd D (rnd d k) 21) D) := Lib.hid (fun D hD => hd_cmn D (rnd d k) 21 hD (by omega))
  have HVD : Hid (∀ (D : ByteArray) (hD : D.size = 20) (w : World), Calls Tryd.prog 10 #[.string D] w fun e w' => e = .returned (.bool true) ∧ w = w') := Lib.hid (fun D hD w => Valid_yes D w hD)
  have d1 : decide ((r : Int) < 0) = false := by simp
  have d2 : decide ((255 : Int) < (r : Int)) = false := by have := h.2.2.1; simp; omega
  have d3 : decide ((100 : Int) < (d.size : Int)) = false := by simp; omega
  have d4 : decide ((k : Int) < 0) = false := by simp
  obtain ⟨R, hR⟩ : ∃ R, rnd d k = R := ⟨_, rfl⟩
  simp only [hR] at HIN HWI HCM HCL
  clear h hs ht hR
  go_enter Tryd.func3, Tryd.ntmps3
  go_wp2_with fail
  refine (HV.out _).mono ?_
  rintro e w1 ⟨rfl, b1⟩
  have c0 := kcell b1 (show (w.alloc (.cells #[.int .i64 f, .string ip, .int .i64 p] 23)).cell? ⟨w.heap.size, 0, none⟩ = some (.int .i64 f) by simp [go_sem])
  have c1 := kcell b1 (show (w.alloc (.cells #[.int .i64 f, .string ip, .int .i64 p] 23)).cell? ⟨w.heap.size, 1, none⟩ = some (.string ip) by simp [go_sem])
  have c2 := kcell b1 (show (w.alloc (.cells #[.int .i64 f, .string ip, .int .i64 p] 23)).cell? ⟨w.heap.size, 2, none⟩ = some (.int .i64 p) by simp [go_sem])
  have B1 := Lib.hid (below_alloc _ b1)
  clear b1
  go_wp2_with fail
  refine (HN.out _).mono ?_
  rintro e w2 ⟨D, rfl, hD, b2⟩
  have HI := Lib.hid (HIN.out D hD)
  have HW := Lib.hid (HWI.out D hD)
  have HC := Lib.hid (HCM.out D hD)
  have HL := HCL.out D hD
  have HVV := Lib.hid (HVD.out D hD)
  obtain ⟨I, hI⟩ : ∃ I, hd D R 21 = I := ⟨_, rfl⟩
  simp only [hI] at HI HW HC HL
  obtain ⟨c, hc⟩ : ∃ c, cmn I D = c := ⟨_, rfl⟩
  simp only [hc] at HC HL
  have HI2 : Hid (∀ w, Hh.Tab w → Calls Tryd.prog 7 #[.string D, .int .i64 21, .string d, .int .i64 (k : Int)] w fun e w' => e = .returned (.tuple #[.string I, .int .i64 0]) ∧ Below w.heap.size w w') := HI
  have hl : decide ((21 : Int) ≤ (c : Int)) = true := by simp; omega
  have B2 := Lib.hid (blw B1.out b2)
  clear b2 HI HL hI hc hD c0 c1 c2 B1 HIN HWI HCM HCL HVD
  go_wp2_with fail
  refine (HI2.out _ (HT.out _ B2.out)).mono ?_
  rintro e w3 ⟨rfl, b3⟩
  have B3 := Lib.hid (blw B2.out b3)
  clear b3 B2
  go_wp2_with fail
  refine (HW.out _).mono ?_
  rintro e w4 ⟨rfl, b4⟩
  have B4 := Lib.hid (blw B3.out b4)
  clear b4 B3
  go_wp2_with fail
  refine (HC.out _).mono ?_
  rintro e w5 ⟨rfl, b5⟩
  have B5 := Lib.hid (blw B4.out b5)
  clear b5 B4
  go_wp2_with fail
  refine (HVV.out _).mono ?_
  rintro e w6 ⟨rfl, rfl⟩
  go_wp2_with fail
  refine (HAW.out _).mono ?_
  rintro e w7 ⟨rfl, b7⟩
  have B7 := Lib.hid (blw B5.out b7)
  clear b7 B5
  go_wp2
  go_ret
  exact ⟨rfl, B7.out⟩
theorem secure_any (f : Int) (ip : ByteArray) (p : Int) (d : ByteArray) (r k : Int) (w : World) (hk : k ≤ 9223372036854775807) (ht : Hh.Tab w) :
    Calls Tryd.prog 3 #[.agg #[.int .i64 f, .string ip, .int .i64 p], .string d, .int .i64 r, .int .i64 k] w fun e w' => e = .returned (.bool true) ∧ Below w.heap.size w w' := by
  by_cases h : lets f ip p d r k
  · obtain ⟨R, rfl⟩ : ∃ R : Nat, r = R := ⟨r.toNat, by have := h.2.1; omega⟩
    obtain ⟨K, rfl⟩ : ∃ K : Nat, k = K := ⟨k.toNat, by have := h.2.2.2.2; omega⟩
    exact secure_yes f ip p d R K w h (by omega) ht
  · exact secure_no f ip p d r k w h
end Go.Proofs.YtaoanggiibgcdaaDoor.Ma
