/-
  Veiled streams: the law's walk.
-/
import Derived.Test.YtojgigoknjenoaaDoorVd
namespace Go.Proofs.YtojgigoknjenoaaDoor.Vb
open Go Go.RowKit Go.Shelf Go.Proofs.YtojgigoknjenoaaDoor.Hh Go.Proofs.YtojgigoknjenoaaDoor.Sx Go.Proofs.YtojgigoknjenoaaDoor.Hi
set_option maxRecDepth 1000000 in
set_option maxHeartbeats 4000000 in
theorem veil_walk (q : Int) (sh nm s : ByteArray) (F C : Int) (w : World) (ht : Tab w) :
    Calls Tryd.prog 3 #[.int .u8 q, .string sh, .string nm, .string s, .int .i64 F, .int .i64 C] w fun e w' => e = .returned (.bool true) ∧ Below w.heap.size w w' := by
  suffices H : Calls Tryd.prog 3 #[.int .u8 q, .string sh, .string nm, .string s, .int .i64 F, .int .i64 C] w fun e w' => e = .returned (.bool true) ∧ w.grownBy w' none from H.mono fun e w' h => ⟨h.1, below_gb h.2⟩
  have HA := Lib.hid (fun w => awake_any w)
  have HT := Lib.hid ht
  clear ht
  by_cases h1 : 100 < sh.size
  · have d1 : (100 : Int) < (sh.size : Int) := by omega
    go_enter Tryd.func3, Tryd.ntmps3
    go_wp2_with fail
    refine (HA.out _).mono ?_
    rintro e w1 ⟨rfl, hg⟩
    go_wp2
    go_ret
    exact ⟨rfl, hg⟩
  have d1 : ¬ (100 : Int) < (sh.size : Int) := by omega
  by_cases h2 : 100 < nm.size
  · have d2 : (100 : Int) < (nm.size : Int) := by omega
    go_enter Tryd.func3, Tryd.ntmps3
    go_wp2_with fail
    refine (HA.out _).mono ?_
    rintro e w1 ⟨rfl, hg⟩
    go_wp2
    go_ret
    exact ⟨rfl, hg⟩
  have d2 : ¬ (100 : Int) < (nm.size : Int) := by omega
  by_cases h3 : 300 < s.size
  · have d3 : (300 : Int) < (s.size : Int) := by omega
    go_enter Tryd.func3, Tryd.ntmps3
    go_wp2_with fail
    refine (HA.out _).mono ?_
    rintro e w1 ⟨rfl, hg⟩
    go_wp2
    go_ret
    exact ⟨rfl, hg⟩
  have d3 : ¬ (300 : Int) < (s.size : Int) := by omega
  by_cases h4 : 1000 < C ∧ 0 ≤ F ∧ C ≤ 65536
  · have e1 : decide (1000 < C) = true := by simp; omega
    have e2 : decide (0 ≤ F) = true := by simp; omega
    have e3 : decide (C ≤ 65536) = true := by simp; omega
    clear h4
    go_enter Tryd.func3, Tryd.ntmps3
    go_wp2_with fail
    refine (HA.out _).mono ?_
    rintro e w1 ⟨rfl, hg⟩
    go_wp2
    go_ret
    exact ⟨rfl, hg⟩
  have three : (¬ 1000 < C) ∨ (1000 < C ∧ F < 0) ∨ (1000 < C ∧ 0 ≤ F ∧ 65536 < C) := by omega
  have HV := Lib.hid (fun w ht => VStream_any q sh nm F C w (by omega) (by omega) ht)
  have HR : Hid (∀ w, Calls Tryd.prog 6 #[.int .u8 q, .string sh, .string nm, .int .i64 F, .int .i64 C] w fun e w' => e = .returned (.tuple #[.string (vS q sh nm F C), .int .i64 (vE q sh nm F C)]) ∧ w.grownBy w' none) := Lib.hid (fun w => RVStream_any q sh nm F C w (by unfold badS; omega))
  have HL := Lib.hid (fun w => Looks_any s w)
  have HK := Lib.hid (fun w => RLooks_any s w)
  obtain ⟨v1, x1⟩ : ∃ v, vS q sh nm F C = v := ⟨_, rfl⟩
  obtain ⟨v2, x2⟩ : ∃ v, vE q sh nm F C = v := ⟨_, rfl⟩
  obtain ⟨v3, x3⟩ : ∃ v, lk s = v := ⟨_, rfl⟩
  simp only [x1, x2] at HV HR
  simp only [x3] at HL HK
  clear x1 x2 x3 h4
  rcases three with h | h | h
  · have e1 : decide (1000 < C) = false := by simp; omega
    clear h
    go_enter Tryd.func3, Tryd.ntmps3
    go_wp2_with fail
    refine (HV.out _ HT.out).mono ?_
    rintro e w1 ⟨rfl, g1⟩
    have G1 := Lib.hid g1
    clear g1
    go_wp2_with fail
    refine (HR.out _).mono ?_
    rintro e w2 ⟨rfl, g2⟩
    have G2 := Lib.hid (gb_trans G1.out g2)
    clear g2 G1
    go_wp2_with fail
    refine (HL.out _).mono ?_
    rintro e w3 ⟨rfl, g2⟩
    have G3 := Lib.hid (gb_trans G2.out g2)
    clear g2 G2
    go_wp2_with fail
    refine (HK.out _).mono ?_
    rintro e w4 ⟨rfl, g2⟩
    have G4 := Lib.hid (gb_trans G3.out g2)
    clear g2 G3
    go_wp2_with fail
    refine (HA.out _).mono ?_
    rintro e w5 ⟨rfl, g2⟩
    have G5 := Lib.hid (gb_trans G4.out g2)
    clear g2 G4
    go_wp2
    go_ret
    exact ⟨rfl, G5.out⟩
  · have e1 : decide (1000 < C) = true := by simp; omega
    have e2 : decide (0 ≤ F) = false := by simp; omega
    clear h
    go_enter Tryd.func3, Tryd.ntmps3
    go_wp2_with fail
    refine (HV.out _ HT.out).mono ?_
    rintro e w1 ⟨rfl, g1⟩
    have G1 := Lib.hid g1
    clear g1
    go_wp2_with fail
    refine (HR.out _).mono ?_
    rintro e w2 ⟨rfl, g2⟩
    have G2 := Lib.hid (gb_trans G1.out g2)
    clear g2 G1
    go_wp2_with fail
    refine (HL.out _).mono ?_
    rintro e w3 ⟨rfl, g2⟩
    have G3 := Lib.hid (gb_trans G2.out g2)
    clear g2 G2
    go_wp2_with fail
    refine (HK.out _).mono ?_
    rintro e w4 ⟨rfl, g2⟩
    have G4 := Lib.hid (gb_trans G3.out g2)
    clear g2 G3
    go_wp2_with fail
    refine (HA.out _).mono ?_
    rintro e w5 ⟨rfl, g2⟩
    have G5 := Lib.hid (gb_trans G4.out g2)
    clear g2 G4
    go_wp2
    go_ret
    exact ⟨rfl, G5.out⟩
  · have e1 : decide (1000 < C) = true := by simp; omega
    have e2 : decide (0 ≤ F) = true := by simp; omega
    have e3 : decide (C ≤ 65536) = false := by simp; omega
    clear h
    go_enter Tryd.func3, Tryd.ntmps3
    go_wp2_with fail
    refine (HV.out _ HT.out).mono ?_
    rintro e w1 ⟨rfl, g1⟩
    have G1 := Lib.hid g1
    clear g1
    go_wp2_with fail
    refine (HR.out _).mono ?_
    rintro e w2 ⟨rfl, g2⟩
    have G2 := Lib.hid (gb_trans G1.out g2)
    clear g2 G1
    go_wp2_with fail
    refine (HL.out _).mono ?_
    rintro e w3 ⟨rfl, g2⟩
    have G3 := Lib.hid (gb_trans G2.out g2)
    clear g2 G2
    go_wp2_with fail
    refine (HK.out _).mono ?_
    rintro e w4 ⟨rfl, g2⟩
    have G4 := Lib.hid (gb_trans G3.out g2)
    clear g2 G3
    go_wp2_with fail
    refine (HA.out _).mono ?_
    rintro e w5 ⟨rfl, g2⟩
    have G5 := Lib.hid (gb_trans G4.out g2)
    clear g2 G4
    go_wp2
    go_ret
    exact ⟨rfl, G5.out⟩
end Go.Proofs.YtojgigoknjenoaaDoor.Vb
