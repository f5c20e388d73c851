/-
  HashHex: the walk.
-/
import Derived.Test.YtfnhaadikfenpaaHx
import Derived.WalkKit
import Derived.WalkSpells
import Derived.WalkLawsBesides
import Derived.LoopTactic
import Derived.Outline
import Derived.BigRegion
import Derived.RegionTactic
import Derived.Lib.Hide
namespace Go.Proofs.Ytfnhaadikfenpaa.Hh
open Go Go.RowKit

theorem dg_lt (n : Nat) (h : n < 16) : (dg n).toNat < 256 := by unfold dg; split <;> omega
theorem hd_dg (s : ByteArray) (j : Nat) : ∃ n, n < 16 ∧ hd s j = dg n := by
  have := bt_lt s (j / 2)
  unfold hd
  split
  · exact ⟨bt s (j / 2) / 16, by omega, rfl⟩
  · exact ⟨bt s (j / 2) % 16, by omega, rfl⟩
theorem hx_size (s : ByteArray) : (hx s).size = 2 * s.size := by rw [hx, strOfNums_size, hxI_length]
theorem bt_hx (s : ByteArray) (j : Nat) (h : j < 2 * s.size) : bt (hx s) j = (hd s j).toNat := by
  obtain ⟨n, hn, e⟩ := hd_dg s j
  have hl := dg_lt n hn
  unfold bt hx
  rw [strOfNums_data, List.getD, List.getElem?_map]
  have h2 : (hxI s)[j]? = some (hd s j) := by simp [hxI, h]
  rw [h2, e]
  simp only [Option.map_some, Option.getD_some, UInt8.toNat_ofNat']
  omega
theorem vl_hx (s : ByteArray) (j n : Nat) (h : j < 2 * s.size) (hn : n < 16) (e : hd s j = dg n) : vl (bt (hx s) j) = n := by
  rw [bt_hx s j h, e, vl_dg n hn]
theorem good_hx (s : ByteArray) : good (hx s) := fun j hj => by
  rw [hx_size] at hj
  obtain ⟨n, hn, e⟩ := hd_dg s j
  rw [vl_hx s j n hj hn e]
  exact hn
theorem back_hx (s : ByteArray) : strOfNums (dcI s.size (hx s)) = s := by
  apply ByteArray.ext
  apply Array.toList_inj.1
  rw [strOfNums_data]
  apply List.ext_getElem
  · rw [List.length_map, dcI_length, len_data]
  · intro k h1 h2
    have hk : k < s.size := by rw [len_data] at h2; exact h2
    have hb := bt_lt s k
    have e0 : vl (bt (hx s) (2 * k)) = bt s k / 16 := vl_hx s _ _ (by omega) (by omega) (by unfold hd; rw [if_pos (by omega), Nat.mul_div_cancel_left _ (by omega)])
    have e1 : vl (bt (hx s) (2 * k + 1)) = bt s k % 16 := vl_hx s _ _ (by omega) (by omega) (by unfold hd; rw [if_neg (by omega), show (2 * k + 1) / 2 = k by omega])
    have e2 : (16 * ((bt s k / 16 : Nat) : Int) + ((bt s k % 16 : Nat) : Int)).toNat = bt s k := by omega
    simp only [List.getElem_map, dcI, List.getElem_range]
    rw [e0, e1, e2, ← bt_at s k hk]
    exact UInt8.ofNat_toNat
theorem fh_hx (s : ByteArray) : fh s.size (hx s) = (s, 0) := by rw [fh_yes _ _ (good_hx s), back_hx]

set_option maxHeartbeats 400000 in
theorem hex_out (s t : ByteArray) (w : World) (h : 5000 < s.size ∨ (5000 < t.size ∧ t.size ≤ 65536)) :
    Calls Try.prog 7 #[.string s, .string t] w fun e w' => e = .returned (.bool true) ∧ Below w.heap.size w w' := by
  by_cases h1 : (5000 : Int) < (s.size : Int)
  · go_enter Try.func7, Try.ntmps7
    go_wp2_with (go_at_call 9; refine (awake_any _).mono ?_; rintro e w1 ⟨rfl, hb1⟩)
    go_ret
    exact ⟨rfl, hb1⟩
  · have h2 : (5000 : Int) < (t.size : Int) := by omega
    have h3 : (t.size : Int) ≤ 65536 := by omega
    go_enter Try.func7, Try.ntmps7
    go_wp2_with (go_at_call 9; refine (awake_any _).mono ?_; rintro e w1 ⟨rfl, hb1⟩)
    go_ret
    exact ⟨rfl, hb1⟩

set_option maxHeartbeats 1000000 in
theorem hex_in (s t : ByteArray) (w : World) (hs : s.size ≤ 5000) (ht : t.size ≤ 5000 ∨ 65536 < t.size) :
    Calls Try.prog 7 #[.string s, .string t] w fun e w' => e = .returned (.bool true) ∧ Below w.heap.size w w' := by
  obtain ⟨r, x, hT, hR⟩ : ∃ r : ByteArray, ∃ x : Int, (∀ w, Calls Try.prog 27 #[.string t] w fun e w' => e = .returned (.tuple #[.string r, .int .i64 x]) ∧ Below w.heap.size w w') ∧
      (∀ w, Calls Try.prog 28 #[.string t] w fun e w' => e = .returned (.tuple #[.string r, .int .i64 x]) ∧ Below w.heap.size w w') := by
    by_cases h : 65536 < t.size ∨ t.size % 2 ≠ 0
    · exact ⟨_, _, fun w => FromHex_no t w h, fun w => RFromHex_no t w h⟩
    · exact ⟨_, _, fun w => FromHex_any (t.size / 2) t w (by omega) (by omega), fun w => RFromHex_any (t.size / 2) t w (by omega) (by omega)⟩
  have hX := fun w => Hex_any s w hs
  have hY := fun w => RHex_any s w hs
  have hB := fun w => FromHex_any s.size (hx s) w (hx_size s) (by rw [hx_size]; omega)
  rw [fh_hx] at hB
  generalize hx s = H at hX hY hB
  have c1 : decide ((5000 : Int) < (s.size : Int)) = false := by simp; omega
  have c2 : (decide ((5000 : Int) < (t.size : Int)) && decide ((t.size : Int) ≤ 65536)) = false := by simp; omega
  have c3 : ¬ ((5000 : Int) < (t.size : Int) ∧ (t.size : Int) ≤ 65536) := by omega
  have HT := Lib.hid hT
  have HR := Lib.hid hR
  have HX := Lib.hid hX
  have HY := Lib.hid hY
  have HB := Lib.hid hB
  clear hT hR hX hY hB hs
  by_cases c4 : (5000 : Int) < (t.size : Int)
  all_goals
    go_enter Try.func7, Try.ntmps7
    go_wp2_with fail
    refine (HT.out _).mono ?_
    rintro e w1 ⟨rfl, hb1⟩
    go_wp2_with fail
    refine (HR.out _).mono ?_
    rintro e w2 ⟨rfl, hb2⟩
    go_wp2_with fail
    refine (HX.out _).mono ?_
    rintro e w3 ⟨rfl, hb3⟩
    go_wp2_with fail
    refine (HB.out _).mono ?_
    rintro e w4 ⟨rfl, hb4⟩
    go_wp2_with fail
    refine (HX.out _).mono ?_
    rintro e w5 ⟨rfl, hb5⟩
    go_wp2_with fail
    refine (HY.out _).mono ?_
    rintro e w6 ⟨rfl, hb6⟩
    go_wp2_with fail
    refine (awake_any _).mono ?_
    rintro e w7 ⟨rfl, hb7⟩
    go_wp2
    go_ret
    exact ⟨rfl, blw (blw (blw (blw (blw (blw hb1 hb2) hb3) hb4) hb5) hb6) hb7⟩

end Go.Proofs.Ytfnhaadikfenpaa.Hh
