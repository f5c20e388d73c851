/-
  Draw: both; HashDraws.
-/
import Derived.Test.YtfnhaadikfenpaaDoorDi
import Derived.Test.YtfnhaadikfenpaaDoorDn
import Derived.WalkKit
import Derived.WalkSpells
import Derived.WalkLawsBesides
import Derived.LoopTactic
import Derived.Outline
import Derived.BigRegion
import Derived.Lib.Hide
namespace Go.Proofs.YtfnhaadikfenpaaDoor.Hi
open Go Go.RowKit Go.Proofs.YtfnhaadikfenpaaDoor.Hh

/-- ':' -/
def colon : ByteArray := ⟨#[58]⟩
theorem cat3 (s t u : ByteArray) : cat [s, t, u] = s.data.toList ++ (t.data.toList ++ u.data.toList) := by simp [cat]
/-- the drawn text -/
def drawn (s : ByteArray) (K : Nat) : List UInt8 := s.data.toList ++ (colon.data.toList ++ (dec K).data.toList)

set_option maxHeartbeats 800000 in
theorem Draw_no (s : ByteArray) (k n : Int) (w : World) (h : n < 1 ∨ k < 0) :
    Calls Tryd.prog 8 #[.string s, .int .i64 k, .int .i64 n] w fun e w' => e = .returned (.tuple #[.int .i64 0, .int .i64 7]) ∧ Below w.heap.size w w' := by
  by_cases h1 : n < 1
  · go_enter Tryd.func8, Tryd.ntmps8
    go_wp2_with fail
    go_ret2
    exact ⟨rfl, Below.refl _ _⟩
  · have h2 : k < 0 := by omega
    go_enter Tryd.func8, Tryd.ntmps8
    go_wp2_with fail
    go_ret2
    exact ⟨rfl, Below.refl _ _⟩

set_option maxHeartbeats 800000 in
theorem RDraw_no (s : ByteArray) (k n : Int) (w : World) (h : n < 1 ∨ k < 0) :
    Calls Tryd.prog 9 #[.string s, .int .i64 k, .int .i64 n] w fun e w' => e = .returned (.tuple #[.int .i64 0, .int .i64 7]) ∧ Below w.heap.size w w' := by
  by_cases h1 : n < 1
  · go_enter Tryd.func9, Tryd.ntmps9
    go_wp2_with fail
    go_ret2
    exact ⟨rfl, Below.refl _ _⟩
  · have h2 : k < 0 := by omega
    go_enter Tryd.func9, Tryd.ntmps9
    go_wp2_with fail
    go_ret2
    exact ⟨rfl, Below.refl _ _⟩

set_option maxHeartbeats 800000 in
theorem Draw_yes (s : ByteArray) (K : Nat) (n : Int) (w : World) (hs : s.size ≤ 3000) (hK : K ≤ 9223372036854775807) (h1 : 1 ≤ n) (hn : n ≤ 9223372036854775807) (ht : Tab w) :
    Calls Tryd.prog 8 #[.string s, .int .i64 (K : Int), .int .i64 n] w fun e w' => e = .returned (.tuple #[.int .i64 (nb (Dg.sum (drawn s K)) n).1, .int .i64 (nb (Dg.sum (drawn s K)) n).2]) ∧ Below w.heap.size w w' := by
  have hI := Itoa_any K hK w ht
  have hz := dec_size K hK
  unfold drawn
  generalize dec K = D at hI hz ⊢
  have hml : (3100 : Nat) ≤ maxLen := by unfold maxLen; omega
  have hcl : (cat [s, colon, D]).length ≤ maxLen := by
    rw [cat3, List.length_append, List.length_append, len_data, len_data, len_data]
    show s.size + (1 + D.size) ≤ maxLen
    omega
  rw [← cat3]
  go_enter Tryd.func8, Tryd.ntmps8
  go_wp2_with fail
  refine hI.mono ?_
  rintro e w1 ⟨rfl, hb1⟩
  go_wp2_with fail
  refine (of_any w1.heap.size (w1.alloc (.cells #[.string s, .string ⟨#[58]⟩, .string D] 9)) [s, colon, D] (by simp) hcl (strs_new w1 [s, colon, D] _) (by simp)).mono ?_
  rintro e w2 ⟨rfl, hb2⟩
  go_wp2_with fail
  refine (Number_any _ _ _ hn).mono ?_
  rintro e w3 ⟨rfl, hb3⟩
  go_wp2
  go_ret2
  exact ⟨rfl, blw (blw hb1 (below_alloc _ hb2)) hb3⟩

set_option maxHeartbeats 800000 in
theorem RDraw_yes (s : ByteArray) (K : Nat) (n : Int) (w : World) (hs : s.size ≤ 3000) (hK : K ≤ 9223372036854775807) (h1 : 1 ≤ n) (hn : n ≤ 9223372036854775807) :
    Calls Tryd.prog 9 #[.string s, .int .i64 (K : Int), .int .i64 n] w fun e w' => e = .returned (.tuple #[.int .i64 (nb (Dg.sum (drawn s K)) n).1, .int .i64 (nb (Dg.sum (drawn s K)) n).2]) ∧ Below w.heap.size w w' := by
  have hI := fun w => Decimal_all K hK w
  have hz := dec_size K hK
  unfold drawn
  generalize dec K = D at hI hz ⊢
  have hml : (3100 : Nat) ≤ maxLen := by unfold maxLen; omega
  have e : ((s ++ colon) ++ D).data.toList = s.data.toList ++ (colon.data.toList ++ D.data.toList) := by simp [ByteArray.data_append]
  rw [← e]
  have hc : colon.size = 1 := rfl
  have hz1 : s.size + 1 ≤ 9223372036854775807 := by omega
  have hz2 : (s ++ colon).size = s.size + 1 := by rw [ByteArray.size_append, hc]
  have hz3 : (s ++ colon).size + D.size ≤ 9223372036854775807 := by omega
  have hz4 : ((s ++ colon) ++ D).size ≤ maxLen := by rw [ByteArray.size_append]; omega
  have hS := fun w => RSum_any ((s ++ colon) ++ D) w hz4
  obtain ⟨S, hSe⟩ : ∃ S, Dg.sum ((s ++ colon) ++ D).data.toList = S := ⟨_, rfl⟩
  rw [hSe] at hS ⊢
  have hR := fun w => RNumber_any S n w hn (by omega)
  generalize (nb S n).1 = x at hR ⊢
  generalize (nb S n).2 = y at hR ⊢
  have HS := Lib.hid hS
  have HR := Lib.hid hR
  clear e hSe hS hR
  go_enter Tryd.func9, Tryd.ntmps9
  go_wp2_with fail
  refine (hI _).mono ?_
  rintro e w1 ⟨rfl, hb1⟩
  go_wp2_with fail
  refine (HS.out _).mono ?_
  rintro e w2 ⟨rfl, hb2⟩
  go_wp2_with fail
  refine (HR.out _).mono ?_
  rintro e w3 ⟨rfl, hb3⟩
  go_wp2
  go_ret2
  exact ⟨rfl, blw (blw hb1 hb2) hb3⟩

set_option maxHeartbeats 800000 in
theorem draws_any (d s : ByteArray) (k n : Int) (w : World) (hk : k ≤ 9223372036854775807) (hn : n ≤ 9223372036854775807) (hn0 : -9223372036854775808 ≤ n) (ht : Tab w) :
    Calls Tryd.prog 3 #[.string d, .string s, .int .i64 k, .int .i64 n] w fun e w' => e = .returned (.bool true) ∧ Below w.heap.size w w' := by
  by_cases h1 : (3000 : Int) < (s.size : Int)
  · go_enter Tryd.func3, Tryd.ntmps3
    go_wp2_with (go_at_call 5; refine (awake_any _).mono ?_; rintro e w1 ⟨rfl, hb1⟩)
    go_ret
    exact ⟨rfl, hb1⟩
  · have hN := fun w => Number_any d n w hn
    have hR := fun w => RNumber_any d n w hn hn0
    generalize (nb d n).1 = x at hN hR
    generalize (nb d n).2 = y at hN hR
    obtain ⟨p, q, hD, hE⟩ : ∃ p q : Int, (∀ w, Tab w → Calls Tryd.prog 8 #[.string s, .int .i64 k, .int .i64 n] w fun e w' => e = .returned (.tuple #[.int .i64 p, .int .i64 q]) ∧ Below w.heap.size w w') ∧
        (∀ w, Calls Tryd.prog 9 #[.string s, .int .i64 k, .int .i64 n] w fun e w' => e = .returned (.tuple #[.int .i64 p, .int .i64 q]) ∧ Below w.heap.size w w') := by
      by_cases h : n < 1 ∨ k < 0
      · exact ⟨_, _, fun w _ => Draw_no s k n w h, fun w => RDraw_no s k n w h⟩
      · obtain ⟨K, rfl⟩ : ∃ K : Nat, k = (K : Int) := ⟨k.toNat, by omega⟩
        exact ⟨_, _, fun w ht => Draw_yes s K n w (by omega) (by omega) (by omega) hn ht, fun w => RDraw_yes s K n w (by omega) (by omega) (by omega) hn⟩
    have HN := Lib.hid hN
    have HR := Lib.hid hR
    have HD := Lib.hid hD
    have HE := Lib.hid hE
    have HT := Lib.hid ht
    clear hN hR hD hE ht
    go_enter Tryd.func3, Tryd.ntmps3
    go_wp2_with fail
    refine (HN.out _).mono ?_
    rintro e w1 ⟨rfl, hb1⟩
    go_wp2_with fail
    refine (HR.out _).mono ?_
    rintro e w2 ⟨rfl, hb2⟩
    go_wp2_with fail
    refine (HD.out _ ((HT.out.below hb1).below hb2)).mono ?_
    rintro e w3 ⟨rfl, hb3⟩
    go_wp2_with fail
    refine (HE.out _).mono ?_
    rintro e w4 ⟨rfl, hb4⟩
    go_wp2_with fail
    refine (awake_any _).mono ?_
    rintro e w5 ⟨rfl, hb5⟩
    go_wp2
    go_ret
    exact ⟨rfl, blw (blw (blw (blw hb1 hb2) hb3) hb4) hb5⟩

end Go.Proofs.YtfnhaadikfenpaaDoor.Hi
