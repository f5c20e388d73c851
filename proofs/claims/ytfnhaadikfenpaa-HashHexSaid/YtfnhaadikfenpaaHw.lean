/-
  Hexadecimal digits: what FromHex reads.
-/
import Derived.Test.YtfnhaadikfenpaaHv
import Derived.WalkKit
import Derived.WalkSpells
import Derived.WalkLawsBesides
import Derived.LoopTactic
import Derived.Outline
import Derived.Deep.QuietTactic
import Derived.BigQuiet
import Derived.BigRegion
import Derived.RegionTactic
import Derived.Deep.RegionLaw
import Derived.Deep.AppendLies
import Derived.Lib.Hide
namespace Go.Proofs.Ytfnhaadikfenpaa.Hh
open Go Go.RowKit

/-- a digit's number; 16 if it is none -/
def vl (c : Nat) : Nat := if 48 ≤ c ∧ c ≤ 57 then c - 48 else if 97 ≤ c ∧ c ≤ 102 then c - 87 else 16
theorem vl_dg (n : Nat) (h : n < 16) : vl (dg n).toNat = n := by
  have hd : ∀ y : Fin 16, vl (dg y.val).toNat = y.val := by decide +kernel
  exact hd ⟨n, h⟩
theorem dg_vl (c : Nat) (h : vl c < 16) : dg (vl c) = (c : Int) := by
  unfold vl at h ⊢
  unfold dg
  split at h
  · rename_i h1
    rw [if_pos h1, if_pos (by omega)]; omega
  · rename_i h1
    rw [if_neg h1]
    split at h
    · rename_i h2
      rw [if_pos h2, if_neg (by omega)]; omega
    · omega
theorem idx_str (s : ByteArray) (n : Nat) (h : n < s.size) (w : World) : (Instr.index 9 (.string s) (.int .i64 (n : Int))).run Try.prog w = .ok (.int .u8 (bt s n)) w := by
  have hb := bt_at s n h
  rw [run_index_string (P := Try.prog) _ 9 s .i64 (n : Int) Try.underlying9]
  simp [h, hb]
theorem idx_str1 (s : ByteArray) (n : Nat) (h : n + 1 < s.size) (w : World) : (Instr.index 9 (.string s) (.int .i64 ((n : Int) + 1))).run Try.prog w = .ok (.int .u8 (bt s (n + 1))) w := idx_str s (n + 1) h w
theorem dig_ati (n : Nat) (h : n < 16) (w : World) : (Instr.index 9 (.string ⟨#[48, 49, 50, 51, 52, 53, 54, 55, 56, 57, 97, 98, 99, 100, 101, 102]⟩) (.int .i64 (n : Int))).run Try.prog w = .ok (.int .u8 (dg n)) w := by
  have hc : n = 0 ∨ n = 1 ∨ n = 2 ∨ n = 3 ∨ n = 4 ∨ n = 5 ∨ n = 6 ∨ n = 7 ∨ n = 8 ∨ n = 9 ∨ n = 10 ∨ n = 11 ∨ n = 12 ∨ n = 13 ∨ n = 14 ∨ n = 15 := by omega
  rcases hc with rfl | rfl | rfl | rfl | rfl | rfl | rfl | rfl | rfl | rfl | rfl | rfl | rfl | rfl | rfl | rfl
  all_goals rfl

set_option maxHeartbeats 400000 in
theorem digit_ok (c : Nat) (hc : c < 256) (h : vl c < 16) (w : World) :
    Calls Try.prog 43 #[.int .u8 (c : Int)] w fun e w' => e = .returned (.int .u8 (vl c : Int)) ∧ w = w' := by
  by_cases h1 : 48 ≤ c ∧ c ≤ 57
  · have hv : (vl c : Int) = (c : Int) - 48 := by unfold vl; rw [if_pos h1]; omega
    have hw : IntKind.u8.wrap ((c : Int) - 48) = (c : Int) - 48 := by simp only [IntKind.wrap_u8]; omega
    go_enter Try.func43, Try.ntmps43
    go_wp2
    go_ret
    exact ⟨by rw [hv]; rfl, rfl⟩
  · have h2 : 97 ≤ c ∧ c ≤ 102 := by unfold vl at h; rw [if_neg h1] at h; split at h <;> omega
    have hv : (vl c : Int) = (c : Int) - 97 + 10 := by unfold vl; rw [if_neg h1, if_pos h2]; omega
    have hw : IntKind.u8.wrap ((c : Int) - 97) = (c : Int) - 97 := by simp only [IntKind.wrap_u8]; omega
    have hw2 : IntKind.u8.wrap ((c : Int) - 97 + 10) = (c : Int) - 97 + 10 := by simp only [IntKind.wrap_u8]; omega
    go_enter Try.func43, Try.ntmps43
    go_wp2
    go_ret
    exact ⟨by rw [hv]; rfl, rfl⟩

set_option maxHeartbeats 400000 in
theorem digit_no (c : Nat) (hc : c < 256) (h : ¬ vl c < 16) (w : World) :
    Calls Try.prog 43 #[.int .u8 (c : Int)] w fun e w' => e = .panicked [{ v := .iface 38 (.int .i64 2), recovered := false }] ∧ w = w' := by
  have h1 : ¬ (48 ≤ c ∧ c ≤ 57) := by intro h1; apply h; unfold vl; rw [if_pos h1]; omega
  have h2 : ¬ (97 ≤ c ∧ c ≤ 102) := by intro h2; apply h; unfold vl; rw [if_neg h1, if_pos h2]; omega
  by_cases a1 : 48 ≤ c
  · by_cases a2 : 97 ≤ c
    · go_enter Try.func43, Try.ntmps43
      go_wp2
      simp [bodyPost]
    · go_enter Try.func43, Try.ntmps43
      go_wp2
      simp [bodyPost]
  · have a2 : ¬ 97 ≤ c := by omega
    go_enter Try.func43, Try.ntmps43
    go_wp2
    simp [bodyPost]

set_option maxHeartbeats 400000 in
theorem Nibble_any (c : Nat) (w : World) :
    Calls Try.prog 44 #[.int .u8 (c : Int)] w fun e w' => e = .returned (.int .i64 (if vl c < 16 then (vl c : Int) else -1)) ∧ w = w' := by
  go_enter Try.func44, Try.ntmps44
  go_wp2
  go_loopw [3, 4] (fun _ i wr => ∃ k : Nat, k ≤ 16 ∧ i = .int .i64 k ∧ (∀ j, j < k → dg j ≠ (c : Int)) ∧ w = wr) (fun _ i _ => 16 - (intOf i).toNat)
  case atStart => exact ⟨0, Nat.zero_le _, rfl, fun j hj => by omega, rfl⟩
  case round =>
    obtain ⟨k, hk, rfl, hn, rfl⟩ := hrel
    by_cases hlt : k < 16
    · have hd := dig_ati k hlt
      by_cases he : dg k = (c : Int)
      · have hv : vl c = k := by have := vl_dg k hlt; rw [he] at this; simpa using this
        have hq : (dg k == (c : Int)) = true := by simp [he]
        go_wp2
        go_ret
        simp
      · have hq : (dg k == (c : Int)) = false := by simp [he]
        go_wp2
        refine ⟨⟨k + 1, by omega, by go_num, fun j hj => ?_, trivial⟩, by simp [intOf]; omega⟩
        by_cases hjk : j = k
        · subst hjk; exact he
        · exact hn j (by omega)
    · have hk' : k = 16 := by omega
      subst hk'
      have hv : ¬ vl c < 16 := fun h => hn _ h (dg_vl c h)
      go_wp2
      go_ret
      simp

end Go.Proofs.Ytfnhaadikfenpaa.Hh
