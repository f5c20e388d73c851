/-
  read: a number of some bytes.
-/
import Derived.Test.YtdkfniijoamaoacHz
import Derived.WalkKit
import Derived.WalkSpells
import Derived.WalkSmall
import Derived.LoopTactic
import Derived.Outline
import Derived.Laws.Rows
import Derived.BigRegion
import Derived.Lib.Hide
namespace Go.Proofs.Ytdkfniijoamaoac.Ga
open Go Go.RowKit Go.Proofs.Ytdkfniijoamaoac.Hz

theorem orI (a b : Nat) (ha : a < 16777216) (hb : b < 256) : bits .or .i64 ((a : Int) * 256) (b : Int) = (a : Int) * 256 + (b : Int) := by
  have h1 : (BitVec.ofInt 64 ((a : Int) * 256)).toNat = a * 256 := by
    rw [show (a : Int) * 256 = ((a * 256 : Nat) : Int) by omega, BitVec.ofInt_natCast, BitVec.toNat_ofNat]; exact Nat.mod_eq_of_lt (by omega)
  have h2 : (BitVec.ofInt 64 (b : Int)).toNat = b := by
    rw [BitVec.ofInt_natCast, BitVec.toNat_ofNat]; exact Nat.mod_eq_of_lt (by omega)
  have e : a * 256 ||| b = a * 256 + b := by
    have := Nat.shiftLeft_add_eq_or_of_lt (i := 8) (b := b) (by omega) a
    rw [Nat.shiftLeft_eq] at this
    exact this.symm
  show IntKind.i64.wrap ((BitVec.ofInt 64 ((a : Int) * 256) ||| BitVec.ofInt 64 (b : Int)).toNat : Int) = _
  rw [BitVec.toNat_or, h1, h2, e, IntKind.wrap_i64]
  omega

/-- byte k of a text as a number -/
def by_ (s : ByteArray) (k : Nat) : Nat := (s.data.toList.getD k 0).toNat
theorem by_at (s : ByteArray) (k : Nat) (h : k < s.size) : s[k].toNat = by_ s k := by
  have h' : k < s.data.toList.length := by rw [len_data]; exact h
  unfold by_
  rw [List.getD, List.getElem?_eq_getElem h']
  rfl
theorem by_lt (s : ByteArray) (k : Nat) : by_ s k < 256 := UInt8.toNat_lt _
/-- the number of k bytes from a place on -/
def rd (s : ByteArray) (p : Nat) : Nat → Nat
  | 0 => 0
  | k + 1 => rd s p k * 256 + by_ s (p + k)
theorem rd_lt (s : ByteArray) (p : Nat) : ∀ k, rd s p k < 256 ^ k
  | 0 => by simp [rd]
  | k + 1 => by
    have := rd_lt s p k
    have := by_lt s (p + k)
    simp only [rd, Nat.pow_succ]
    omega
theorem rd_le (s : ByteArray) (p k : Nat) (h : k < 4) : rd s p k < 16777216 := by
  have h1 := rd_lt s p k
  have h2 : 256 ^ k ≤ 256 ^ 3 := Nat.pow_le_pow_right (by omega) (by omega)
  have h3 : (256 : Nat) ^ 3 = 16777216 := by decide
  omega

set_option maxHeartbeats 800000 in
theorem read_any (s : ByteArray) (p n : Nat) (w : World) (h : p + n ≤ s.size) (hn : n ≤ 4) (hp : p ≤ 1000000) :
    Calls Try.prog 42 #[.string s, .int .i64 p, .int .i64 n] w fun e w' => e = .returned (.int .i64 (rd s p n : Int)) ∧ w = w' := by
  go_enter Try.func42, Try.ntmps42
  go_wp2
  go_loopw [7, 8, 10] (fun x _ i wr => ∃ k : Nat, k ≤ n ∧ i = .int .i64 k ∧ x = .int .i64 (rd s p k : Int) ∧ w = wr) (fun _ _ i _ => n - (intOf i).toNat)
  case atStart => exact ⟨0, Nat.zero_le _, rfl, rfl, rfl⟩
  case round =>
    obtain ⟨k, hk, rfl, rfl, rfl⟩ := hrel
    by_cases hlt : k < n
    · have hb := by_at s (p + k) (by omega)
      have hks : p + k < s.size := by omega
      have hq := rd_le s p k (by omega)
      have hbl := by_lt s (p + k)
      have HS := Lib.hid (show rd s p (k + 1) = rd s p k * 256 + by_ s (p + k) from rfl)
      have HO := Lib.hid (orI (rd s p k) (by_ s (p + k)) hq hbl)
      go_wp2
      refine ⟨⟨k + 1, by omega, by go_num, ?_, trivial⟩, by simp [intOf]; omega⟩
      rw [HO.out, HS.out]
      rfl
    · have hk' : k = n := by omega
      subst hk'
      go_wp2
      go_ret
      exact ⟨rfl, rfl⟩

set_option maxHeartbeats 400000 in
theorem need_yes (n : Int) (w : World) : Calls Try.prog 41 #[.bool true, .int .i64 n] w fun e w' => e = .returned (.tuple #[]) ∧ w = w' := by
  go_enter Try.func41, Try.ntmps41
  go_wp2
  go_end0
  exact ⟨rfl, rfl⟩
set_option maxHeartbeats 400000 in
theorem need_no (n : Int) (w : World) : Calls Try.prog 41 #[.bool false, .int .i64 n] w fun e w' => e = .panicked [{ v := .iface 56 (.agg #[.int .i64 n]), recovered := false }] ∧ w = w' := by
  go_enter Try.func41, Try.ntmps41
  go_wp2
  simp [bodyPost]
end Go.Proofs.Ytdkfniijoamaoac.Ga
