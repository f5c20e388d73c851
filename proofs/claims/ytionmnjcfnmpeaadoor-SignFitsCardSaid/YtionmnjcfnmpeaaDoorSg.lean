/-
  Eight bytes of a number, and back: pack, unpack, and the reference's.
-/
import Derived.Test.YtionmnjcfnmpeaaDoorSf
import Derived.Test.YtionmnjcfnmpeaaDoorHz
import Derived.WalkKit
import Derived.WalkSpells
import Derived.LoopTactic
import Derived.Outline
import Derived.OwnWalk
import Derived.Laws.BytesArg
import Derived.Laws.Rows
import Derived.BigRegion
import Derived.Lib.Hide
namespace Go.Proofs.YtionmnjcfnmpeaaDoor.Sg
open Go Go.RowKit Go.Proofs.YtionmnjcfnmpeaaDoor.Hz

/-- a number's bytes, the greatest first -/
def nums (x : Int) : List Int := [x / 72057594037927936 % 256, x / 281474976710656 % 256, x / 1099511627776 % 256, x / 4294967296 % 256, x / 16777216 % 256, x / 65536 % 256, x / 256 % 256, x % 256]
def e8 (x : Int) : ByteArray := strOfNums (nums x)
theorem e8_size (x : Int) : (e8 x).size = 8 := by rw [e8, strOfNums_size]; rfl
def numsR (x : Int) : List Int := [x / 256 / 256 / 256 / 256 / 256 / 256 / 256 % 256, x / 256 / 256 / 256 / 256 / 256 / 256 % 256, x / 256 / 256 / 256 / 256 / 256 % 256, x / 256 / 256 / 256 / 256 % 256, x / 256 / 256 / 256 % 256, x / 256 / 256 % 256, x / 256 % 256, x % 256]
theorem numsR_eq (x : Int) : numsR x = nums x := by
  unfold numsR nums
  have h2 : x / 256 / 256 = x / 65536 := by omega
  have h3 : x / 256 / 256 / 256 = x / 16777216 := by omega
  have h4 : x / 256 / 256 / 256 / 256 = x / 4294967296 := by omega
  have h5 : x / 256 / 256 / 256 / 256 / 256 = x / 1099511627776 := by omega
  have h6 : x / 256 / 256 / 256 / 256 / 256 / 256 = x / 281474976710656 := by omega
  have h7 : x / 256 / 256 / 256 / 256 / 256 / 256 / 256 = x / 72057594037927936 := by omega
  rw [h7, h6, h5, h4, h3, h2]

theorem conv_new (W : World) (c : Array Value) (xs : List Int) (b l cap : Nat) (t : TypeId) (hb : b = W.heap.size) (hc : c = (xs.map (Value.int .u8)).toArray) (hl : xs.length = l) :
    (convert 70 9 (.slice (some ⟨b, 0, none⟩) l cap)).run Tryd.prog (W.alloc (.cells c t)) = .ok (.string (strOfNums xs)) (W.alloc (.cells c t)) := by
  refine run_convert_bytes_arg (P := Tryd.prog) _ 70 5 Tryd.underlying70 Tryd.underlying5 b 0 l cap xs hl (fun i hi => ?_) 9 Tryd.underlying9
  subst hb hc
  rw [World.cell?_alloc_at _ _ _ _ rfl, Nat.zero_add]
  subst hl
  simp [hi, List.getD]

theorem conv_at (W : World) (xs : List Int) (b l cap : Nat) (hl : xs.length = l) (h : ∀ i, i < l → W.cell? ⟨b, i, none⟩ = some (.int .u8 (xs.getD i 0))) :
    (convert 70 9 (.slice (some ⟨b, 0, none⟩) l cap)).run Tryd.prog W = .ok (.string (strOfNums xs)) W :=
  run_convert_bytes_arg (P := Tryd.prog) _ 70 5 Tryd.underlying70 Tryd.underlying5 b 0 l cap xs hl (fun i hi => by rw [Nat.zero_add]; exact h i (by omega)) 9 Tryd.underlying9

theorem make8 (w : World) : (Instr.makeSlice 70 (.int .i64 8) (.int .i64 8)).run Tryd.prog w = .ok (.slice (some ⟨w.heap.size, 0, none⟩) 8 8) (w.alloc (.cells #[.int .u8 0, .int .u8 0, .int .u8 0, .int .u8 0, .int .u8 0, .int .u8 0, .int .u8 0, .int .u8 0] 5)) := by kernel_rfl
theorem make08 (w : World) : (Instr.makeSlice 70 (.int .i64 0) (.int .i64 8)).run Tryd.prog w = .ok (.slice (some ⟨w.heap.size, 0, none⟩) 0 8) (w.alloc (.cells #[.int .u8 0, .int .u8 0, .int .u8 0, .int .u8 0, .int .u8 0, .int .u8 0, .int .u8 0, .int .u8 0] 5)) := by kernel_rfl

set_option maxRecDepth 1000000 in
set_option maxHeartbeats 800000 in
theorem eight_any (x : Int) (w : World) (h0 : 0 ≤ x) (h1 : x < 18446744073709551616) :
    Calls Tryd.prog 104 #[.int .u64 x] w fun e w' => e = .returned (.string (e8 x)) ∧ Below w.heap.size w w' := by
  have hmk := make8
  go_enter Tryd.func104, Tryd.ntmps104
  go_wp2
  refine wp_loop_rounds 9 ?_
  rw [rounds_succ]; go_wp2
  rw [rounds_succ]; go_wp2
  rw [rounds_succ]; go_wp2
  rw [rounds_succ]; go_wp2
  rw [rounds_succ]; go_wp2
  rw [rounds_succ]; go_wp2
  rw [rounds_succ]; go_wp2
  rw [rounds_succ]; go_wp2
  rw [rounds_succ]; go_wp2
  rw [conv_new w _ (numsR x) _ 8 8 _ rfl ?hc rfl]
  case hc => rfl
  go_wp2
  go_ret
  exact ⟨by rw [e8, ← numsR_eq]; rfl, (Below.refl _ _).alloc (Nat.le_refl _) _⟩

set_option maxRecDepth 1000000 in
set_option maxHeartbeats 1600000 in
theorem pack_any (x : Int) (w : World) (h0 : 0 ≤ x) (h1 : x < 18446744073709551616) :
    Calls Tryd.prog 87 #[.int .u64 x] w fun e w' => e = .returned (.string (e8 x)) ∧ Below w.heap.size w w' := by
  have hmk := make08
  go_enter Tryd.func87, Tryd.ntmps87
  go_wp2
  refine wp_loop_rounds 9 ?_
  rw [rounds_succ]; go_wp2
  rw [rounds_succ]; go_wp2
  rw [rounds_succ]; go_wp2
  rw [rounds_succ]; go_wp2
  rw [rounds_succ]; go_wp2
  rw [rounds_succ]; go_wp2
  rw [rounds_succ]; go_wp2
  rw [rounds_succ]; go_wp2
  rw [rounds_succ]; go_wp2
  rw [conv_at _ [x / 72057594037927936, x / 281474976710656 % 256, x / 1099511627776 % 256, x / 4294967296 % 256, x / 16777216 % 256, x / 65536 % 256, x / 256 % 256, x % 256] _ 8 8 rfl ?hc]
  case hc =>
    intro i hi
    obtain rfl | rfl | rfl | rfl | rfl | rfl | rfl | rfl : i = 0 ∨ i = 1 ∨ i = 2 ∨ i = 3 ∨ i = 4 ∨ i = 5 ∨ i = 6 ∨ i = 7 := by omega
    all_goals simp [go_sem]
  go_wp2
  go_ret
  refine ⟨?_, ?_⟩
  · have e : x / 72057594037927936 % 256 = x / 72057594037927936 := by omega
    unfold e8 nums
    rw [e]
    rfl
  · exact (((((((((Below.refl _ w).alloc (by simp) _).alloc (by simp; try omega) _).alloc (by simp; try omega) _).alloc (by simp; try omega) _).alloc (by simp; try omega) _).alloc (by simp; try omega) _).alloc (by simp; try omega) _).alloc (by simp; try omega) _).alloc (by simp; try omega) _

/-- byte k of a text as a number -/
def by_ (s : ByteArray) (k : Nat) : Nat := (s.data.toList.getD k 0).toNat
theorem by_at (s : ByteArray) (k : Nat) (h : k < s.size) : s[k].toNat = by_ s k := by
  have h' : k < s.data.toList.length := by rw [len_data]; exact h
  unfold by_
  rw [List.getD, List.getElem?_eq_getElem h']
  rfl
theorem by_lt (s : ByteArray) (k : Nat) : by_ s k < 256 := UInt8.toNat_lt _
/-- the number of the first k bytes -/
def pre (s : ByteArray) : Nat → Nat
  | 0 => 0
  | k + 1 => pre s k * 256 + by_ s k
theorem pre_lt (s : ByteArray) : ∀ k, pre s k < 256 ^ k
  | 0 => by simp [pre]
  | k + 1 => by
    have := pre_lt s k
    have := by_lt s k
    simp only [pre, Nat.pow_succ]
    omega
theorem pre_le (s : ByteArray) (k : Nat) (h : k < 8) : pre s k < 72057594037927936 := by
  have h1 := pre_lt s k
  have h2 : 256 ^ k ≤ 256 ^ 7 := Nat.pow_le_pow_right (by omega) (by omega)
  have h3 : (256 : Nat) ^ 7 = 72057594037927936 := by decide
  omega
theorem pre_8 (s : ByteArray) : pre s 8 < 18446744073709551616 := by
  have h1 := pre_lt s 8
  have h3 : (256 : Nat) ^ 8 = 18446744073709551616 := by decide
  omega
theorem or_byte (a b : Nat) (ha : a < 72057594037927936) (hb : b < 256) : bits .or .u64 ((a : Int) * 256) (b : Int) = (a : Int) * 256 + (b : Int) := by
  have h := bits_or_u64_nat (a * 256) b (by omega) (by omega)
  have e : a * 256 ||| b = a * 256 + b := by
    have := Nat.shiftLeft_add_eq_or_of_lt (i := 8) (b := b) (by omega) a
    rw [Nat.shiftLeft_eq] at this
    exact this.symm
  rw [e] at h
  rw [show ((a * 256 : Nat) : Int) = (a : Int) * 256 by omega, show ((a * 256 + b : Nat) : Int) = (a : Int) * 256 + (b : Int) by omega] at h
  exact h

set_option maxRecDepth 1000000 in
set_option maxHeartbeats 800000 in
theorem Eight_any (s : ByteArray) (w : World) (h : 8 ≤ s.size) :
    Calls Tryd.prog 95 #[.string s] w fun e w' => e = .returned (.int .u64 (pre s 8 : Int)) ∧ w = w' := by
  go_enter Tryd.func95, Tryd.ntmps95
  go_wp2
  go_loopw [3, 4, 5] (fun x _ i wr => ∃ k : Nat, k ≤ 8 ∧ i = .int .i64 k ∧ x = .int .u64 (pre s k : Int) ∧ w = wr) (fun _ _ i _ => 8 - (intOf i).toNat)
  case atStart => exact ⟨0, Nat.zero_le _, rfl, rfl, rfl⟩
  case round =>
    obtain ⟨k, hk, rfl, rfl, rfl⟩ := hrel
    by_cases hlt : k < 8
    · have hb := by_at s k (by omega)
      have hks : k < s.size := by omega
      have hp := pre_le s k hlt
      have hbl := by_lt s k
      have hs : pre s (k + 1) = pre s k * 256 + by_ s k := rfl
      have HS := Lib.hid hs
      clear hs
      have hw1 : IntKind.u64.wrap ((pre s k : Int) * 256) = (pre s k : Int) * 256 := by simp only [IntKind.wrap_u64]; omega
      have hw2 : IntKind.u64.wrap ((pre s k : Int) * 256 + (by_ s k : Int)) = (pre s k : Int) * 256 + (by_ s k : Int) := by simp only [IntKind.wrap_u64]; omega
      go_wp2
      refine ⟨⟨k + 1, by omega, by go_num, ?_, trivial⟩, by simp [intOf]; omega⟩
      rw [HS.out]
      rfl
    · have hk' : k = 8 := by omega
      subst hk'
      go_wp2
      go_ret
      exact ⟨rfl, rfl⟩

set_option maxRecDepth 1000000 in
set_option maxHeartbeats 800000 in
theorem unpack_any (s : ByteArray) (w : World) (h : 8 ≤ s.size) :
    Calls Tryd.prog 43 #[.string s] w fun e w' => e = .returned (.int .u64 (pre s 8 : Int)) ∧ w = w' := by
  go_enter Tryd.func43, Tryd.ntmps43
  go_wp2
  go_loopw [3, 4, 5] (fun x _ i wr => ∃ k : Nat, k ≤ 8 ∧ i = .int .i64 k ∧ x = .int .u64 (pre s k : Int) ∧ w = wr) (fun _ _ i _ => 8 - (intOf i).toNat)
  case atStart => exact ⟨0, Nat.zero_le _, rfl, rfl, rfl⟩
  case round =>
    obtain ⟨k, hk, rfl, rfl, rfl⟩ := hrel
    by_cases hlt : k < 8
    · have hb := by_at s k (by omega)
      have hks : k < s.size := by omega
      have hp := pre_le s k hlt
      have hbl := by_lt s k
      have hs : pre s (k + 1) = pre s k * 256 + by_ s k := rfl
      have HS := Lib.hid hs
      clear hs
      have hw1 : IntKind.u64.wrap ((pre s k : Int) * 256) = (pre s k : Int) * 256 := by simp only [IntKind.wrap_u64]; omega
      have ho := or_byte (pre s k) (by_ s k) hp hbl
      go_wp2
      refine ⟨⟨k + 1, by omega, by go_num, ?_, trivial⟩, by simp [intOf]; omega⟩
      rw [HS.out]
      rfl
    · have hk' : k = 8 := by omega
      subst hk'
      go_wp2
      go_ret
      exact ⟨rfl, rfl⟩
end Go.Proofs.YtionmnjcfnmpeaaDoor.Sg
