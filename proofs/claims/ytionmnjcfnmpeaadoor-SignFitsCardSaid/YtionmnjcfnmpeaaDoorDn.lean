/-
  Number: both.
-/
import Derived.Test.YtionmnjcfnmpeaaDoorDa
import Derived.Test.YtionmnjcfnmpeaaDoorHr
import Derived.Laws.Bits64b
import Derived.WalkKit
import Derived.WalkSpells
import Derived.LoopTactic
import Derived.Outline
import Derived.BigRegion
import Derived.Lib.Hide
namespace Go.Proofs.YtionmnjcfnmpeaaDoor.Hi
open Go Go.RowKit Go.Proofs.YtionmnjcfnmpeaaDoor.Hh

/-- byte k of a text as a number -/
def bt (s : ByteArray) (k : Nat) : Nat := (s.data.toList.getD k 0).toNat
theorem bt_at (s : ByteArray) (k : Nat) (h : k < s.size) : s[k].toNat = bt s k := by
  have h' : k < s.data.toList.length := by rw [len_data]; exact h
  unfold bt
  rw [List.getD, List.getElem?_eq_getElem h']
  rfl
theorem bt_lt (s : ByteArray) (k : Nat) : bt s k < 256 := UInt8.toNat_lt _
/-- the number of the first k bytes -/
def pre (s : ByteArray) : Nat → Nat
  | 0 => 0
  | k + 1 => pre s k * 256 + bt s k
theorem pre_lt (s : ByteArray) : ∀ k, pre s k < 256 ^ k
  | 0 => by simp [pre]
  | k + 1 => by
    have := pre_lt s k
    have := bt_lt s k
    simp only [pre, Nat.pow_succ]
    omega
theorem pre_le (s : ByteArray) (k : Nat) (h : k < 8) : pre s k < 72057594037927936 := by
  have h1 := pre_lt s k
  have h2 : 256 ^ k ≤ 256 ^ 7 := Nat.pow_le_pow_right (by omega) (by omega)
  have h3 : (256 : Nat) ^ 7 = 72057594037927936 := by decide
  omega
theorem pre_8 (s : ByteArray) : pre s 8 < 18446744073709551616 := by
  have h1 := pre_lt s 8
  have h3 : (256 : Nat) ^ 8 = 18446744073709551616 := by decide
  omega
theorem or_byte (a b : Nat) (ha : a < 72057594037927936) (hb : b < 256) : bits .or .u64 ((a : Int) * 256) (b : Int) = (a : Int) * 256 + (b : Int) := by
  have h := bits_or_u64_nat (a * 256) b (by omega) (by omega)
  have e : a * 256 ||| b = a * 256 + b := by
    have := Nat.shiftLeft_add_eq_or_of_lt (i := 8) (b := b) (by omega) a
    rw [Nat.shiftLeft_eq] at this
    exact this.symm
  rw [e] at h
  rw [show ((a * 256 : Nat) : Int) = (a : Int) * 256 by omega, show ((a * 256 + b : Nat) : Int) = (a : Int) * 256 + (b : Int) by omega] at h
  exact h

/-- the number of a digest, and what is wrong -/
def nb (s : ByteArray) (n : Int) : Int × Int := if s.size < 8 then (0, 1) else if n < 1 then (0, 7) else ((pre s 8 : Int) % n, 0)

set_option maxRecDepth 100000 in
set_option maxHeartbeats 800000 in
theorem Eight_any (s : ByteArray) (w : World) (h : 8 ≤ s.size) :
    Calls Tryd.prog 95 #[.string s] w fun e w' => e = .returned (.int .u64 (pre s 8 : Int)) ∧ w = w' := by
  go_enter Tryd.func95, Tryd.ntmps95
  go_wp2
  go_loopw [3, 4, 5] (fun x _ i wr => ∃ k : Nat, k ≤ 8 ∧ i = .int .i64 k ∧ x = .int .u64 (pre s k : Int) ∧ w = wr) (fun _ _ i _ => 8 - (intOf i).toNat)
  case atStart => exact ⟨0, Nat.zero_le _, rfl, rfl, rfl⟩
  case round =>
    obtain ⟨k, hk, rfl, rfl, rfl⟩ := hrel
    by_cases hlt : k < 8
    · have hb := bt_at s k (by omega)
      have hks : k < s.size := by omega
      have hp := pre_le s k hlt
      have hbl := bt_lt s k
      have hs : pre s (k + 1) = pre s k * 256 + bt s k := rfl
      have HS := Lib.hid hs
      clear hs
      have hw1 : IntKind.u64.wrap ((pre s k : Int) * 256) = (pre s k : Int) * 256 := by simp only [IntKind.wrap_u64]; omega
      have hw2 : IntKind.u64.wrap ((pre s k : Int) * 256 + (bt s k : Int)) = (pre s k : Int) * 256 + (bt s k : Int) := by simp only [IntKind.wrap_u64]; omega
      go_wp2
      refine ⟨⟨k + 1, by omega, by go_num, ?_, trivial⟩, by simp [intOf]; omega⟩
      rw [HS.out]
      rfl
    · have hk' : k = 8 := by omega
      subst hk'
      go_wp2
      go_ret
      exact ⟨rfl, rfl⟩

set_option maxRecDepth 100000 in
set_option maxHeartbeats 800000 in
theorem RNumber_any (s : ByteArray) (n : Int) (w : World) (hn : n ≤ 9223372036854775807) (hm : -9223372036854775808 ≤ n) :
    Calls Tryd.prog 96 #[.string s, .int .i64 n] w fun e w' => e = .returned (.tuple #[.int .i64 (nb s n).1, .int .i64 (nb s n).2]) ∧ Below w.heap.size w w' := by
  unfold nb
  by_cases h1 : s.size < 8
  · rw [if_pos h1]
    have c1 : (s.size : Int) < 8 := by omega
    go_enter Tryd.func96, Tryd.ntmps96
    go_wp2_with fail
    go_ret2
    exact ⟨rfl, Below.refl _ _⟩
  · rw [if_neg h1]
    have c1 : ¬ (s.size : Int) < 8 := by omega
    by_cases h2 : n < 1
    · rw [if_pos h2]
      go_enter Tryd.func96, Tryd.ntmps96
      go_wp2_with fail
      go_ret2
      exact ⟨rfl, Below.refl _ _⟩
    · rw [if_neg h2]
      have hp := pre_8 s
      have hE := fun w => Eight_any s w (by omega)
      generalize pre s 8 = p at hp hE
      have hw1 : IntKind.u64.wrap n = n := by simp only [IntKind.wrap_u64]; omega
      have hlt : (p : Int) % n < n := Int.emod_lt_of_pos _ (by omega)
      have hge : 0 ≤ (p : Int) % n := Int.emod_nonneg _ (by omega)
      have hw2 : IntKind.i64.wrap ((p : Int) % n) = (p : Int) % n := by rw [IntKind.wrap_i64]; omega
      have htm : ((p : Int)).tmod n = (p : Int) % n := Int.tmod_eq_emod_of_nonneg (by omega)
      have hne : ¬ n = 0 := by omega
      go_enter Tryd.func96, Tryd.ntmps96
      go_wp2_with fail
      refine (hE _).mono ?_
      rintro e w1 ⟨rfl, rfl⟩
      go_wp2
      go_ret2
      exact ⟨rfl, Below.refl _ _⟩

set_option maxRecDepth 100000 in
set_option maxHeartbeats 800000 in
theorem NumberF_no (pa pb : Nat) (s : ByteArray) (n : Int) (w : World) (h : s.size < 8 ∨ n < 1) (ca : w.cell? ⟨pa, 0, none⟩ = some (.string s)) (cb : w.cell? ⟨pb, 0, none⟩ = some (.int .i64 n)) :
    Calls Tryd.prog 113 #[.pointer (some ⟨pa, 0, none⟩), .pointer (some ⟨pb, 0, none⟩)] w fun e w' => e = .panicked [{ v := .iface 23 (.int .i64 (nb s n).2), recovered := false }] ∧ Below w.heap.size w w' := by
  unfold nb
  by_cases h1 : s.size < 8
  · rw [if_pos h1]
    have c1 : decide ((s.size : Int) < 8) = true := by simp; omega
    go_enter Tryd.func113, Tryd.ntmps113
    go_wp2_with fail
    refine (refuse_yes _ _).mono ?_
    rintro e w1 ⟨rfl, rfl⟩
    go_wp2_with fail
    simp [bodyPost]
    exact Below.refl _ _
  · rw [if_neg h1]
    have c1 : decide ((s.size : Int) < 8) = false := by simp; omega
    have h2 : n < 1 := by omega
    have c2 : decide (n < 1) = true := by simp; omega
    rw [if_pos h2]
    go_enter Tryd.func113, Tryd.ntmps113
    go_wp2_with fail
    refine (refuse_no _ _).mono ?_
    rintro e w1 ⟨rfl, rfl⟩
    go_wp2_with fail
    refine (refuse_yes _ _).mono ?_
    rintro e w1 ⟨rfl, rfl⟩
    go_wp2_with fail
    simp [bodyPost]
    exact Below.refl _ _

set_option maxRecDepth 100000 in
set_option maxHeartbeats 1600000 in
theorem NumberF_yes (pa pb : Nat) (s : ByteArray) (n : Int) (w : World) (h1 : 8 ≤ s.size) (h2 : 1 ≤ n) (hn : n ≤ 9223372036854775807) (ca : w.cell? ⟨pa, 0, none⟩ = some (.string s)) (cb : w.cell? ⟨pb, 0, none⟩ = some (.int .i64 n)) :
    Calls Tryd.prog 113 #[.pointer (some ⟨pa, 0, none⟩), .pointer (some ⟨pb, 0, none⟩)] w fun e w' => e = .returned (.int .i64 ((pre s 8 : Int) % n)) ∧ w = w' := by
  have c1 : decide ((s.size : Int) < 8) = false := by simp; omega
  have c2 : decide (n < 1) = false := by simp; omega
  go_enter Tryd.func113, Tryd.ntmps113
  go_wp2_with fail
  refine (refuse_no _ _).mono ?_
  rintro e w1 ⟨rfl, rfl⟩
  go_wp2_with fail
  refine (refuse_no _ _).mono ?_
  rintro e w1 ⟨rfl, rfl⟩
  go_wp2
  go_loopw [3, 4, 12] (fun x _ i wr => ∃ k : Nat, k ≤ 8 ∧ i = .int .i64 k ∧ x = .int .u64 (pre s k : Int) ∧ w = wr) (fun _ _ i _ => 8 - (intOf i).toNat)
  case atStart => exact ⟨0, Nat.zero_le _, rfl, rfl, rfl⟩
  case round =>
    obtain ⟨k, hk, rfl, rfl, rfl⟩ := hrel
    by_cases hlt : k < 8
    · have hb := bt_at s k (by omega)
      have hks : k < s.size := by omega
      have hp := pre_le s k hlt
      have hbl := bt_lt s k
      have hs : pre s (k + 1) = pre s k * 256 + bt s k := rfl
      have HS := Lib.hid hs
      clear hs
      have hor := or_byte (pre s k) (bt s k) hp hbl
      have hw1 : IntKind.u64.wrap ((pre s k : Int) * 256) = (pre s k : Int) * 256 := by simp only [IntKind.wrap_u64]; omega
      go_wp2
      refine ⟨⟨k + 1, by omega, by go_num, ?_, trivial⟩, by simp [intOf]; omega⟩
      rw [HS.out]
      rfl
    · have hk' : k = 8 := by omega
      subst hk'
      have hp := pre_8 s
      obtain ⟨p, hpe⟩ : ∃ p, pre s 8 = p := ⟨_, rfl⟩
      rw [hpe] at hp ⊢
      have HP := Lib.hid hpe
      clear hpe
      have hw1 : IntKind.u64.wrap n = n := by simp only [IntKind.wrap_u64]; omega
      have hlt : (p : Int) % n < n := Int.emod_lt_of_pos _ (by omega)
      have hge : 0 ≤ (p : Int) % n := Int.emod_nonneg _ (by omega)
      have hw2 : IntKind.i64.wrap ((p : Int) % n) = (p : Int) % n := by rw [IntKind.wrap_i64]; omega
      have htm : ((p : Int)).tmod n = (p : Int) % n := Int.tmod_eq_emod_of_nonneg (by omega)
      have hne : ¬ n = 0 := by omega
      go_wp2
      go_ret
      exact ⟨by rw [HP.out]; rfl, rfl⟩

theorem enterNumber (args : Array Value) (w : World) : (callFunc 113 args).run Tryd.prog w = .ok (.enter 113 args) w := by kernel_rfl

set_option maxRecDepth 100000 in
set_option maxHeartbeats 800000 in
theorem Number_any (s : ByteArray) (n : Int) (w : World) (hn : n ≤ 9223372036854775807) :
    Calls Tryd.prog 90 #[.string s, .int .i64 n] w fun e w' => e = .returned (.tuple #[.int .i64 (nb s n).1, .int .i64 (nb s n).2]) ∧ Below w.heap.size w w' := by
  have hmf : ∀ (fn : Fn) (first cap : Array Value) (w : World), (Instr.makeFunc fn first cap).run Tryd.prog w = .ok (.func fn first cap) w := fun _ _ _ _ => rfl
  by_cases h : s.size < 8 ∨ n < 1
  · have e0 : (nb s n).1 = 0 := by unfold nb; split; rfl; split; rfl; omega
    rw [e0]
    have hF := NumberF_no w.heap.size (w.heap.size + 1) s n (aw ((w.alloc (.cells #[.string s] 9)).alloc (.cells #[.int .i64 n] 3))) h (by simp [aw, go_sem]) (by simp [aw, go_sem])
    generalize (nb s n).2 = k at hF ⊢
    go_enter Tryd.func90, Tryd.ntmps90
    go_wp2_with fail
    refine (attempt_err _ _ _ _ enterNumber hF).mono ?_
    rintro e w1 ⟨rfl, hb1⟩
    go_wp2
    go_ret2
    exact ⟨rfl, below_alloc _ (below_alloc _ hb1)⟩
  · have e0 : nb s n = ((pre s 8 : Int) % n, 0) := by unfold nb; rw [if_neg (by omega), if_neg (by omega)]
    rw [e0]
    have hF := NumberF_yes w.heap.size (w.heap.size + 1) s n (aw ((w.alloc (.cells #[.string s] 9)).alloc (.cells #[.int .i64 n] 3))) (by omega) (by omega) hn (by simp [aw, go_sem]) (by simp [aw, go_sem])
    generalize (pre s 8 : Int) % n = k at hF ⊢
    go_enter Tryd.func90, Tryd.ntmps90
    go_wp2_with fail
    refine (attempt_ret _ _ _ _ enterNumber (hF.mono fun e w' h => ⟨h.1, h.2 ▸ Below.refl _ _⟩)).mono ?_
    rintro e w1 ⟨rfl, hb1⟩
    go_wp2
    go_ret2
    exact ⟨rfl, below_alloc _ (below_alloc _ hb1)⟩

end Go.Proofs.YtionmnjcfnmpeaaDoor.Hi
