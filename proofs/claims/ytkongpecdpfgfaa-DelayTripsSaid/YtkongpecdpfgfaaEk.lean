/-
  Less: both.
-/
import Derived.Test.YtkongpecdpfgfaaEj
import Derived.Laws.Bits128
namespace Go.Proofs.Ytkongpecdpfgfaa.Ee
open Go Go.RowKit Go.Proofs.Ytkongpecdpfgfaa.Ec

theorem and32 (n : Int) : bits .and .i64 n 4294967295 = n % 4294967296 := by
  have h1 : (BitVec.ofInt 64 n).toNat = (n % 18446744073709551616).toNat := by rw [BitVec.toNat_ofInt]; rfl
  have h2 : (BitVec.ofInt 64 (4294967295 : Int)).toNat = 2 ^ 32 - 1 := by decide
  show IntKind.i64.wrap ((BitVec.ofInt 64 n &&& BitVec.ofInt 64 4294967295).toNat : Int) = _
  rw [BitVec.toNat_and, h1, h2, Nat.and_two_pow_sub_one_eq_mod, IntKind.wrap_i64]
  omega

/-- a is less than b on the circle -/
def ls (a b : Int) : Bool := decide (1 ≤ (b - a) % 4294967296) && decide ((b - a) % 4294967296 ≤ 2147483647)
theorem ls_no (a b : Int) : (ls a b && ls b a) = false := by
  unfold ls
  by_cases h1 : 1 ≤ (b - a) % 4294967296 <;> by_cases h2 : (b - a) % 4294967296 ≤ 2147483647 <;> by_cases h3 : 1 ≤ (a - b) % 4294967296 <;> by_cases h4 : (a - b) % 4294967296 ≤ 2147483647 <;> simp [h1, h2, h3, h4] <;> omega
theorem ls_by (a b c : Int) : ls ((a + c) % 4294967296) ((b + c) % 4294967296) = ls a b := by
  unfold ls
  have : ((b + c) % 4294967296 - (a + c) % 4294967296) % 4294967296 = (b - a) % 4294967296 := by omega
  rw [this]

/-- the bounds of a delay -/
def dl (a : Int) : Prop := 0 ≤ a ∧ a ≤ 4294967295

set_option maxHeartbeats 400000 in
theorem within_any (n a b : Int) (w : World) : Calls Try.prog 57 #[.int .i64 n, .int .i64 a, .int .i64 b] w fun e w' => e = .returned (.bool (decide (a ≤ n) && decide (n ≤ b))) ∧ w' = w := by
  by_cases h1 : a ≤ n
  · by_cases h2 : n ≤ b
    · exact (within_t n a b h1 h2 w).mono fun e w' h => ⟨by simp [h.1, h1, h2], h.2⟩
    · go_enter Try.func57, Try.ntmps57
      go_wp2
      go_ret
      exact ⟨by simp [h2], rfl⟩
  · go_enter Try.func57, Try.ntmps57
    go_wp2
    go_ret
    exact ⟨by simp; omega, rfl⟩

set_option maxHeartbeats 400000 in
theorem less_any (a b : Int) (ha : dl a) (hb : dl b) (w : World) : Calls Try.prog 96 #[.int .i64 a, .int .i64 b] w fun e w' => e = .returned (.bool (ls a b)) ∧ w' = w := by
  obtain ⟨a0, a1⟩ := ha
  obtain ⟨b0, b1⟩ := hb
  have hw : IntKind.i64.wrap (b - a) = b - a := by rw [IntKind.wrap_i64]; omega
  have hand := and32 (b - a)
  go_enter Try.func96, Try.ntmps96
  go_wp2_with (go_at_call 57; refine (within_any _ _ _ _).mono ?_; rintro e w1 ⟨rfl, rfl⟩)
  go_ret
  exact ⟨rfl, rfl⟩

set_option maxHeartbeats 400000 in
theorem rless_any (a b : Int) (ha : dl a) (hb : dl b) (w : World) : Calls Try.prog 40 #[.int .i64 a, .int .i64 b] w fun e w' => e = .returned (.bool (ls a b)) ∧ w' = w := by
  obtain ⟨a0, a1⟩ := ha
  obtain ⟨b0, b1⟩ := hb
  have hw : IntKind.i64.wrap (b - a) = b - a := by rw [IntKind.wrap_i64]; omega
  have ht : (b - a).tmod 4294967296 = b - a := by
    by_cases h : 0 ≤ b - a
    · rw [Int.tmod_eq_emod_of_nonneg h]; omega
    · have e : b - a = -(a - b) := by omega
      rw [e, Int.neg_tmod, Int.tmod_eq_emod_of_nonneg (by omega)]
      omega
  have hw2 : IntKind.i64.wrap (b - a + 4294967296) = b - a + 4294967296 := by rw [IntKind.wrap_i64]; omega
  have ht2 : (b - a + 4294967296).tmod 4294967296 = (b - a) % 4294967296 := by rw [Int.tmod_eq_emod_of_nonneg (by omega)]; omega
  have hm : (b - a + 4294967296) % 4294967296 = (b - a) % 4294967296 := by omega
  by_cases h1 : 1 ≤ (b - a) % 4294967296
  · by_cases h2 : (b - a) % 4294967296 < 2147483648
    · have hl : ls a b = true := by unfold ls; simp [h1]; omega
      have HL := Lib.hid hl
      clear hl
      go_enter Try.func40, Try.ntmps40
      go_wp2
      go_ret
      exact ⟨by rw [HL.out]; rfl, rfl⟩
    · have hl : ls a b = false := by unfold ls; simp [h1]; omega
      have HL := Lib.hid hl
      clear hl
      go_enter Try.func40, Try.ntmps40
      go_wp2
      go_ret
      exact ⟨by rw [HL.out]; rfl, rfl⟩
  · have hl : ls a b = false := by unfold ls; simp [h1]
    have HL := Lib.hid hl
    clear hl
    go_enter Try.func40, Try.ntmps40
    go_wp2
    go_ret
    exact ⟨by rw [HL.out]; rfl, rfl⟩

set_option maxHeartbeats 400000 in
theorem refuse_yes (k : Int) (w : World) : Calls Try.prog 56 #[.bool true, .int .i64 k] w fun e w' => e = .panicked [{ v := .iface 26 (.int .i64 k), recovered := false }] ∧ w = w' := Eb.refuse_yes k w

set_option maxHeartbeats 1000000 in
theorem LessF_yes (pa pb : Nat) (a b : Int) (ha : dl a) (hb : dl b) (w : World) (ca : w.cell? ⟨pa, 0, none⟩ = some (.int .i64 a)) (cb : w.cell? ⟨pb, 0, none⟩ = some (.int .i64 b)) :
    Calls Try.prog 95 #[.pointer (some ⟨pa, 0, none⟩), .pointer (some ⟨pb, 0, none⟩)] w fun e w' => e = .returned (.bool (ls a b)) ∧ Below w.heap.size w w' := by
  have HL := Lib.hid (less_any a b ha hb)
  obtain ⟨a0, a1⟩ := ha
  obtain ⟨b0, b1⟩ := hb
  go_enter Try.func95, Try.ntmps95
  go_wp2_with fail
  refine (within_t a 0 4294967295 a0 a1 _).mono ?_
  rintro e w1 ⟨rfl, rfl⟩
  go_wp2_with fail
  refine (within_t b 0 4294967295 b0 b1 _).mono ?_
  rintro e w1 ⟨rfl, rfl⟩
  go_wp2_with fail
  refine (refuse_no _ _).mono ?_
  rintro e w1 ⟨rfl, rfl⟩
  go_wp2_with fail
  refine (HL.out _).mono ?_
  rintro e w1 ⟨rfl, rfl⟩
  go_wp2
  go_ret
  exact ⟨rfl, Below.refl _ _⟩

set_option maxHeartbeats 1000000 in
theorem LessF_no (pa pb : Nat) (a b : Int) (h : ¬ (dl a ∧ dl b)) (w : World) (ca : w.cell? ⟨pa, 0, none⟩ = some (.int .i64 a)) (cb : w.cell? ⟨pb, 0, none⟩ = some (.int .i64 b)) :
    Calls Try.prog 95 #[.pointer (some ⟨pa, 0, none⟩), .pointer (some ⟨pb, 0, none⟩)] w fun e w' => e = .panicked [{ v := .iface 26 (.int .i64 7), recovered := false }] ∧ Below w.heap.size w w' := by
  by_cases ha : dl a
  · have hb : (decide (0 ≤ b) && decide (b ≤ 4294967295)) = false := by
      have : ¬ dl b := fun hb => h ⟨ha, hb⟩
      unfold dl at this
      by_cases k1 : 0 ≤ b <;> by_cases k2 : b ≤ 4294967295 <;> simp_all
    obtain ⟨a0, a1⟩ := ha
    have HW := Lib.hid (within_any b 0 4294967295)
    rw [hb] at HW
    clear hb
    go_enter Try.func95, Try.ntmps95
    go_wp2_with fail
    refine (within_t a 0 4294967295 a0 a1 _).mono ?_
    rintro e w1 ⟨rfl, rfl⟩
    go_wp2_with fail
    refine (HW.out _).mono ?_
    rintro e w1 ⟨rfl, rfl⟩
    go_wp2_with fail
    refine (refuse_yes _ _).mono ?_
    rintro e w1 ⟨rfl, rfl⟩
    go_wp2_with fail
    simp [bodyPost]
    exact Below.refl _ _
  · have hb : (decide (0 ≤ a) && decide (a ≤ 4294967295)) = false := by
      unfold dl at ha
      by_cases k1 : 0 ≤ a <;> by_cases k2 : a ≤ 4294967295 <;> simp_all
    have HW := Lib.hid (within_any a 0 4294967295)
    rw [hb] at HW
    clear hb
    go_enter Try.func95, Try.ntmps95
    go_wp2_with fail
    refine (HW.out _).mono ?_
    rintro e w1 ⟨rfl, rfl⟩
    go_wp2_with fail
    refine (refuse_yes _ _).mono ?_
    rintro e w1 ⟨rfl, rfl⟩
    go_wp2_with fail
    simp [bodyPost]
    exact Below.refl _ _

theorem enterLess (args : Array Value) (w : World) : (callFunc 95 args).run Try.prog w = .ok (.enter 95 args) w := by kernel_rfl

set_option maxHeartbeats 400000 in
theorem Less_yes (a b : Int) (ha : dl a) (hb : dl b) (w : World) :
    Calls Try.prog 39 #[.int .i64 a, .int .i64 b] w fun e w' => e = .returned (.tuple #[.bool (ls a b), .int .i64 0]) ∧ Below w.heap.size w w' := by
  have hmf : ∀ (fn : Fn) (first cap : Array Value) (w : World), (Instr.makeFunc fn first cap).run Try.prog w = .ok (.func fn first cap) w := fun _ _ _ _ => rfl
  have hF := LessF_yes w.heap.size (w.heap.size + 1) a b ha hb (Ea.aw ((w.alloc (.cells #[.int .i64 a] 3)).alloc (.cells #[.int .i64 b] 3))) (by simp [Ea.aw, go_sem]) (by simp [Ea.aw, go_sem])
  have HF := Lib.hid (Ea.attempt_ret _ _ _ _ enterLess hF)
  clear hF
  go_enter Try.func39, Try.ntmps39
  go_wp2_with fail
  refine HF.out.mono ?_
  rintro e w1 ⟨rfl, hb1⟩
  go_wp2
  go_ret2
  exact ⟨rfl, below_alloc _ (below_alloc _ hb1)⟩

set_option maxHeartbeats 400000 in
theorem Less_no (a b : Int) (h : ¬ (dl a ∧ dl b)) (w : World) :
    Calls Try.prog 39 #[.int .i64 a, .int .i64 b] w fun e w' => e = .returned (.tuple #[.bool false, .int .i64 7]) ∧ Below w.heap.size w w' := by
  have hmf : ∀ (fn : Fn) (first cap : Array Value) (w : World), (Instr.makeFunc fn first cap).run Try.prog w = .ok (.func fn first cap) w := fun _ _ _ _ => rfl
  have hF := LessF_no w.heap.size (w.heap.size + 1) a b h (Ea.aw ((w.alloc (.cells #[.int .i64 a] 3)).alloc (.cells #[.int .i64 b] 3))) (by simp [Ea.aw, go_sem]) (by simp [Ea.aw, go_sem])
  have HF := Lib.hid (Ea.attempt_err _ _ _ _ enterLess hF)
  clear hF
  go_enter Try.func39, Try.ntmps39
  go_wp2_with fail
  refine HF.out.mono ?_
  rintro e w1 ⟨rfl, hb1⟩
  go_wp2
  go_ret2
  exact ⟨rfl, below_alloc _ (below_alloc _ hb1)⟩

end Go.Proofs.Ytkongpecdpfgfaa.Ee
