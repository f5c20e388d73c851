/-
  Addresses: the reference's Unpack where the length fits. (made by mk_an.py)
-/
import Derived.Test.YthlkpbpcfkgljaaAm
set_option linter.unusedVariables false
namespace Go.Proofs.Ythlkpbpcfkgljaa.Ac
open Go Go.RowKit Go.Proofs.Ythlkpbpcfkgljaa.Hz Go.Proofs.Ythlkpbpcfkgljaa.Sx

set_option maxRecDepth 100000 in
set_option maxHeartbeats 2000000 in
theorem RUnp_6ok (s : ByteArray) (k : Nat) (w : World) (kv : k = 4) (hk : s.size = k + 2) (h0 : prt s k ≠ 0) : Calls Try.prog 18 #[.string s] w fun e w' => e = .returned (.tuple #[.agg #[.int .i64 4, .string (s.extract 0 k), .int .i64 (prt s k)], .int .i64 0]) ∧ Below w.heap.size w w' := by
  have hk1 : k < s.size := by omega
  have hk2 : k + 1 < s.size := by omega
  have ha : (s[k]'hk1).toNat < 256 := (s[k]'hk1).toNat_lt
  have hb : (s[k + 1]'hk2).toNat < 256 := (s[k + 1]'hk2).toNat_lt
  have hw2 : wrap64 (((s[k]'hk1).toNat : Nat) : Int) = ((s[k]'hk1).toNat : Int) := by unfold wrap64; omega
  have hw3 : wrap64 (((s[k + 1]'hk2).toNat : Nat) : Int) = ((s[k + 1]'hk2).toNat : Int) := by unfold wrap64; omega
  have hw4 : wrap64 ((((s[k]'hk1).toNat : Nat) : Int) * 256) = ((s[k]'hk1).toNat : Int) * 256 := by unfold wrap64; omega
  have hw5 : wrap64 ((((s[k]'hk1).toNat : Nat) : Int) * 256 + ((s[k + 1]'hk2).toNat : Int)) = ((s[k]'hk1).toNat : Int) * 256 + ((s[k + 1]'hk2).toNat : Int) := by unfold wrap64; omega
  have hw6 : IntKind.i64.wrap ((((s[k]'hk1).toNat : Nat) : Int) * 256) = ((s[k]'hk1).toNat : Int) * 256 := IntWalk.i64_in _ (by omega)
  have hw7 : IntKind.i64.wrap ((((s[k]'hk1).toNat : Nat) : Int) * 256 + ((s[k + 1]'hk2).toNat : Int)) = ((s[k]'hk1).toNat : Int) * 256 + ((s[k + 1]'hk2).toNat : Int) := IntWalk.i64_in _ (by omega)
  have hp : prt s k = ((s[k]'hk1).toNat : Int) * 256 + ((s[k + 1]'hk2).toNat : Int) := dif_pos hk2
  have hz' : (prt s k == 0) = false := by simpa using h0
  rw [hp] at hz'
  have g1 : ((k : Int) != 4) = false := by subst kv; rfl
  have g2 : ((k : Int) != 16) = true := by subst kv; rfl
  have g3 : ((k : Int) == 16) = false := by subst kv; rfl
  have g4 : decide (65536 < ((k : Int) + 2)) = false := by subst kv; rfl
  have hm : k ≤ 16 := by omega
  clear ha hb kv
  have e1 : (0 : Int) ≤ (k : Int) + 1 := by omega
  have e2 : ((k : Int) + 1).toNat = k + 1 := by omega
  have e3 : (k : Int) + 1 < (k : Int) + 2 := by omega
  have e4 : (k : Int) ≤ (k : Int) + 2 := by omega
  have e5 : (0 : Int) ≤ (k : Int) := by omega
  have e6 : (k : Int) < (k : Int) + 2 := by omega
  have hw1 : IntKind.i64.wrap ((k : Int) + 1) = (k : Int) + 1 := IntWalk.i64_in _ (by omega)
  go_enter Try.func18, Try.ntmps18
  go_wp2
  go_region
  all_goals
    go_wp2
    rw [hp]
    exact bodyPost_ret (rfin rfl _ _ w.heap.size _ _ _ _ rfl rfl ((Below.heap_alloc _ _ _ (by simp)).trans (World.alloc_heap_new _ _))) rfl ⟨rfl, (((Below.refl _ _).alloc (Nat.le_refl _) _).alloc (by simp) _).drew⟩

set_option maxRecDepth 100000 in
set_option maxHeartbeats 2000000 in
theorem RUnp_6no (s : ByteArray) (k : Nat) (w : World) (kv : k = 4) (hk : s.size = k + 2) (h0 : prt s k = 0) : Calls Try.prog 18 #[.string s] w fun e w' => e = .returned (.tuple #[.agg #[.int .i64 0, .string ⟨#[]⟩, .int .i64 0], .int .i64 12]) ∧ Below w.heap.size w w' := by
  have hk1 : k < s.size := by omega
  have hk2 : k + 1 < s.size := by omega
  have ha : (s[k]'hk1).toNat < 256 := (s[k]'hk1).toNat_lt
  have hb : (s[k + 1]'hk2).toNat < 256 := (s[k + 1]'hk2).toNat_lt
  have hw2 : wrap64 (((s[k]'hk1).toNat : Nat) : Int) = ((s[k]'hk1).toNat : Int) := by unfold wrap64; omega
  have hw3 : wrap64 (((s[k + 1]'hk2).toNat : Nat) : Int) = ((s[k + 1]'hk2).toNat : Int) := by unfold wrap64; omega
  have hw4 : wrap64 ((((s[k]'hk1).toNat : Nat) : Int) * 256) = ((s[k]'hk1).toNat : Int) * 256 := by unfold wrap64; omega
  have hw5 : wrap64 ((((s[k]'hk1).toNat : Nat) : Int) * 256 + ((s[k + 1]'hk2).toNat : Int)) = ((s[k]'hk1).toNat : Int) * 256 + ((s[k + 1]'hk2).toNat : Int) := by unfold wrap64; omega
  have hw6 : IntKind.i64.wrap ((((s[k]'hk1).toNat : Nat) : Int) * 256) = ((s[k]'hk1).toNat : Int) * 256 := IntWalk.i64_in _ (by omega)
  have hw7 : IntKind.i64.wrap ((((s[k]'hk1).toNat : Nat) : Int) * 256 + ((s[k + 1]'hk2).toNat : Int)) = ((s[k]'hk1).toNat : Int) * 256 + ((s[k + 1]'hk2).toNat : Int) := IntWalk.i64_in _ (by omega)
  have hp : prt s k = ((s[k]'hk1).toNat : Int) * 256 + ((s[k + 1]'hk2).toNat : Int) := dif_pos hk2
  have hz' : (prt s k == 0) = true := by simpa using h0
  rw [hp] at hz'
  have g1 : ((k : Int) != 4) = false := by subst kv; rfl
  have g2 : ((k : Int) != 16) = true := by subst kv; rfl
  have g3 : ((k : Int) == 16) = false := by subst kv; rfl
  have g4 : decide (65536 < ((k : Int) + 2)) = false := by subst kv; rfl
  have hm : k ≤ 16 := by omega
  clear ha hb kv
  have e1 : (0 : Int) ≤ (k : Int) + 1 := by omega
  have e2 : ((k : Int) + 1).toNat = k + 1 := by omega
  have e3 : (k : Int) + 1 < (k : Int) + 2 := by omega
  have e4 : (k : Int) ≤ (k : Int) + 2 := by omega
  have e5 : (0 : Int) ≤ (k : Int) := by omega
  have e6 : (k : Int) < (k : Int) + 2 := by omega
  have hw1 : IntKind.i64.wrap ((k : Int) + 1) = (k : Int) + 1 := IntWalk.i64_in _ (by omega)
  go_enter Try.func18, Try.ntmps18
  go_wp2
  go_region
  all_goals
    go_wp2
    exact bodyPost_ret (rfin rfl _ _ w.heap.size _ _ _ _ rfl rfl ((Below.heap_alloc _ _ _ (by simp)).trans (World.alloc_heap_new _ _))) rfl ⟨rfl, (((Below.refl _ _).alloc (Nat.le_refl _) _).alloc (by simp) _).drew⟩

set_option maxRecDepth 100000 in
set_option maxHeartbeats 2000000 in
theorem RUnp_18ok (s : ByteArray) (k : Nat) (w : World) (kv : k = 16) (hk : s.size = k + 2) (h0 : prt s k ≠ 0) : Calls Try.prog 18 #[.string s] w fun e w' => e = .returned (.tuple #[.agg #[.int .i64 6, .string (s.extract 0 k), .int .i64 (prt s k)], .int .i64 0]) ∧ Below w.heap.size w w' := by
  have hk1 : k < s.size := by omega
  have hk2 : k + 1 < s.size := by omega
  have ha : (s[k]'hk1).toNat < 256 := (s[k]'hk1).toNat_lt
  have hb : (s[k + 1]'hk2).toNat < 256 := (s[k + 1]'hk2).toNat_lt
  have hw2 : wrap64 (((s[k]'hk1).toNat : Nat) : Int) = ((s[k]'hk1).toNat : Int) := by unfold wrap64; omega
  have hw3 : wrap64 (((s[k + 1]'hk2).toNat : Nat) : Int) = ((s[k + 1]'hk2).toNat : Int) := by unfold wrap64; omega
  have hw4 : wrap64 ((((s[k]'hk1).toNat : Nat) : Int) * 256) = ((s[k]'hk1).toNat : Int) * 256 := by unfold wrap64; omega
  have hw5 : wrap64 ((((s[k]'hk1).toNat : Nat) : Int) * 256 + ((s[k + 1]'hk2).toNat : Int)) = ((s[k]'hk1).toNat : Int) * 256 + ((s[k + 1]'hk2).toNat : Int) := by unfold wrap64; omega
  have hw6 : IntKind.i64.wrap ((((s[k]'hk1).toNat : Nat) : Int) * 256) = ((s[k]'hk1).toNat : Int) * 256 := IntWalk.i64_in _ (by omega)
  have hw7 : IntKind.i64.wrap ((((s[k]'hk1).toNat : Nat) : Int) * 256 + ((s[k + 1]'hk2).toNat : Int)) = ((s[k]'hk1).toNat : Int) * 256 + ((s[k + 1]'hk2).toNat : Int) := IntWalk.i64_in _ (by omega)
  have hp : prt s k = ((s[k]'hk1).toNat : Int) * 256 + ((s[k + 1]'hk2).toNat : Int) := dif_pos hk2
  have hz' : (prt s k == 0) = false := by simpa using h0
  rw [hp] at hz'
  have g1 : ((k : Int) != 4) = true := by subst kv; rfl
  have g2 : ((k : Int) != 16) = false := by subst kv; rfl
  have g3 : ((k : Int) == 16) = true := by subst kv; rfl
  have g4 : decide (65536 < ((k : Int) + 2)) = false := by subst kv; rfl
  have hm : k ≤ 16 := by omega
  clear ha hb kv
  have e1 : (0 : Int) ≤ (k : Int) + 1 := by omega
  have e2 : ((k : Int) + 1).toNat = k + 1 := by omega
  have e3 : (k : Int) + 1 < (k : Int) + 2 := by omega
  have e4 : (k : Int) ≤ (k : Int) + 2 := by omega
  have e5 : (0 : Int) ≤ (k : Int) := by omega
  have e6 : (k : Int) < (k : Int) + 2 := by omega
  have hw1 : IntKind.i64.wrap ((k : Int) + 1) = (k : Int) + 1 := IntWalk.i64_in _ (by omega)
  go_enter Try.func18, Try.ntmps18
  go_wp2
  go_region
  all_goals
    go_wp2
    rw [hp]
    exact bodyPost_ret (rfin rfl _ _ w.heap.size _ _ _ _ rfl rfl ((Below.heap_alloc _ _ _ (by simp)).trans (World.alloc_heap_new _ _))) rfl ⟨rfl, (((Below.refl _ _).alloc (Nat.le_refl _) _).alloc (by simp) _).drew⟩

set_option maxRecDepth 100000 in
set_option maxHeartbeats 2000000 in
theorem RUnp_18no (s : ByteArray) (k : Nat) (w : World) (kv : k = 16) (hk : s.size = k + 2) (h0 : prt s k = 0) : Calls Try.prog 18 #[.string s] w fun e w' => e = .returned (.tuple #[.agg #[.int .i64 0, .string ⟨#[]⟩, .int .i64 0], .int .i64 12]) ∧ Below w.heap.size w w' := by
  have hk1 : k < s.size := by omega
  have hk2 : k + 1 < s.size := by omega
  have ha : (s[k]'hk1).toNat < 256 := (s[k]'hk1).toNat_lt
  have hb : (s[k + 1]'hk2).toNat < 256 := (s[k + 1]'hk2).toNat_lt
  have hw2 : wrap64 (((s[k]'hk1).toNat : Nat) : Int) = ((s[k]'hk1).toNat : Int) := by unfold wrap64; omega
  have hw3 : wrap64 (((s[k + 1]'hk2).toNat : Nat) : Int) = ((s[k + 1]'hk2).toNat : Int) := by unfold wrap64; omega
  have hw4 : wrap64 ((((s[k]'hk1).toNat : Nat) : Int) * 256) = ((s[k]'hk1).toNat : Int) * 256 := by unfold wrap64; omega
  have hw5 : wrap64 ((((s[k]'hk1).toNat : Nat) : Int) * 256 + ((s[k + 1]'hk2).toNat : Int)) = ((s[k]'hk1).toNat : Int) * 256 + ((s[k + 1]'hk2).toNat : Int) := by unfold wrap64; omega
  have hw6 : IntKind.i64.wrap ((((s[k]'hk1).toNat : Nat) : Int) * 256) = ((s[k]'hk1).toNat : Int) * 256 := IntWalk.i64_in _ (by omega)
  have hw7 : IntKind.i64.wrap ((((s[k]'hk1).toNat : Nat) : Int) * 256 + ((s[k + 1]'hk2).toNat : Int)) = ((s[k]'hk1).toNat : Int) * 256 + ((s[k + 1]'hk2).toNat : Int) := IntWalk.i64_in _ (by omega)
  have hp : prt s k = ((s[k]'hk1).toNat : Int) * 256 + ((s[k + 1]'hk2).toNat : Int) := dif_pos hk2
  have hz' : (prt s k == 0) = true := by simpa using h0
  rw [hp] at hz'
  have g1 : ((k : Int) != 4) = true := by subst kv; rfl
  have g2 : ((k : Int) != 16) = false := by subst kv; rfl
  have g3 : ((k : Int) == 16) = true := by subst kv; rfl
  have g4 : decide (65536 < ((k : Int) + 2)) = false := by subst kv; rfl
  have hm : k ≤ 16 := by omega
  clear ha hb kv
  have e1 : (0 : Int) ≤ (k : Int) + 1 := by omega
  have e2 : ((k : Int) + 1).toNat = k + 1 := by omega
  have e3 : (k : Int) + 1 < (k : Int) + 2 := by omega
  have e4 : (k : Int) ≤ (k : Int) + 2 := by omega
  have e5 : (0 : Int) ≤ (k : Int) := by omega
  have e6 : (k : Int) < (k : Int) + 2 := by omega
  have hw1 : IntKind.i64.wrap ((k : Int) + 1) = (k : Int) + 1 := IntWalk.i64_in _ (by omega)
  go_enter Try.func18, Try.ntmps18
  go_wp2
  go_region
  all_goals
    go_wp2
    exact bodyPost_ret (rfin rfl _ _ w.heap.size _ _ _ _ rfl rfl ((Below.heap_alloc _ _ _ (by simp)).trans (World.alloc_heap_new _ _))) rfl ⟨rfl, (((Below.refl _ _).alloc (Nat.le_refl _) _).alloc (by simp) _).drew⟩
end Go.Proofs.Ythlkpbpcfkgljaa.Ac
