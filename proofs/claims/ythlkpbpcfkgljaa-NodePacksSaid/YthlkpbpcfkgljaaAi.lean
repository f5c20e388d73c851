/-
  Addresses: the program's unpack.
-/
import Derived.Test.YthlkpbpcfkgljaaAh
import Derived.StillTailTactics
namespace Go.Proofs.Ythlkpbpcfkgljaa.Ac
open Go Go.RowKit Go.Proofs.Ythlkpbpcfkgljaa.Hz Go.Proofs.Ythlkpbpcfkgljaa.Sx

theorem orI (a b : Nat) (ha : a < 16777216) (hb : b < 256) : bits .or .i64 ((a : Int) * 256) (b : Int) = (a : Int) * 256 + (b : Int) := by
  have h1 : (BitVec.ofInt 64 ((a : Int) * 256)).toNat = a * 256 := by
    rw [show (a : Int) * 256 = ((a * 256 : Nat) : Int) by omega, BitVec.ofInt_natCast, BitVec.toNat_ofNat]; exact Nat.mod_eq_of_lt (by omega)
  have h2 : (BitVec.ofInt 64 (b : Int)).toNat = b := by
    rw [BitVec.ofInt_natCast, BitVec.toNat_ofNat]; exact Nat.mod_eq_of_lt (by omega)
  have e : a * 256 ||| b = a * 256 + b := by
    have := Nat.shiftLeft_add_eq_or_of_lt (i := 8) (b := b) (by omega) a
    rw [Nat.shiftLeft_eq] at this
    exact this.symm
  show IntKind.i64.wrap ((BitVec.ofInt 64 ((a : Int) * 256) ||| BitVec.ofInt 64 (b : Int)).toNat : Int) = _
  rw [BitVec.toNat_or, h1, h2, e, IntKind.wrap_i64]
  omega

/-- the port in a pack -/
def prt (s : ByteArray) (k : Nat) : Int := if h : k + 1 < s.size then (s[k].toNat : Int) * 256 + s[k + 1].toNat else 0

set_option maxRecDepth 100000 in
set_option maxHeartbeats 1000000 in
theorem unpack_ok (s : ByteArray) (n : Int) (k : Nat) (hk : s.size = k + 2) (hm : k ≤ 60000) (w : World) (hz : prt s k ≠ 0) : Calls Try.prog 38 #[.string s, .int .i64 n] w fun e w' => e = .returned (.agg #[.int .i64 n, .string (s.extract 0 k), .int .i64 (prt s k)]) ∧ Below w.heap.size w w' := by
  have hk1 : k < s.size := by omega
  have hk2 : k + 1 < s.size := by omega
  have ha : (s[k]'hk1).toNat < 256 := (s[k]'hk1).toNat_lt
  have hb : (s[k + 1]'hk2).toNat < 256 := (s[k + 1]'hk2).toNat_lt
  have hw2 : wrap64 (((s[k]'hk1).toNat : Nat) : Int) = ((s[k]'hk1).toNat : Int) := by unfold wrap64; omega
  have hw3 : wrap64 (((s[k + 1]'hk2).toNat : Nat) : Int) = ((s[k + 1]'hk2).toNat : Int) := by unfold wrap64; omega
  have hw4 : wrap64 ((((s[k]'hk1).toNat : Nat) : Int) * 256) = ((s[k]'hk1).toNat : Int) * 256 := by unfold wrap64; omega
  have hw5 := orI (s[k]'hk1).toNat (s[k + 1]'hk2).toNat (by omega) hb
  have hp : prt s k = ((s[k]'hk1).toNat : Int) * 256 + ((s[k + 1]'hk2).toNat : Int) := dif_pos hk2
  have hz' : (prt s k == 0) = false := by simpa using hz
  rw [hp] at hz'
  clear ha hb
  have e1 : (0 : Int) ≤ (k : Int) + 1 := by omega
  have e2 : ((k : Int) + 1).toNat = k + 1 := by omega
  have e3 : (k : Int) + 1 < (k : Int) + 2 := by omega
  have e4 : (k : Int) ≤ (k : Int) + 2 := by omega
  have e5 : (0 : Int) ≤ (k : Int) := by omega
  have e6 : (k : Int) < (k : Int) + 2 := by omega
  have hw1 : IntKind.i64.wrap ((k : Int) + 1) = (k : Int) + 1 := IntWalk.i64_in _ (by omega)
  go_enter Try.func38, Try.ntmps38
  go_wp2
  go_region
  all_goals
    go_wp2_with fail
    refine (Aa.refuse_no _ _).mono ?_
    rintro e w3 ⟨rfl, rfl⟩
    go_wp2
    rw [hp]
    exact bodyPost_ret (results_cell_row rfl _ _ w.heap.size 34 _ _ _ rfl ((Below.heap_alloc _ _ _ (by simp)).trans (World.alloc_heap_new _ _)) Try.underlying34 rfl (by kernel_rfl)) rfl ⟨rfl, (((Below.refl _ _).alloc (Nat.le_refl _) _).alloc (by simp) _).drew⟩

set_option maxRecDepth 100000 in
set_option maxHeartbeats 1000000 in
theorem unpack_no (s : ByteArray) (n : Int) (k : Nat) (hk : s.size = k + 2) (hm : k ≤ 60000) (w : World) (hz : prt s k = 0) : Calls Try.prog 38 #[.string s, .int .i64 n] w fun e w' => e = .panicked [{ v := .iface 24 (.int .i64 12), recovered := false }] ∧ Below w.heap.size w w' := by
  have hk1 : k < s.size := by omega
  have hk2 : k + 1 < s.size := by omega
  have ha : (s[k]'hk1).toNat < 256 := (s[k]'hk1).toNat_lt
  have hb : (s[k + 1]'hk2).toNat < 256 := (s[k + 1]'hk2).toNat_lt
  have hw2 : wrap64 (((s[k]'hk1).toNat : Nat) : Int) = ((s[k]'hk1).toNat : Int) := by unfold wrap64; omega
  have hw3 : wrap64 (((s[k + 1]'hk2).toNat : Nat) : Int) = ((s[k + 1]'hk2).toNat : Int) := by unfold wrap64; omega
  have hw4 : wrap64 ((((s[k]'hk1).toNat : Nat) : Int) * 256) = ((s[k]'hk1).toNat : Int) * 256 := by unfold wrap64; omega
  have hw5 := orI (s[k]'hk1).toNat (s[k + 1]'hk2).toNat (by omega) hb
  have hp : prt s k = ((s[k]'hk1).toNat : Int) * 256 + ((s[k + 1]'hk2).toNat : Int) := dif_pos hk2
  have hz' : (prt s k == 0) = true := by simpa using hz
  rw [hp] at hz'
  clear ha hb
  have e1 : (0 : Int) ≤ (k : Int) + 1 := by omega
  have e2 : ((k : Int) + 1).toNat = k + 1 := by omega
  have e3 : (k : Int) + 1 < (k : Int) + 2 := by omega
  have e4 : (k : Int) ≤ (k : Int) + 2 := by omega
  have e5 : (0 : Int) ≤ (k : Int) := by omega
  have e6 : (k : Int) < (k : Int) + 2 := by omega
  have hw1 : IntKind.i64.wrap ((k : Int) + 1) = (k : Int) + 1 := IntWalk.i64_in _ (by omega)
  go_enter Try.func38, Try.ntmps38
  go_wp2
  go_region
  all_goals
    go_wp2_with fail
    refine (Aa.refuse_yes _ _).mono ?_
    rintro e w3 ⟨rfl, rfl⟩
    exact ⟨rfl, rfl, (((Below.refl _ _).alloc (Nat.le_refl _) _).alloc (by simp) _).drew⟩

end Go.Proofs.Ythlkpbpcfkgljaa.Ac
