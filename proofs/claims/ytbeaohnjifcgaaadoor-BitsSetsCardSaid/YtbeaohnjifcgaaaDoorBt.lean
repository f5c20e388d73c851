/-
  Fields of bits: the program's And, Or, Without. (made by mk_bt.py)
-/
import Derived.Test.YtbeaohnjifcgaaaDoorBw
import Derived.Laws.EntriesVeiled
namespace Go.Proofs.YtbeaohnjifcgaaaDoor.Bh
open Go Go.RowKit Go.Shelf Go.Proofs.YtbeaohnjifcgaaaDoor.Sx Go.Proofs.YtbeaohnjifcgaaaDoor.Na Go.Proofs.YtbeaohnjifcgaaaDoor.Ba

/-- how two bytes are joined -/
def opb (how x y : Nat) : Nat := if how = 1 then x &&& y else if how = 2 then x ||| y else x &&& (255 - y)
theorem not_bit (y b : Nat) (hy : y < 256) (hb : b < 8) : (255 - y).testBit b = !y.testBit b := by
  have := Nat.testBit_two_pow_sub_succ (n := 8) hy b
  rw [show 2 ^ 8 - (y + 1) = 255 - y by omega] at this
  rw [this]; simp [hb]
theorem opb_bit (how x y b : Nat) (hy : y < 256) (hb : b < 8) : (opb how x y).testBit b = jb how (x.testBit b) (y.testBit b) := by
  unfold opb jb
  split
  · rw [Nat.testBit_and]
  · split
    · rw [Nat.testBit_or]
    · rw [Nat.testBit_and, not_bit y b hy hb]
theorem opb_lt (how x y : Nat) (hx : x < 256) (hy : y < 256) : opb how x y < 256 := by
  unfold opb
  split
  · exact Nat.lt_of_le_of_lt Nat.and_le_left hx
  · split
    · exact Nat.or_lt_two_pow (n := 8) hx hy
    · exact Nat.lt_of_le_of_lt Nat.and_le_left hx
theorem bt_by (s : ByteArray) (k b : Nat) (hb : b < 8) : bt s (8 * k + (7 - b)) = (by_ s k).testBit b := by
  unfold bt
  rw [show (8 * k + (7 - b)) / 8 = k by omega, show 7 - (8 * k + (7 - b)) % 8 = b by omega]
theorem jb_ff (how : Nat) : jb how false false = false := by unfold jb; split <;> (try split) <;> rfl
theorem opb_byte (how N m k : Nat) (a b : ByteArray) (hk : k < m) (ha : ∀ i, N ≤ i → i < 8 * m → bt a i = false) (hb : ∀ i, N ≤ i → i < 8 * m → bt b i = false) : opb how (by_ a k) (by_ b k) = bN (lim N fun i => jb how (bt a i) (bt b i)) k := by
  refine bN_of _ _ _ (opb_lt _ _ _ (by_lt _ _) (by_lt _ _)) fun c hc => ?_
  rw [opb_bit _ _ _ _ (by_lt _ _) hc]
  unfold lim
  simp only [bt_by _ _ _ hc]
  by_cases e : 8 * k + (7 - c) < N
  · simp [e]
  · have h1 := ha (8 * k + (7 - c)) (by omega) (by omega)
    have h2 := hb (8 * k + (7 - c)) (by omega) (by omega)
    rw [bt_by _ _ _ hc] at h1 h2
    rw [h1, h2, jb_ff]
    simp
theorem andnot8 (x y : Nat) (hx : x < 256) (hy : y < 256) : bits .andNot .u8 (x : Int) (y : Int) = ((x &&& (255 - y) : Nat) : Int) := by
  have h1 : (BitVec.ofInt 8 (x : Int)).toNat = x := by rw [BitVec.ofInt_natCast, BitVec.toNat_ofNat]; exact Nat.mod_eq_of_lt hx
  have h2 : (BitVec.ofInt 8 (y : Int)).toNat = y := by rw [BitVec.ofInt_natCast, BitVec.toNat_ofNat]; exact Nat.mod_eq_of_lt hy
  show IntKind.u8.wrap ((BitVec.ofInt 8 (x : Int) &&& ~~~ (BitVec.ofInt 8 (y : Int))).toNat : Int) = _
  rw [BitVec.toNat_and, BitVec.toNat_not, h1, h2, IntKind.wrap_u8, show 2 ^ 8 - 1 - y = 255 - y by omega]
  have : x &&& (255 - y) < 256 := Nat.lt_of_le_of_lt Nat.and_le_left hx
  omega
theorem j1_any (x y : Nat) (hx : x < 256) (hy : y < 256) (w : World) : Calls Tryd.prog 109 #[.int .u8 (x : Int), .int .u8 (y : Int)] w fun e w' => e = .returned (.int .u8 (opb 1 x y)) ∧ w = w' := by
  have h := and8 x y hx hy
  rw [show x &&& y = opb 1 x y from rfl] at h
  go_enter Tryd.func109, Tryd.ntmps109
  go_wp2
  go_ret
  exact ⟨by first | rfl | (rw [h]; rfl), rfl⟩
theorem j2_any (x y : Nat) (hx : x < 256) (hy : y < 256) (w : World) : Calls Tryd.prog 110 #[.int .u8 (x : Int), .int .u8 (y : Int)] w fun e w' => e = .returned (.int .u8 (opb 2 x y)) ∧ w = w' := by
  have h := or8 x y hx hy
  rw [show x ||| y = opb 2 x y from rfl] at h
  go_enter Tryd.func110, Tryd.ntmps110
  go_wp2
  go_ret
  exact ⟨by first | rfl | (rw [h]; rfl), rfl⟩
theorem j3_any (x y : Nat) (hx : x < 256) (hy : y < 256) (w : World) : Calls Tryd.prog 111 #[.int .u8 (x : Int), .int .u8 (y : Int)] w fun e w' => e = .returned (.int .u8 (opb 3 x y)) ∧ w = w' := by
  have h := andnot8 x y hx hy
  rw [show x &&& (255 - y) = opb 3 x y from rfl] at h
  go_enter Tryd.func111, Tryd.ntmps111
  go_wp2
  go_ret
  exact ⟨by first | rfl | (rw [h]; rfl), rfl⟩
theorem joiners_any (w : World) : Calls Tryd.prog 77 #[] w fun e w' => e = .returned (.agg #[.func (Fn.func 109) #[] #[], .func (Fn.func 110) #[] #[], .func (Fn.func 111) #[] #[]]) ∧ w.grownBy w' none := by
  go_enter Tryd.func77, Tryd.ntmps77
  go_wp2_with fail
  simp [bodyPost, results, Tryd.results77, go_sem]
  exact gb_alloc _ _ _
theorem enterJ0 (args : Array Value) (w : World) : (callFunc 107 args).run Tryd.prog w = .ok (.enter 107 args) w := by kernel_rfl
theorem enterJ1 (args : Array Value) (w : World) : (callFunc 108 args).run Tryd.prog w = .ok (.enter 108 args) w := by kernel_rfl
end Go.Proofs.YtbeaohnjifcgaaaDoor.Bh
