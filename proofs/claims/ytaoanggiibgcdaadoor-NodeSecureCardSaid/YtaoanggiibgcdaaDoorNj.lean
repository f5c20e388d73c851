/-
  node: the specification's bits.
-/
import Derived.Test.YtaoanggiibgcdaaDoorNf
import Derived.Test.YtaoanggiibgcdaaDoorNh
import Derived.Maps.AppendAt
import Derived.OwnWalk
namespace Go.Proofs.YtaoanggiibgcdaaDoor.Nj
open Go Go.RowKit Go.Proofs.YtaoanggiibgcdaaDoor.Hz Go.Proofs.YtaoanggiibgcdaaDoor.Na Go.Proofs.YtaoanggiibgcdaaDoor.Nb Go.Proofs.YtaoanggiibgcdaaDoor.Nf
open Go.Proofs.YtaoanggiibgcdaaDoor.Ng (and8)

theorem Valid_any (s : ByteArray) (w : World) : Calls Tryd.prog 10 #[.string s] w fun e w' => e = .returned (.bool (vd s)) ∧ w = w' := by
  cases h : vd s
  · exact Valid_no s w (vd_no h)
  · exact Valid_yes s w (vd_yes h)

theorem shr_bit (x t : Nat) (hx : x < 256) (ht : t < 8) : ((bits .and .u8 ((x : Int) / 2 ^ t) 1) == 1) = x.testBit t := by
  have hlt : x / 2 ^ t < 256 := Nat.lt_of_le_of_lt (Nat.div_le_self _ _) hx
  have e : (x : Int) / 2 ^ t = ((x / 2 ^ t : Nat) : Int) := by rw [Int.natCast_ediv, Int.natCast_pow]; rfl
  rw [e, show (1 : Int) = ((1 : Nat) : Int) from rfl, and8 _ _ hlt (by omega), Nat.and_one_is_mod]
  have h2 : x.testBit t = decide (x / 2 ^ t % 2 = 1) := by
    rw [Nat.testBit_eq_decide_div_mod_eq]
  rw [h2, Bool.eq_iff_iff]
  simp
  omega

theorem b_info : (Tryd.prog.info? 4).map (fun i => (i.zero, i.size, i.bytes)) = some (some (.bool false), 1, 1) := by kernel_rfl
/-- truths as cells -/
def bC (l : List Bool) : List Value := l.map Value.bool
theorem bC_len (l : List Bool) : (bC l).length = l.length := by simp [bC]
theorem bC_snoc (l : List Bool) (x : Bool) : bC (l ++ [x]) = bC l ++ [.bool x] := by simp [bC]
/-- a row of truths of the call's own -/
def OT (w : World) (base : Nat) (v : Value) (l : List Bool) : Prop := w.ownsRow base 4 1 v l.length (bC l)
theorem OT.nil_ (w : World) (base : Nat) : OT w base (.slice none 0 0) [] := ⟨rfl, .inl ⟨rfl, rfl⟩⟩
theorem OT.alloc_ {w : World} {base : Nat} {v : Value} {l : List Bool} (h : OT w base v l) (o : Obj) : OT (w.alloc o) base v l := World.ownsRow.alloc h o
theorem OT.grow_ {w w1 w2 : World} {base : Nat} {v : Value} {l : List Bool} (h : OT w1 base v l) (hb : Below base w w1) (hg : w1.grownBy w2 v.ownBlock) (hs : base ≤ w1.heap.size) : Below base w w2 :=
  hb.grown hg hs (fun k e => (World.ownsRow.lt (n := l.length) h k e).1)
def bits (s : ByteArray) (k : Nat) : List Bool := (List.range k).map (bt s)
theorem bits_len (s : ByteArray) (k : Nat) : (bits s k).length = k := by simp [bits]
theorem bits_succ (s : ByteArray) (k : Nat) : bits s (k + 1) = bits s k ++ [bt s k] := by simp [bits, List.range_succ]

end Go.Proofs.YtaoanggiibgcdaaDoor.Nj
