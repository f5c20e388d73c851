/-
  Rows of bytes of the call's own: what an append of one leaves, what reads as a list.
-/
import Derived.Test.YtdkfniijoamaoacHz
import Derived.WalkKit
import Derived.OwnWalk
import Derived.Laws.Rows
import Derived.Maps.AppendAt
import Derived.Deep.QuietTactic
namespace Go.Proofs.Ytdkfniijoamaoac.Ob
open Go Go.RowKit Go.Proofs.Ytdkfniijoamaoac.Hz

theorem blw_drewN {B : Nat} {w w1 : World} (h : Below B w w1) (n : Nat) : Below B w (w1.drewN n) := ⟨h.os, h.tape, h.output, h.size, h.block⟩
theorem u8_info : (Try.prog.info? 5).map (fun i => (i.zero, i.size, i.bytes)) = some (some (.int .u8 0), 1, 1) := by kernel_rfl
/-- a list of numbers as cells -/
def cB (zs : List Int) : List Value := zs.map (Value.int .u8)
theorem cB_len (zs : List Int) : (cB zs).length = zs.length := by simp [cB]
theorem cB_snoc (zs : List Int) (z : Int) : cB (zs ++ [z]) = cB zs ++ [.int .u8 z] := by simp [cB]
/-- a row of numbers of the call's own -/
def OB (w : World) (base : Nat) (v : Value) (zs : List Int) : Prop := w.ownsRow base 5 1 v zs.length (cB zs)
theorem OB.nil_ (w : World) (base : Nat) : OB w base (.slice none 0 0) [] := ⟨rfl, .inl ⟨rfl, rfl⟩⟩
theorem OB.drewN_ {w : World} {base : Nat} {v : Value} {zs : List Int} (h : OB w base v zs) (n : Nat) : OB (w.drewN n) base v zs := h
theorem OB.alloc_ {w : World} {base : Nat} {v : Value} {zs : List Int} (h : OB w base v zs) (o : Obj) : OB (w.alloc o) base v zs := World.ownsRow.alloc h o
theorem OB.below_ {w w' : World} {base : Nat} {v : Value} {zs : List Int} (h : OB w base v zs) (hb : Below w.heap.size w w') : OB w' base v zs :=
  World.ownsRow.kept (row := none) h ⟨hb.os, hb.tape, hb.output, hb.size, fun i hi _ => hb.block i hi⟩ (by
    cases e : v.ownBlock
    · exact .inl rfl
    · exact .inr (by simp))
theorem OB.grow_ {w w1 w2 : World} {base : Nat} {v : Value} {zs : List Int} (h : OB w1 base v zs) (hb : Below base w w1) (hg : w1.grownBy w2 v.ownBlock) (hs : base ≤ w1.heap.size) : Below base w w2 :=
  hb.grown hg hs (fun k e => (World.ownsRow.lt (n := zs.length) h k e).1)
theorem OB.slice_ {w : World} {base : Nat} {v : Value} {zs : List Int} (h : OB w base v zs) : ∃ a cap, v = .slice a zs.length cap := by
  obtain ⟨_, ⟨rfl, h2⟩ | ⟨g, cap, cur, rfl, _⟩⟩ := h
  · exact ⟨none, 0, by rw [h2]⟩
  · exact ⟨_, cap, rfl⟩
end Go.Proofs.Ytdkfniijoamaoac.Ob
