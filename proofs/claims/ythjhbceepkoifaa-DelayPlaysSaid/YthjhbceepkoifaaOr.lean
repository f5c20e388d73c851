/-
  Rows of integers of the call's own: what an append of one leaves, what reads as a list.
-/
import Derived.Test.YthjhbceepkoifaaHz
import Derived.Test.YthjhbceepkoifaaRw
import Derived.WalkKit
import Derived.OwnWalk
import Derived.Laws.Rows
import Derived.Maps.AppendAt
import Derived.Deep.QuietTactic
namespace Go.Proofs.Ythjhbceepkoifaa.Or
open Go Go.RowKit Go.Proofs.Ythjhbceepkoifaa.Hz Go.Proofs.Ythjhbceepkoifaa.Rw

theorem blw_drewN {B : Nat} {w w1 : World} (h : Below B w w1) (n : Nat) : Below B w (w1.drewN n) := ⟨h.os, h.tape, h.output, h.size, h.block⟩
theorem int_info : (Try.prog.info? 3).map (fun i => (i.zero, i.size, i.bytes)) = some (some (.int .i64 0), 1, 8) := by kernel_rfl
/-- a list of numbers as cells -/
def cI (zs : List Int) : List Value := zs.map (Value.int .i64)
theorem cI_len (zs : List Int) : (cI zs).length = zs.length := by simp [cI]
theorem cI_snoc (zs : List Int) (z : Int) : cI (zs ++ [z]) = cI zs ++ [.int .i64 z] := by simp [cI]
/-- a row of numbers of the call's own -/
def OR (w : World) (base : Nat) (v : Value) (zs : List Int) : Prop := w.ownsRow base 3 1 v zs.length (cI zs)
theorem OR.nil_ (w : World) (base : Nat) : OR w base (.slice none 0 0) [] := ⟨rfl, .inl ⟨rfl, rfl⟩⟩
theorem OR.drewN_ {w : World} {base : Nat} {v : Value} {zs : List Int} (h : OR w base v zs) (n : Nat) : OR (w.drewN n) base v zs := h
theorem OR.alloc_ {w : World} {base : Nat} {v : Value} {zs : List Int} (h : OR w base v zs) (o : Obj) : OR (w.alloc o) base v zs := World.ownsRow.alloc h o
theorem OR.below_ {w w' : World} {base : Nat} {v : Value} {zs : List Int} (h : OR w base v zs) (hb : Below w.heap.size w w') : OR w' base v zs :=
  World.ownsRow.kept (row := none) h ⟨hb.os, hb.tape, hb.output, hb.size, fun i hi _ => hb.block i hi⟩ (by
    cases e : v.ownBlock
    · exact .inl rfl
    · exact .inr (by simp))
theorem OR.grow_ {w w1 w2 : World} {base : Nat} {v : Value} {zs : List Int} (h : OR w1 base v zs) (hb : Below base w w1) (hg : w1.grownBy w2 v.ownBlock) (hs : base ≤ w1.heap.size) : Below base w w2 :=
  hb.grown hg hs (fun k e => (World.ownsRow.lt (n := zs.length) h k e).1)
/-- what it reads as -/
theorem OR.row_ {w : World} {base : Nat} {v : Value} {zs : List Int} (h : OR w base v zs) (hw : ∀ z ∈ zs, (Lit.int .i64 z).wf = true) : ∃ a cap, v = .slice a zs.length cap ∧ IntRow .i64 w a zs.length cap zs := by
  obtain ⟨h1, ⟨rfl, h2⟩ | ⟨g, cap, cur, rfl, hb, hh, hn, hc, hz, ht⟩⟩ := h
  · rw [h2]
    exact ⟨none, 0, rfl, by rw [h2], by unfold maxLen; omega, hw, fun h => absurd h (by omega)⟩
  · refine ⟨_, cap, rfl, rfl, by omega, hw, fun h0 => ⟨g, 0, rfl, (Array.getElem?_eq_some_iff.1 hh).1, fun i hi => ?_⟩⟩
    rw [Nat.zero_add, cell_of_row _ _ _ _ _ _ hh]
    have e : cur.toList[i]? = (cI zs)[i]? := by rw [← ht, List.getElem?_take_of_lt (by omega)]
    rw [← Array.getElem?_toList, e]
    simp [cI, List.getD, hi]
theorem OR.slice_ {w : World} {base : Nat} {v : Value} {zs : List Int} (h : OR w base v zs) : ∃ a cap, v = .slice a zs.length cap := by
  obtain ⟨_, ⟨rfl, h2⟩ | ⟨g, cap, cur, rfl, _⟩⟩ := h
  · exact ⟨none, 0, by rw [h2]⟩
  · exact ⟨_, cap, rfl⟩
theorem row_below {k : IntKind} {w w' : World} {a : Option Addr} {len cap : Nat} {zs : List Int} (h : IntRow k w a len cap zs) (hb : Below w.heap.size w w') : IntRow k w' a len cap zs := by
  obtain ⟨h1, h2, h3, h4⟩ := h
  refine ⟨h1, h2, h3, fun h0 => ?_⟩
  obtain ⟨b, off, e, hbl, hcell⟩ := h4 h0
  exact ⟨b, off, e, Nat.lt_of_lt_of_le hbl hb.size, fun i hi => by rw [hb.cell (p := ⟨b, off + i, none⟩) hbl]; exact hcell i hi⟩
end Go.Proofs.Ythjhbceepkoifaa.Or
