/-
  What does not speak of two given blocks; small words on grown worlds: nothing of the program's own.
-/
import Derived.Test.YtpmmilnoeoapoaaGreatDoorRows
import Derived.WalkKit
import Derived.Below
import Derived.ProofKit
import Derived.Lib.Hide
import Derived.RangeFuncFrom
import Derived.Deep.Upon
import Derived.Deep.Draws
import Derived.Laws.Rows
namespace Go.Proofs.YtpmmilnoeoapoaaGreatDoor.Sx
open Go Go.RowKit

/-- T speaks neither of block n nor of block n + 1 -/
def Sta (n : Nat) (T : World → Prop) : Prop := ∀ A B : World, T A → B.heap.size = A.heap.size → (∀ k, k ≠ n → k ≠ n + 1 → B.heap[k]? = A.heap[k]?) → T B
theorem Sta.and {n : Nat} {T U : World → Prop} (h : Sta n T) (k : Sta n U) : Sta n fun w => T w ∧ U w := fun A B ht hs hb => ⟨h A B ht.1 hs hb, k A B ht.2 hs hb⟩
theorem sta_true (n : Nat) : Sta n fun _ => True := fun _ _ _ _ _ => trivial
theorem sta_block {n c : Nat} {o : Obj} (h : c < n) : Sta n fun w => w.heap[c]? = some o := fun A B ht _ hb => (hb c (by omega) (by omega)).trans ht
theorem sta_above {n c : Nat} {o : Obj} (h : n + 1 < c) : Sta n fun w => w.heap[c]? = some o := fun A B ht _ hb => (hb c (by omega) (by omega)).trans ht

theorem gb_refl (w : World) (r : Option Nat) : w.grownBy w r := ⟨rfl, rfl, rfl, Nat.le_refl _, fun _ _ _ => rfl⟩
theorem gb_trans {a b w : World} {r : Option Nat} (h : a.grownBy b r) (k : b.grownBy w r) : a.grownBy w r := ⟨k.os.trans h.os, k.tape.trans h.tape, k.output.trans h.output, Nat.le_trans h.size k.size, fun i hi hne => (k.block i (Nat.lt_of_lt_of_le hi h.size) hne).trans (h.block i hi hne)⟩
theorem gb_none {a b : World} (h : a.grownBy b none) (r : Option Nat) : a.grownBy b r := ⟨h.os, h.tape, h.output, h.size, fun i hi _ => h.block i hi (by simp)⟩
theorem gb_below {a b : World} (h : Below a.heap.size a b) (r : Option Nat) : a.grownBy b r := ⟨h.os, h.tape, h.output, h.size, fun i hi _ => h.block i hi⟩
theorem below_gb {a b : World} (h : a.grownBy b none) : Below a.heap.size a b := ⟨h.os, h.tape, h.output, h.size, fun i hi => h.block i hi (by simp)⟩
theorem gb_set (w : World) (c i : Nat) (v : Value) : w.grownBy (w.setCell ⟨c, i, none⟩ v) (some c) :=
  ⟨World.os_setCells w c i [v], rfl, World.output_setCells w c i [v], by simp, fun k hk hne => World.heap_setCells_other w c i [v] hk (fun e => hne (by rw [e]))⟩
theorem gb_drew (w : World) (n : Nat) (r : Option Nat) : w.grownBy (w.drewN n) r := ⟨rfl, rfl, rfl, Nat.le_refl _, fun _ _ _ => rfl⟩
theorem gb_drew1 (w : World) (r : Option Nat) : w.grownBy w.drew r := gb_drew w 1 r
theorem gb_alloc (w : World) (o : Obj) (r : Option Nat) : w.grownBy (w.alloc o) r := World.grownBy_alloc w o r
/-- a new block that is written is no block that was -/
theorem gb_new {w w1 : World} {r : Option Nat} (g : w.grownBy w1 r) (b i : Nat) (v : Value) (hb : w.heap.size ≤ b) : w.grownBy (w1.setCell ⟨b, i, none⟩ v) r :=
  ⟨(World.os_setCells w1 b i [v]).trans g.os, g.tape, (World.output_setCells w1 b i [v]).trans g.output, by simp; exact g.size,
   fun k hk hne => (World.heap_setCells_other w1 b i [v] (Nat.lt_of_lt_of_le hk g.size) (by omega)).trans (g.block k hk hne)⟩
/-- a block above the mark that is written is no block below -/
theorem gb_mark {w0 w w' : World} {b : Nat} {r : Option Nat} (h : w0.grownBy w r) (g : w.grownBy w' (some b)) (hb : w0.heap.size ≤ b) : w0.grownBy w' r :=
  ⟨g.os.trans h.os, g.tape.trans h.tape, g.output.trans h.output, Nat.le_trans h.size g.size, fun k hk hne => (g.block k (Nat.lt_of_lt_of_le hk h.size) (fun e => by have := Option.some.inj e; omega)).trans (h.block k hk hne)⟩
theorem gb_cell {w w' : World} {r : Option Nat} {b o : Nat} {v : Value} (g : w.grownBy w' r) (h : w.cell? ⟨b, o, none⟩ = some v) (hne : some b ≠ r) : w'.cell? ⟨b, o, none⟩ = some v :=
  (World.cell?_of_block (a := ⟨b, o, none⟩) (g.block b (World.block_lt_of_cell? w _ h) hne)).trans h
theorem gb_frozen {w w' : World} {r : Option Nat} {b o : Nat} {v : Value} (g : w.grownBy w' r) (h : w.cell? ⟨b, o, none⟩ = some v) (hf : w.frozen? ⟨b, o, none⟩ = false) (hne : some b ≠ r) : w'.frozen? ⟨b, o, none⟩ = false :=
  (World.frozen?_of_block (a := ⟨b, o, none⟩) (g.block b (World.block_lt_of_cell? w _ h) hne)).trans hf
theorem gb_block {w w' : World} {r : Option Nat} {b : Nat} {o : Obj} (g : w.grownBy w' r) (h : w.heap[b]? = some o) (hne : some b ≠ r) : w'.heap[b]? = some o :=
  (g.block b (Array.getElem?_eq_some_iff.1 h).1 hne).trans h
theorem cell_at {W : World} {b i : Nat} {vs : Array Value} {t : TypeId} {v : Value} (h : W.heap[b]? = some (.cells vs t (0, 0))) (hi : vs[i]? = some v) : W.cell? ⟨b, i, none⟩ = some v := by
  rw [World.cell?]; simp only [h]; exact hi
theorem frozen_at {W : World} {b : Nat} (i : Nat) {vs : Array Value} {t : TypeId} (h : W.heap[b]? = some (.cells vs t (0, 0))) : W.frozen? ⟨b, i, none⟩ = false := by
  rw [World.frozen?]; simp [h]
end Go.Proofs.YtpmmilnoeoapoaaGreatDoor.Sx
