/-
  A hasher in memory: a block of five cells; what writes to it, and what stays.
-/
import Derived.Test.YtpmmilnoeoapoaaGreatDoorRows
import Derived.Test.YtpmmilnoeoapoaaGreatDoorHa
import Derived.WalkKit
import Derived.OneCell
import Derived.ChangeKeysEq
import Derived.Laws.BytesArg
import Derived.Deep.QuietTactic
import Derived.BigQuiet
set_option linter.unusedVariables false
namespace Go.Proofs.YtpmmilnoeoapoaaGreatDoor.Hh
open Go Go.RowKit

/-- block b is a hasher with these numbers -/
def Hs (w : World) (b : Nat) (h0 h1 h2 h3 n : Int) : Prop :=
  ∃ t, w.heap[b]? = some (.cells #[.int .u64 h0, .int .u64 h1, .int .u64 h2, .int .u64 h3, .int .i64 n] t (0, 0))

theorem Hs.free {w : World} {b : Nat} {h0 h1 h2 h3 n : Int} (H : Hs w b h0 h1 h2 h3 n) (i : Nat) : w.frozen? ⟨b, i, none⟩ = false := by
  obtain ⟨t, H⟩ := H; simp [World.frozen?, H]
theorem Hs.c0 {w : World} {b : Nat} {h0 h1 h2 h3 n : Int} (H : Hs w b h0 h1 h2 h3 n) : w.cell? ⟨b, 0, none⟩ = some (.int .u64 h0) := by
  obtain ⟨t, H⟩ := H; simp [World.cell?, H]
theorem Hs.c1 {w : World} {b : Nat} {h0 h1 h2 h3 n : Int} (H : Hs w b h0 h1 h2 h3 n) : w.cell? ⟨b, 1, none⟩ = some (.int .u64 h1) := by
  obtain ⟨t, H⟩ := H; simp [World.cell?, H]
theorem Hs.c2 {w : World} {b : Nat} {h0 h1 h2 h3 n : Int} (H : Hs w b h0 h1 h2 h3 n) : w.cell? ⟨b, 2, none⟩ = some (.int .u64 h2) := by
  obtain ⟨t, H⟩ := H; simp [World.cell?, H]
theorem Hs.c3 {w : World} {b : Nat} {h0 h1 h2 h3 n : Int} (H : Hs w b h0 h1 h2 h3 n) : w.cell? ⟨b, 3, none⟩ = some (.int .u64 h3) := by
  obtain ⟨t, H⟩ := H; simp [World.cell?, H]
theorem Hs.c4 {w : World} {b : Nat} {h0 h1 h2 h3 n : Int} (H : Hs w b h0 h1 h2 h3 n) : w.cell? ⟨b, 4, none⟩ = some (.int .i64 n) := by
  obtain ⟨t, H⟩ := H; simp [World.cell?, H]
theorem Hs.lt {w : World} {b : Nat} {h0 h1 h2 h3 n : Int} (H : Hs w b h0 h1 h2 h3 n) : b < w.heap.size := by
  obtain ⟨t, H⟩ := H; exact lt_of_block H

theorem heap_setCell_same {w : World} {b i : Nat} {v : Value} {c : Array Value} {t : TypeId} {f : Nat × Nat} (h : w.heap[b]? = some (.cells c t f)) : (w.setCell ⟨b, i, none⟩ v).heap[b]? = some (.cells (c.setIfInBounds i v) t f) := by
  have hlt := lt_of_block h
  have h' : w.heap[b] = .cells c t f := by simpa [Array.getElem?_eq_getElem hlt] using h
  show (w.heap.modify b _)[b]? = _
  rw [Array.getElem?_eq_getElem (by simpa using hlt), Array.getElem_modify_self, h']
  rfl

theorem Hs.set4 {w : World} {b : Nat} {h0 h1 h2 h3 n : Int} (H : Hs w b h0 h1 h2 h3 n) (x0 x1 x2 x3 : Int) :
    Hs ((((w.setCell ⟨b, 0, none⟩ (.int .u64 x0)).setCell ⟨b, 1, none⟩ (.int .u64 x1)).setCell ⟨b, 2, none⟩ (.int .u64 x2)).setCell ⟨b, 3, none⟩ (.int .u64 x3)) b x0 x1 x2 x3 n := by
  obtain ⟨t, H⟩ := H
  exact ⟨t, heap_setCell_same (heap_setCell_same (heap_setCell_same (heap_setCell_same H)))⟩
theorem Hs.setN {w : World} {b : Nat} {h0 h1 h2 h3 n : Int} (H : Hs w b h0 h1 h2 h3 n) (m : Int) :
    Hs (w.setCell ⟨b, 4, none⟩ (.int .i64 m)) b h0 h1 h2 h3 m := by
  obtain ⟨t, H⟩ := H
  exact ⟨t, heap_setCell_same H⟩
theorem Hs.drewN {w : World} {b : Nat} {h0 h1 h2 h3 n : Int} (H : Hs w b h0 h1 h2 h3 n) (k : Nat) : Hs (w.drewN k) b h0 h1 h2 h3 n := H

/-- what is kept while block b is written and new blocks come -/
def Only (b : Nat) (w w' : World) : Prop := w.grownBy w' (some b)

theorem Only.refl (b : Nat) (w : World) : Only b w w := ⟨rfl, rfl, rfl, Nat.le_refl _, fun _ _ _ => rfl⟩
theorem Only.trans {b : Nat} {w w1 w2 : World} (h : Only b w w1) (k : Only b w1 w2) : Only b w w2 :=
  ⟨k.os.trans h.os, k.tape.trans h.tape, k.output.trans h.output, Nat.le_trans h.size k.size, fun i hi hn => (k.block i (Nat.lt_of_lt_of_le hi h.size) hn).trans (h.block i hi hn)⟩
theorem Only.set {b : Nat} {w w1 : World} (h : Only b w w1) (i : Nat) (v : Value) : Only b w (w1.setCell ⟨b, i, none⟩ v) :=
  h.trans ⟨rfl, rfl, rfl, by simp [World.setCell], fun k _ hn => Below.heap_setCell w1 _ _ k (fun e => hn (by rw [e]))⟩
theorem Only.drewN {b : Nat} {w w1 : World} (h : Only b w w1) (k : Nat) : Only b w (w1.drewN k) := h.trans ⟨rfl, rfl, rfl, Nat.le_refl _, fun _ _ _ => rfl⟩
theorem Only.below {b B : Nat} {w w' : World} (h : Only b w w') (hB : B ≤ w.heap.size) (hb : B ≤ b) : Below B w w' :=
  (Below.refl B w).grown h hB (fun k hk => by cases hk; exact hb)
theorem Only.of_below {b : Nat} {w w' : World} (h : Below w.heap.size w w') : Only b w w' :=
  ⟨h.os, h.tape, h.output, h.size, fun k hk _ => h.block k hk⟩
theorem Hs.below {w w' : World} {b B : Nat} {h0 h1 h2 h3 n : Int} (H : Hs w b h0 h1 h2 h3 n) (hb : Below B w w') (hB : b < B) : Hs w' b h0 h1 h2 h3 n := by
  obtain ⟨t, H⟩ := H
  exact ⟨t, by rw [hb.block b hB]; exact H⟩
theorem Hs.only {w w' : World} {b c : Nat} {h0 h1 h2 h3 n : Int} (H : Hs w b h0 h1 h2 h3 n) (ho : Only c w w') (hc : b ≠ c) : Hs w' b h0 h1 h2 h3 n := by
  have hl := H.lt
  obtain ⟨t, H⟩ := H
  exact ⟨t, by rw [ho.block b hl (by simpa using hc)]; exact H⟩

theorem part_u64 (xs : Array Value) (off : Nat) (v : Value) (hx : xs[off]? = some v) (w : World) : (part 104 xs off).run Tryz.prog w = .ok v w :=
  run_part_plain (w := w) (by kernel_rfl) hx
/-- the four numbers against zeros -/
theorem arr_eq (h0 h1 h2 h3 : Int) (w : World) : (Op.equalIn 9999 144 (.agg #[.int .u64 h0, .int .u64 h1, .int .u64 h2, .int .u64 h3]) (.agg #[.int .u64 0, .int .u64 0, .int .u64 0, .int .u64 0])).run Tryz.prog w = .ok (h0 == 0 && (h1 == 0 && (h2 == 0 && h3 == 0))) w := by
  obtain ⟨i, hi⟩ : ∃ i, Tryz.prog.info? 104 = some i := by
    have h : (Tryz.prog.info? 104).isSome = true := by kernel_rfl
    exact Option.isSome_iff_exists.1 h
  have hc : Tryz.prog.cellsOf 104 = 1 := by kernel_rfl
  rw [run_equalIn_array (P := Tryz.prog) (w := w) 9998 _ _ Tryz.underlying144 hi, hc]
  have hr : List.range 4 = [0, 1, 2, 3] := rfl
  rw [hr]
  have e0 : ∀ (a : Int), (Op.equalIn 9998 104 (.int .u64 a) (.int .u64 0)).run Tryz.prog w = .ok (a == 0) w := fun a => run_equalIn_int w 9997 104 .u64 .u64 a 0 Tryz.underlying104
  simp only [Op.eqItems, Sem.run_bind, Nat.mul_one]
  rw [part_u64 _ 0 (.int .u64 h0) rfl, Result.andThen_ok, part_u64 _ 0 (.int .u64 0) rfl, Result.andThen_ok, e0, Result.andThen_ok]
  cases h : h0 == 0
  · simp
  simp only [Bool.not_true, Bool.false_eq_true, if_false, Sem.run_bind]
  rw [part_u64 _ 1 (.int .u64 h1) rfl, Result.andThen_ok, part_u64 _ 1 (.int .u64 0) rfl, Result.andThen_ok, e0, Result.andThen_ok]
  cases h1' : h1 == 0
  · simp
  simp only [Bool.not_true, Bool.false_eq_true, if_false, Sem.run_bind]
  rw [part_u64 _ 2 (.int .u64 h2) rfl, Result.andThen_ok, part_u64 _ 2 (.int .u64 0) rfl, Result.andThen_ok, e0, Result.andThen_ok]
  cases h2' : h2 == 0
  · simp
  simp only [Bool.not_true, Bool.false_eq_true, if_false, Sem.run_bind]
  rw [part_u64 _ 3 (.int .u64 h3) rfl, Result.andThen_ok, part_u64 _ 3 (.int .u64 0) rfl, Result.andThen_ok, e0, Result.andThen_ok]
  cases h3' : h3 == 0
  · simp
  simp

/-- 32 bytes of a new block as a text -/
theorem conv_new (W : World) (c : Array Value) (xs : List Int) (b l : Nat) (t : TypeId) (hb : b = W.heap.size) (hc : c = (xs.map (Value.int .u8)).toArray) (hl : xs.length = l) :
    (convert 66 9 (.slice (some ⟨b, 0, none⟩) l l)).run Tryz.prog (W.alloc (.cells c t)) = .ok (.string (strOfNums xs)) (W.alloc (.cells c t)) := by
  refine run_convert_bytes_arg (P := Tryz.prog) _ 66 5 Tryz.underlying66 Tryz.underlying5 b 0 l l xs hl (fun i hi => ?_) 9 Tryz.underlying9
  subst hb hc
  rw [World.cell?_alloc_at _ _ _ _ rfl, Nat.zero_add]
  subst hl
  simp [hi, List.getD]

/-- block b is a hasher to which the bytes l were added -/
def HL (w : World) (b : Nat) (l : List UInt8) : Prop := Hs w b (Dg.run l Dg.st0) (Dg.run l Dg.st1) (Dg.run l Dg.st2) (Dg.run l Dg.st3) (l.length : Int)

end Go.Proofs.YtpmmilnoeoapoaaGreatDoor.Hh
