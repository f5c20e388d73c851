/-
  A row of structs of ints that came in: its cells.
-/
import Derived.Test.YthjhbceepkoifaaRows
import Derived.WalkKit
import Derived.ProofKit
import Derived.ChangeOld
import Derived.SizedLaws
import Derived.ChangeSlices
namespace Go.Proofs.Ythjhbceepkoifaa.Sr
open Go Go.ChangeShapes Go.WideShapes Go.ChangeAt Go.RowKit

/-- len structs of n ints each, cell by cell -/
def Cells (w : World) (a : Option Addr) (len n : Nat) : Prop :=
  len ≤ maxLen ∧ (0 < len → ∃ b off, a = some ⟨b, off, none⟩ ∧ b < w.heap.size ∧ ∀ k, k < len * n → ∃ z, (Lit.int .i64 z).wf = true ∧ w.cell? ⟨b, off + k, none⟩ = some (.int .i64 z))

/-- n fields, all ints, one cell each -/
def okF (P : Program) (fs : Array Field) (n : Nat) : Bool :=
  fs.size == n && (List.range n).all fun i => match fs[i]? with
    | some f => f.offset == i && P.cellsOf f.type == 1 && (match P.underlying f.type with | some (.int .i64) => true | _ => false)
    | none => false
theorem okF_at {P : Program} {fs : Array Field} {n : Nat} (h : okF P fs n = true) : fs.size = n ∧ ∀ j, j < n → ∃ f, fs[j]? = some f ∧ f.offset = j ∧ P.cellsOf f.type = 1 ∧ P.underlying f.type = some (.int .i64) := by
  simp only [okF, Bool.and_eq_true, beq_iff_eq, List.all_eq_true, List.mem_range] at h
  refine ⟨h.1, fun j hj => ?_⟩
  have := h.2 j hj
  split at this
  · rename_i f hf
    simp only [Bool.and_eq_true, beq_iff_eq] at this
    obtain ⟨⟨h1, h2⟩, h3⟩ := this
    refine ⟨f, hf, h1, h2, ?_⟩
    split at h3
    · assumption
    · cases h3
  · cases this

theorem cells_of {P : Program} {H : Type} {enc : TypeId × Value → H} {w : World} {t e : TypeId} {fs : Array Field} {n : Nat} {a : Option Addr} {len cap : Nat} {d : DataW H} {ps : List MemPlace}
    (ht : P.underlying t = some (.slice e)) (he : P.underlying e = some (.struct fs)) (hc : (P.cellsOf e == n && okF P fs n) = true) (hn0 : 0 < n)
    (h : DataW.Trod enc P w 0 (fun _ => true) true t (.slice a len cap) d ps) : Cells w a len n := by
  obtain ⟨fuel, hf⟩ := h
  simp only [Bool.and_eq_true, beq_iff_eq] at hc
  obtain ⟨hs, hfs⟩ := okF_at hc.2
  rcases DataW.trod_slice ht hf with ⟨hcs, hx⟩ | ⟨x, len', cap', elems, rest, m, _, hcs, hx, hb, hl, hm, hlen, hel, _, _⟩
  · simp [Value.cells] at hcs
    obtain ⟨rfl, rfl, rfl⟩ := hcs
    exact ⟨by decide, fun h => absurd h (by decide)⟩
  · simp [Value.cells] at hcs
    obtain ⟨rfl, rfl, rfl⟩ := hcs
    have each : ∀ k, k < len * n → ∃ z, (Lit.int .i64 z).wf = true ∧ w.cell? (x.add k) = some (.int .i64 z) := by
      intro k hk
      have hn : 0 < n := by
        rcases Nat.eq_zero_or_pos n with h0 | h0
        · rw [h0] at hk; simp at hk
        · exact h0
      have hi : k / n < len := Nat.div_lt_of_lt_mul (by rw [Nat.mul_comm]; exact hk)
      have hj : k % n < n := Nat.mod_lt _ hn
      have hq := hel (k / n) hi
      have hy : ∃ y, elems[k / n]? = some y := ⟨_, List.getElem?_eq_getElem (by omega)⟩
      obtain ⟨y, hy⟩ := hy
      rw [hy, hc.1, Option.bind_eq_some_iff] at hq
      obtain ⟨cs', hcs, hy'⟩ := hq
      obtain ⟨xs, m', _, _, hl', hxl, hxf⟩ := DataW.trod_struct he hy'
      obtain ⟨f, f1, f2, f3, f4⟩ := hfs _ hj
      have hxj : ∃ v, xs[k % n]? = some v := ⟨_, List.getElem?_eq_getElem (by omega)⟩
      obtain ⟨v, hv⟩ := hxj
      have hfj := hxf _ f f1
      rw [hv, f2, f3] at hfj
      obtain ⟨z, hz, _, hw⟩ := DataW.trod_int f4 hfj
      have hcz : cs'[k % n]? = some (.int .i64 z) := by
        have e1 : ((cs'.drop (k % n)).take 1)[0]? = some (.int .i64 z) := by rw [hz]; rfl
        rw [List.getElem?_take_of_lt (by omega), List.getElem?_drop, Nat.add_zero] at e1
        exact e1
      have hcell := (World.cells?_some hcs).2.2 (k % n) hj
      refine ⟨z, hw, ?_⟩
      rw [hcz] at hcell
      have hsp : (x.add (k / n * n)).add (k % n) = x.add k := by
        rw [Addr.add_add, show k / n * n + k % n = k by rw [Nat.mul_comm]; exact Nat.div_add_mod k n]
      rw [← hsp]; exact hcell
    refine ⟨by omega, fun h0 => ?_⟩
    obtain ⟨b, off, spot⟩ := x
    obtain ⟨z, _, hc0⟩ := each 0 (Nat.mul_pos h0 hn0)
    have hspot : spot = none := by simpa [Addr.add] using World.cell?_spot hc0
    subst hspot
    refine ⟨b, off, rfl, World.block_lt_of_cell? w _ hc0, fun k hk => ?_⟩
    obtain ⟨z, h1, h2⟩ := each k hk
    rw [Addr.add_lit] at h2
    exact ⟨z, h1, h2⟩
theorem Cells.below {w w' : World} {a : Option Addr} {len n : Nat} {B : Nat} (h : Cells w a len n) (hB : B = w.heap.size) (hb : Below B w w') : Cells w' a len n := by
  subst hB
  refine ⟨h.1, fun h0 => ?_⟩
  obtain ⟨b, off, e, hlt, hc⟩ := h.2 h0
  refine ⟨b, off, e, Nat.lt_of_lt_of_le hlt hb.size, fun k hk => ?_⟩
  obtain ⟨z, h1, h2⟩ := hc k hk
  exact ⟨z, h1, (hb.cell (p := ⟨b, off + k, none⟩) hlt).trans h2⟩
end Go.Proofs.Ythjhbceepkoifaa.Sr
