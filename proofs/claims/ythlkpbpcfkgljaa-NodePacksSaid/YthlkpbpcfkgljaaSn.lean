/-
  A row of structs of ints and texts that came in, structs within structs too: its cells.
-/
import Derived.Test.YthlkpbpcfkgljaaRows
import Derived.WalkKit
import Derived.ProofKit
import Derived.ChangeOld
import Derived.SizedLaws
import Derived.ChangeSlices
namespace Go.Proofs.Ythlkpbpcfkgljaa.Sn
open Go Go.ChangeShapes Go.WideShapes Go.ChangeAt Go.RowKit

/-- the leaves of fields, one cell each: ints (true) and texts (false) -/
def leafsF (P : Program) (g : TypeId → Option (List Bool)) : List Field → Nat → Option (List Bool)
  | [], _ => some []
  | f :: r, off => match g f.type with
    | some ks => if f.offset == off && P.cellsOf f.type == ks.length then (leafsF P g r (off + ks.length)).map (ks ++ ·) else none
    | none => none
def leafs (P : Program) : Nat → TypeId → Option (List Bool)
  | 0, _ => none
  | n + 1, t => match P.underlying t with
    | some (.int .i64) => some [true]
    | some .string => some [false]
    | some (.struct fs) => match leafsF P (leafs P n) fs.toList 0 with
      | some ks => if P.cellsOf t == ks.length then some ks else none
      | none => none
    | _ => none
/-- a leaf -/
def okV : Bool → Value → Prop
  | true, v => ∃ z, (Lit.int .i64 z).wf = true ∧ v = .int .i64 z
  | false, v => ∃ s : ByteArray, s.size ≤ maxLen ∧ v = .string s

theorem leafsF_ok {P : Program} {g : TypeId → Option (List Bool)} {cs : List Value} : ∀ (fs : List Field) (off : Nat) (ks : List Bool), leafsF P g fs off = some ks →
    (∀ f ∈ fs, ∀ ks', g f.type = some ks' → ∀ (j : Nat) (k : Bool), ks'[j]? = some k → ∃ v, ((cs.drop f.offset).take (P.cellsOf f.type))[j]? = some v ∧ okV k v) → ∀ (j : Nat) (k : Bool), ks[j]? = some k → ∃ v, cs[off + j]? = some v ∧ okV k v
  | [], _, ks, h, _, j, k, hj => by simp [leafsF] at h; subst h; simp at hj
  | f :: r, off, ks, h, hf, j, k, hj => by
    unfold leafsF at h
    cases hg : g f.type with
    | none => rw [hg] at h; cases h
    | some k1 =>
      rw [hg] at h
      simp only at h
      by_cases hc : (f.offset == off && P.cellsOf f.type == k1.length) = true
      · rw [if_pos hc] at h
        simp only [Bool.and_eq_true, beq_iff_eq] at hc
        cases hr : leafsF P g r (off + k1.length) with
        | none => rw [hr] at h; cases h
        | some k2 =>
          rw [hr] at h
          simp at h
          subst h
          by_cases hlt : j < k1.length
          · rw [List.getElem?_append_left hlt] at hj
            obtain ⟨v, h1, h2⟩ := hf f (by simp) k1 hg j k hj
            rw [hc.1, hc.2, List.getElem?_take_of_lt hlt, List.getElem?_drop] at h1
            exact ⟨v, h1, h2⟩
          · rw [List.getElem?_append_right (by omega)] at hj
            obtain ⟨v, h1, h2⟩ := leafsF_ok r (off + k1.length) k2 hr (fun f' hf' => hf f' (by simp [hf'])) (j - k1.length) k hj
            exact ⟨v, by rw [← h1]; congr 1; omega, h2⟩
      · rw [if_neg hc] at h; cases h
theorem leafs_ok {P : Program} {H : Type} {enc : TypeId × Value → H} {w : World} {base : Nat} {spare : Nat → Bool} {held : Bool} : ∀ (n : Nat) (t : TypeId) (ks : List Bool), leafs P n t = some ks → ∀ (fuel : Nat) (cs : List Value) (x : DataW H × List MemPlace),
    DataW.trod enc P w base spare held fuel t cs = some x → ∀ (j : Nat) (k : Bool), ks[j]? = some k → ∃ v, cs[j]? = some v ∧ okV k v
  | 0, _, _, h, _, _, _, _, _, _, _ => by cases h
  | n + 1, t, ks, h, fuel, cs, x, hx, j, k, hj => by
    unfold leafs at h
    split at h
    · rename_i ht
      cases h
      obtain ⟨z, rfl, _, hw⟩ := DataW.trod_int ht hx
      cases j with
      | zero => simp at hj; subst hj; exact ⟨_, rfl, z, hw, rfl⟩
      | succ j => simp at hj
    · rename_i ht
      cases h
      obtain ⟨s, rfl, _, hw⟩ := DataW.trod_string ht hx
      cases j with
      | zero => simp at hj; subst hj; exact ⟨_, rfl, s, hw, rfl⟩
      | succ j => simp at hj
    · rename_i fs ht
      split at h
      · rename_i k2 hk2
        split at h
        · cases h
          obtain ⟨xs, m, _, _, _, hxl, hxf⟩ := DataW.trod_struct ht hx
          have := leafsF_ok (cs := cs) fs.toList 0 ks hk2 (fun f hf ks' hg j k hj => by
            obtain ⟨i, hi⟩ := List.getElem?_of_mem hf
            rw [Array.getElem?_toList] at hi
            have hxi := hxf i f hi
            have hil : i < xs.length := by rw [hxl]; exact (Array.getElem?_eq_some_iff.1 hi).1
            rw [List.getElem?_eq_getElem hil] at hxi
            exact leafs_ok n f.type ks' hg m _ _ hxi j k hj) j k hj
          rw [Nat.zero_add] at this
          exact this
        · cases h
      · cases h
    · cases h

/-- len structs, cell by cell -/
def CellsG (w : World) (a : Option Addr) (len : Nat) (ks : List Bool) : Prop :=
  len ≤ maxLen ∧ (0 < len → ∃ b off, a = some ⟨b, off, none⟩ ∧ b < w.heap.size ∧ ∀ i, i < len → ∀ (j : Nat) (k : Bool), ks[j]? = some k → ∃ v, w.cell? ⟨b, off + (i * ks.length + j), none⟩ = some v ∧ okV k v)
theorem cells_of {P : Program} {H : Type} {enc : TypeId × Value → H} {w : World} {t e : TypeId} {a : Option Addr} {len cap : Nat} {d : DataW H} {ps : List MemPlace} (n : Nat) (ks : List Bool)
    (ht : P.underlying t = some (.slice e)) (he : leafs P n e = some ks) (hc : P.cellsOf e = ks.length) (hk0 : 0 < ks.length)
    (h : DataW.Trod enc P w 0 (fun _ => true) true t (.slice a len cap) d ps) : CellsG w a len ks := by
  obtain ⟨fuel, hf⟩ := h
  rcases DataW.trod_slice ht hf with ⟨hcs, hx⟩ | ⟨x, len', cap', elems, rest, m, _, hcs, hx, hb, hl, hm, hlen, hel, _, _⟩
  · simp [Value.cells] at hcs
    obtain ⟨rfl, rfl, rfl⟩ := hcs
    exact ⟨by decide, fun h => absurd h (by decide)⟩
  · simp [Value.cells] at hcs
    obtain ⟨rfl, rfl, rfl⟩ := hcs
    have each : ∀ i, i < len → ∀ (j : Nat) (k : Bool), ks[j]? = some k → ∃ v, w.cell? (x.add (i * ks.length + j)) = some v ∧ okV k v := by
      intro i hi j k hj
      have hq := hel i hi
      have hy : ∃ y, elems[i]? = some y := ⟨_, List.getElem?_eq_getElem (by omega)⟩
      obtain ⟨y, hy⟩ := hy
      rw [hy, hc, Option.bind_eq_some_iff] at hq
      obtain ⟨cs', hcs, hy'⟩ := hq
      obtain ⟨v, h1, h2⟩ := leafs_ok n e ks he m cs' y hy' j k hj
      have hjl : j < ks.length := by
        rcases Nat.lt_or_ge j ks.length with h | h
        · exact h
        · rw [List.getElem?_eq_none h] at hj; cases hj
      have hcell := (World.cells?_some hcs).2.2 j hjl
      rw [h1, Addr.add_add] at hcell
      exact ⟨v, hcell, h2⟩
    refine ⟨by omega, fun h0 => ?_⟩
    obtain ⟨b, off, spot⟩ := x
    obtain ⟨k, hk⟩ : ∃ k, ks[0]? = some k := ⟨_, List.getElem?_eq_getElem hk0⟩
    obtain ⟨v, hc0, _⟩ := each 0 h0 0 k hk
    have hspot : spot = none := by simpa [Addr.add] using World.cell?_spot hc0
    subst hspot
    rw [Addr.add_lit] at hc0
    refine ⟨b, off, rfl, World.block_lt_of_cell? w _ hc0, fun i hi j k hj => ?_⟩
    obtain ⟨v, h1, h2⟩ := each i hi j k hj
    rw [Addr.add_lit] at h1
    exact ⟨v, h1, h2⟩
theorem CellsG.below {w w' : World} {a : Option Addr} {len : Nat} {ks : List Bool} {B : Nat} (h : CellsG w a len ks) (hB : B = w.heap.size) (hb : Below B w w') : CellsG w' a len ks := by
  subst hB
  refine ⟨h.1, fun h0 => ?_⟩
  obtain ⟨b, off, e, hlt, hc⟩ := h.2 h0
  refine ⟨b, off, e, Nat.lt_of_lt_of_le hlt hb.size, fun i hi j k hj => ?_⟩
  obtain ⟨v, h1, h2⟩ := hc i hi j k hj
  exact ⟨v, (hb.cell (p := ⟨b, off + (i * ks.length + j), none⟩) hlt).trans h1, h2⟩
end Go.Proofs.Ythlkpbpcfkgljaa.Sn
