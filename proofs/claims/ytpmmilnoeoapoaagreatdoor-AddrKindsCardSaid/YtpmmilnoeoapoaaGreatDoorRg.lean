/-
  A row that is shifted and appended to: a slice with an offset (l = append(l, x); l = l[1:]). Nothing of the program's own.
-/
import Derived.Test.YtpmmilnoeoapoaaGreatDoorRows
import Derived.WalkKit
import Derived.ArgAppend
import Derived.Maps.AppendAt
import Derived.Laws.IdiomCopy
import Derived.Deep.Upon
import Derived.Below
import Derived.Deep.AppendLies
import Derived.Laws.Slices
namespace Go.Proofs.YtpmmilnoeoapoaaGreatDoor.Rg
open Go Go.RowKit

/-- n elements of so many cells each lie there, and behind them room that may be written -/
structure Row (w : World) (size : Nat) (v : Value) (n : Nat) (xs : List Value) : Prop where
  len : xs.length = n * size
  val : (v = .slice none 0 0 ∧ n = 0) ∨ ∃ g off cap, v = .slice (some ⟨g, off, none⟩) n cap ∧ n ≤ cap ∧ cap ≤ maxLen ∧ g < w.heap.size ∧ (∀ j u, xs[j]? = some u → w.cell? ⟨g, off + j, none⟩ = some u) ∧
    (∀ j, j < (cap - n) * size → (w.cell? ⟨g, off + n * size + j, none⟩).isSome = true ∧ w.frozen? ⟨g, off + n * size + j, none⟩ = false) ∧ ∀ o, w.frozen? ⟨g, o, none⟩ = false
theorem Row.nil (w : World) (size : Nat) : Row w size (.slice none 0 0) 0 [] := ⟨by simp, .inl ⟨rfl, rfl⟩⟩

theorem Row.of_owns {w : World} {base : Nat} {e : TypeId} {size : Nat} {v : Value} {n : Nat} {xs : List Value} (h : w.ownsRow base e size v n xs) : Row w size v n xs := by
  obtain ⟨hl, ⟨rfl, rfl⟩ | ⟨g, cap, cur, rfl, hb, hh, hn, hc, hz, ht⟩⟩ := h
  · exact ⟨hl, .inl ⟨rfl, rfl⟩⟩
  · refine ⟨hl, .inr ⟨g, 0, cap, rfl, hn, hc, (Array.getElem?_eq_some_iff.1 hh).1, fun j u hj => ?_, fun j hj => ⟨?_, by simp [World.frozen?, hh]⟩, fun o => by simp [World.frozen?, hh]⟩⟩
    · rw [Nat.zero_add, cell_of_row _ _ _ _ _ _ hh, ← hj, ← ht]
      have hjl : j < xs.length := by
        rcases Nat.lt_or_ge j xs.length with h | h
        · exact h
        · rw [List.getElem?_eq_none h] at hj; cases hj
      rw [List.getElem?_take_of_lt (by omega), Array.getElem?_toList]
    · rw [cell_of_row _ _ _ _ _ _ hh]
      have : 0 + n * size + j < cur.size := by
        rw [hz]
        have : (cap - n) * size + n * size = cap * size := by rw [← Nat.add_mul]; congr 1; omega
        omega
      rw [Array.getElem?_eq_getElem this]
      rfl

/-- what grows beside the row leaves it -/
theorem Row.kept {w w' : World} {size : Nat} {v : Value} {n : Nat} {xs : List Value} {r : Option Nat} (h : Row w size v n xs) (hg : w.grownBy w' r) (hr : ∀ k, v.ownBlock = some k → r ≠ some k) : Row w' size v n xs := by
  refine ⟨h.len, h.val.imp id ?_⟩
  rintro ⟨g, off, cap, rfl, h1, h2, h3, h4, h5, h6⟩
  have hb : w'.heap[g]? = w.heap[g]? := hg.block g h3 (fun e => hr g rfl e.symm)
  exact ⟨g, off, cap, rfl, h1, h2, Nat.lt_of_lt_of_le h3 hg.size, fun j u hj => (World.cell?_of_block (a := ⟨g, off + j, none⟩) hb).trans (h4 j u hj),
    fun j hj => ⟨by rw [World.cell?_of_block (a := ⟨g, off + n * size + j, none⟩) hb]; exact (h5 j hj).1, (World.frozen?_of_block (a := ⟨g, off + n * size + j, none⟩) hb).trans (h5 j hj).2⟩, fun o => (World.frozen?_of_block (a := ⟨g, o, none⟩) hb).trans (h6 o)⟩

/-- written cells: the tape stays -/
theorem tape_setCells (g : Nat) : ∀ (news : List Value) (o : Nat) (w : World), (w.setCells g o news).tape = w.tape
  | [], _, _ => rfl
  | _ :: r, o, _ => tape_setCells g r (o + 1) _
theorem size_setCells (g : Nat) : ∀ (news : List Value) (o : Nat) (w : World), (w.setCells g o news).heap.size = w.heap.size
  | [], _, _ => rfl
  | v :: r, o, w => (size_setCells g r (o + 1) (w.setCell ⟨g, o, none⟩ v)).trans (by simp [World.setCell])

section
variable {P : Program}
/-- one element more -/
theorem run_append {w : World} {size : Nat} {v : Value} {n : Nat} {xs : List Value} (h : Row w size v n xs)
    (t ty e : TypeId) (i : TypeInfo) (z : Value) (bytes : Nat) (ht : P.underlying t = some (.slice e)) (hi : P.info? e = some i) (hz : i.zero = some z) (hsize : i.size = size) (hby : i.bytes = bytes) (hzs : z.cells.size = size) (hsz : 0 < size)
    (ad : Addr) (c : Nat) (news : List Value) (hl : news.length = 1 * size) (hnews : ∀ j u, news[j]? = some u → w.cell? (ad.add j) = some u) (h1 : ∀ u ∈ news, u.oneCell' = true)
    (h63 : n + 1 ≤ maxLen) (hbytes : (n + 1) * bytes ≤ 140737488355328) :
    ∃ v' w', (Builtin.append_ #[t, t] ty #[v, .slice (some ad) 1 c]).run P w = .ok v' w' ∧ Row w' size v' (n + 1) (xs ++ news) ∧ w.grownBy w' v.ownBlock ∧ (v'.ownBlock = v.ownBlock ∨ ∃ k, v'.ownBlock = some k ∧ w.heap.size ≤ k) := by
  subst hsize
  have hxl := h.len
  have hnl : news.length = i.size := by omega
  rcases h.val with ⟨rfl, rfl⟩ | ⟨g, off, cap, rfl, hn, hc, hg, hcell, hsp, hfz⟩
  · obtain rfl : xs = [] := List.eq_nil_of_length_eq_zero (by omega)
    obtain ⟨v', w', r1, r2, r3, _, r5⟩ := run_append_own_at (P := P) w w.heap.size t ty e i z i.size bytes ht hi hz rfl hby hzs hsz (.slice none 0 0) 0 [] (World.ownsRow_nil _ _ _ _) ad 1 c news hl hnews h1 h63 hbytes (Nat.le_refl _)
    exact ⟨v', w', r1, Row.of_owns r2, r3, r5.imp id fun h => ⟨_, h, Nat.le_refl _⟩⟩
  · by_cases hroom : n + 1 ≤ cap
    · have hcs : ∀ j, j < news.length → (w.cell? ⟨g, off + n * i.size + j, none⟩).isSome = true ∧ w.frozen? ⟨g, off + n * i.size + j, none⟩ = false := fun j hj => hsp j (by
        have : 1 * i.size ≤ (cap - n) * i.size := Nat.mul_le_mul_right _ (by omega)
        omega)
      have hr := run_append_room_cells (P := P) w t ty e i ht hi g off n cap ad 1 c news hl hnews h1 hroom (fun j hj => (hcs j hj).1) (fun j hj => (hcs j hj).2)
      have hgb : w.grownBy (w.setCells g (off + n * i.size) news) (some g) :=
        ⟨World.os_setCells w g _ news, tape_setCells g news _ w, World.output_setCells w g _ news, Nat.le_of_eq (size_setCells g news _ w).symm, fun k hk hne => World.heap_setCells_other w g _ news hk (fun e => hne (by rw [e]))⟩
      refine ⟨_, _, hr, ⟨by rw [List.length_append, hxl, hl, Nat.add_mul], .inr ⟨g, off, cap, rfl, hroom, hc, by have := hgb.size; omega, fun j u hj => ?_, fun j hj => ⟨?_, ?_⟩, fun o => ?_⟩⟩, hgb, .inl rfl⟩
      · by_cases hjx : j < xs.length
        · rw [List.getElem?_append_left hjx] at hj
          rw [World.cell?_setCells_out g news _ w ⟨g, off + j, none⟩ (fun _ _ => .inl (by show off + j < _; omega))]
          exact hcell j u hj
        · rw [List.getElem?_append_right (by omega)] at hj
          have hj2 : j - xs.length < news.length := by
            rcases Nat.lt_or_ge (j - xs.length) news.length with q | q
            · exact q
            · rw [List.getElem?_eq_none q] at hj; cases hj
          have := World.cell?_setCells_in g news (off + n * i.size) w (fun j hj => (hcs j hj).1) (j - xs.length) hj2
          rw [show off + j = off + n * i.size + (j - xs.length) by omega, this, ← hj, List.getElem?_eq_getElem hj2]
      · have e1 : (cap - (n + 1)) * i.size + i.size = (cap - n) * i.size := by
          rw [← Nat.succ_mul]; congr 1; omega
        rw [World.cell?_setCells_out g news _ w ⟨g, off + (n + 1) * i.size + j, none⟩ (fun _ _ => .inr (by show off + n * i.size + news.length ≤ off + (n + 1) * i.size + j; rw [Nat.succ_mul]; omega)),
          show off + (n + 1) * i.size + j = off + n * i.size + (i.size + j) by rw [Nat.succ_mul]; omega]
        exact (hsp (i.size + j) (by omega)).1
      · have e1 : (cap - (n + 1)) * i.size + i.size = (cap - n) * i.size := by
          rw [← Nat.succ_mul]; congr 1; omega
        rw [World.frozen?_setCells, show off + (n + 1) * i.size + j = off + n * i.size + (i.size + j) by rw [Nat.succ_mul]; omega]
        exact (hsp (i.size + j) (by omega)).2
      · rw [World.frozen?_setCells]; exact hfz o
    · obtain ⟨v', w', r1, r2, r3⟩ := run_append_arg_grows (P := P) w t ty e i z i.size bytes ht hi hz rfl hby hzs hsz ⟨g, off, none⟩ n cap xs hxl (fun j u hj => by rw [Addr.add_lit]; exact hcell j u hj) ad 1 c news hl hnews (by omega) h63 hbytes
      refine ⟨v', w', r1, Row.of_owns r2, ⟨r3.os, r3.tape, r3.output, r3.size, fun k hk _ => r3.block k hk (by simp)⟩, .inr ?_⟩
      rcases r2.2 with ⟨_, h0⟩ | ⟨k, cap', _, rfl, hk, _⟩
      · omega
      · exact ⟨k, rfl, hk⟩
end
theorem Row.form {w : World} {size : Nat} {v : Value} {n : Nat} {xs : List Value} (h : Row w size v (n + 1) xs) : ∃ g off cap, v = .slice (some ⟨g, off, none⟩) (n + 1) cap ∧ n + 1 ≤ cap ∧ g < w.heap.size := by
  rcases h.val with ⟨_, h0⟩ | ⟨g, off, cap, rfl, h1, _, h3, _⟩
  · omega
  · exact ⟨g, off, cap, rfl, h1, h3⟩

/-- without its first element: l[1:] -/
theorem Row.tail {w : World} {size : Nat} {g off cap n : Nat} {xs : List Value} (h : Row w size (.slice (some ⟨g, off, none⟩) (n + 1) cap) (n + 1) xs) : Row w size (sliced (some ⟨g, off, none⟩) 1 (n + 1) cap size) n (xs.drop size) := by
  rcases h.val with ⟨h0, _⟩ | ⟨g', off', cap', e, h1, h2, h3, h4, h5, h6⟩
  · cases h0
  obtain ⟨rfl, rfl, rfl⟩ : g' = g ∧ off' = off ∧ cap' = cap := by
    simp only [Value.slice.injEq, Option.some.injEq, Addr.mk.injEq] at e
    exact ⟨e.1.1.symm, e.1.2.1.symm, e.2.2.symm⟩
  have hl := h.len
  rw [Nat.succ_mul] at hl
  refine ⟨by rw [List.length_drop, hl]; omega, .inr ?_⟩
  unfold sliced
  by_cases hc : cap' = 1
  · subst hc
    obtain rfl : n = 0 := by omega
    rw [if_pos rfl]
    refine ⟨g', off', 0, rfl, by omega, by omega, h3, fun j u hj => ?_, fun j hj => by simp at hj, h6⟩
    rw [List.getElem?_drop, List.getElem?_eq_none (by omega)] at hj
    cases hj
  · rw [if_neg hc]
    refine ⟨g', off' + 1 * size, cap' - 1, by simp [Addr.add_lit], by omega, by omega, h3, fun j u hj => ?_, fun j hj => ?_, h6⟩
    · rw [List.getElem?_drop] at hj
      rw [← h4 (size + j) u hj]
      congr 2; omega
    · have e1 : (cap' - 1 - n) = (cap' - (n + 1)) := by omega
      rw [e1] at hj
      have e2 : (n + 1) * size = n * size + size := Nat.succ_mul _ _
      rw [show off' + 1 * size + n * size + j = off' + (n + 1) * size + j by omega]
      exact h5 j hj

/-- one cell of the elements is written -/
theorem Row.set {w : World} {size : Nat} {g off cap n : Nat} {xs : List Value} (h : Row w size (.slice (some ⟨g, off, none⟩) n cap) n xs) (j : Nat) (x : Value) (hj : j < xs.length) : Row (w.setCell ⟨g, off + j, none⟩ x) size (.slice (some ⟨g, off, none⟩) n cap) n (xs.set j x) := by
  refine ⟨by rw [List.length_set]; exact h.len, .inr ?_⟩
  have hl := h.len
  rcases h.val with ⟨h0, _⟩ | ⟨g', off', cap', e, h1, h2, h3, h4, h5, h6⟩
  · cases h0
  obtain ⟨rfl, rfl, rfl⟩ : g' = g ∧ off' = off ∧ cap' = cap := by
    simp only [Value.slice.injEq, Option.some.injEq, Addr.mk.injEq] at e
    exact ⟨e.1.1.symm, e.1.2.1.symm, e.2.2.symm⟩
  have hjs : w.cell? ⟨g', off' + j, none⟩ = some xs[j] := h4 j xs[j] (List.getElem?_eq_getElem hj)
  have hE : w.setCell ⟨g', off' + j, none⟩ x = w.setCells g' (off' + j) [x] := rfl
  rw [hE]
  refine ⟨g', off', cap', rfl, h1, h2, by rw [size_setCells g' [x] (off' + j) w]; exact h3, fun i u hi => ?_, fun i hi => ⟨?_, ?_⟩, fun o => (World.frozen?_setCells ..).trans (h6 o)⟩
  · by_cases hij : i = j
    · subst hij
      rw [List.getElem?_set_self hj] at hi
      cases hi
      exact (World.cell?_setCell_same w ⟨g', off' + i, none⟩ x hjs)
    · rw [List.getElem?_set_ne (Ne.symm hij)] at hi
      rw [World.cell?_setCells_out g' [x] (off' + j) w ⟨g', off' + i, none⟩ (fun _ _ => by show off' + i < off' + j ∨ off' + j + 1 ≤ off' + i; omega)]
      exact h4 i u hi
  · rw [World.cell?_setCells_out g' [x] (off' + j) w ⟨g', off' + n * size + i, none⟩ (fun _ _ => .inr (by show off' + j + 1 ≤ off' + n * size + i; omega))]
    exact (h5 i hi).1
  · exact (World.frozen?_setCells ..).trans (h6 _)
theorem Row.unfrozen {w : World} {size : Nat} {g off cap n : Nat} {xs : List Value} (h : Row w size (.slice (some ⟨g, off, none⟩) n cap) n xs) (o : Nat) : w.frozen? ⟨g, o, none⟩ = false := by
  rcases h.val with ⟨h0, _⟩ | ⟨g', off', cap', e, _, _, _, _, _, h6⟩
  · cases h0
  simp only [Value.slice.injEq, Option.some.injEq, Addr.mk.injEq] at e
  rw [e.1.1]; exact h6 o

section
variable {P : Program} {w : World}
/-- at the operation -/
theorem wp_append_row {o : Oper} {a : Act} {K : Act → World → Prop} {Q : Exit → Act → World → Prop} (s x : Operand) (t : TypeId)
    (ho : o.op = .call { callee := .builtin .append, args := #[s, x], argTypes := #[t, t] })
    (e : TypeId) (i : TypeInfo) (z : Value) (size bytes : Nat) (ht : P.underlying t = some (.slice e)) (hi : P.info? e = some i) (hz : i.zero = some z)
    (hsize : i.size = size) (hby : i.bytes = bytes) (hzs : z.cells.size = size) (hsz : 0 < size)
    (v : Value) (n : Nat) (xs : List Value) (hs : a.eval s = v) (hrow : Row w size v n xs)
    (ad : Addr) (c : Nat) (news : List Value) (hx : a.eval x = .slice (some ad) 1 c) (hl : news.length = 1 * size) (hnews : ∀ j u, news[j]? = some u → w.cell? (ad.add j) = some u) (h1 : ∀ u ∈ news, u.oneCell' = true)
    (h63 : n + 1 ≤ maxLen) (hbytes : (n + 1) * bytes ≤ 140737488355328)
    (h : ∀ g off cap w', Row w' size (.slice (some ⟨g, off, none⟩) (n + 1) cap) (n + 1) (xs ++ news) → w.grownBy w' v.ownBlock → (v.ownBlock = some g ∨ w.heap.size ≤ g) → K (a.put o.dst (.slice (some ⟨g, off, none⟩) (n + 1) cap)) w') : o.wp P a w K Q := by
  obtain ⟨v', w', hr, h2, h3, h5⟩ := run_append (P := P) hrow t o.type e i z bytes ht hi hz hsize hby hzs hsz ad c news hl hnews h1 h63 hbytes
  obtain ⟨g, off, cap, rfl, _, hlt⟩ := h2.form
  unfold Oper.wp execOp
  simp only [ho, resolve, invoke, builtin, Sem.run_bind, Sem.run_pure, Result.andThen_ok, List.map_toArray, List.map_cons, List.map_nil, hs, hx, hr]
  refine h g off cap w' h2 h3 ?_
  rcases h5 with h5 | ⟨k, h5, h6⟩
  · exact .inl (by rw [← h5]; rfl)
  · have hk : g = k := by simpa [Value.ownBlock] using h5
    exact .inr (by omega)

/-- at the list of a plain region's operations -/
theorem wpList_append_row {ops : Array Oper} {rest : List Oper} {o : Oper} {a : Act} {Q : Exit → Act → World → Prop} (hgd : o.guard = none) (s x : Operand) (t : TypeId)
    (ho : o.op = .call { callee := .builtin .append, args := #[s, x], argTypes := #[t, t] })
    (e : TypeId) (i : TypeInfo) (z : Value) (size bytes : Nat) (ht : P.underlying t = some (.slice e)) (hi : P.info? e = some i) (hz : i.zero = some z)
    (hsize : i.size = size) (hby : i.bytes = bytes) (hzs : z.cells.size = size) (hsz : 0 < size)
    (v : Value) (n : Nat) (xs : List Value) (hs : a.eval s = v) (hrow : Row w size v n xs)
    (ad : Addr) (c : Nat) (news : List Value) (hx : a.eval x = .slice (some ad) 1 c) (hl : news.length = 1 * size) (hnews : ∀ j u, news[j]? = some u → w.cell? (ad.add j) = some u) (h1 : ∀ u ∈ news, u.oneCell' = true)
    (h63 : n + 1 ≤ maxLen) (hbytes : (n + 1) * bytes ≤ 140737488355328)
    (h : ∀ g off cap w', Row w' size (.slice (some ⟨g, off, none⟩) (n + 1) cap) (n + 1) (xs ++ news) → w.grownBy w' v.ownBlock → (v.ownBlock = some g ∨ w.heap.size ≤ g) → wpList P ops Q rest (a.put o.dst (.slice (some ⟨g, off, none⟩) (n + 1) cap)) w') : wpList P ops Q (o :: rest) a w :=
  wpList_plain hgd fun _ hK => wp_append_row s x t ho e i z size bytes ht hi hz hsize hby hzs hsz v n xs hs hrow ad c news hx hl hnews h1 h63 hbytes fun g off cap w' h2 h3 h4 => hK _ _ (h g off cap w' h2 h3 h4)

/-- at a step of a region that draws its order -/
theorem step_append_row {ops : Array Oper} {o : Oper} {a : Act} {K : Act → World → Prop} {Q : Exit → Act → World → Prop} {E : Prop} (hgd : o.guard = none) (s x : Operand) (t : TypeId)
    (ho : o.op = .call { callee := .builtin .append, args := #[s, x], argTypes := #[t, t] })
    (e : TypeId) (i : TypeInfo) (z : Value) (size bytes : Nat) (ht : P.underlying t = some (.slice e)) (hi : P.info? e = some i) (hz : i.zero = some z)
    (hsize : i.size = size) (hby : i.bytes = bytes) (hzs : z.cells.size = size) (hsz : 0 < size)
    (v : Value) (n : Nat) (xs : List Value) (hs : a.eval s = v) (hrow : Row w size v n xs)
    (ad : Addr) (c : Nat) (news : List Value) (hx : a.eval x = .slice (some ad) 1 c) (hl : news.length = 1 * size) (hnews : ∀ j u, news[j]? = some u → w.cell? (ad.add j) = some u) (h1 : ∀ u ∈ news, u.oneCell' = true)
    (h63 : n + 1 ≤ maxLen) (hbytes : (n + 1) * bytes ≤ 140737488355328)
    (h : ∀ g off cap w', Row w' size (.slice (some ⟨g, off, none⟩) (n + 1) cap) (n + 1) (xs ++ news) → w.grownBy w' v.ownBlock → (v.ownBlock = some g ∨ w.heap.size ≤ g) → K (a.put o.dst (.slice (some ⟨g, off, none⟩) (n + 1) cap)) w') :
    if Region.wanted o (yielded ops a.tmps) = true then Oper.wp P o a w K Q else E := by
  rw [if_pos (show Region.wanted o (yielded ops a.tmps) = true by simp [Region.wanted, hgd])]
  exact wp_append_row s x t ho e i z size bytes ht hi hz hsize hby hzs hsz v n xs hs hrow ad c news hx hl hnews h1 h63 hbytes h
end
end Go.Proofs.YtpmmilnoeoapoaaGreatDoor.Rg
