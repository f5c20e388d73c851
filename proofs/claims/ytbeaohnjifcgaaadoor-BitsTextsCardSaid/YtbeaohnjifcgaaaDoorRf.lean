/-
  A range over a function whose iterator and body share memory: what holds between the rounds is the prover's own.
-/
import Derived.Test.YtbeaohnjifcgaaaDoorRows
import Derived.RangeFuncFrom
import Derived.RangeFuncNested
import Derived.RangeFuncBound
import Derived.RangeFuncCalls
import Derived.RangeFuncLeaves
namespace Go.Proofs.YtbeaohnjifcgaaaDoor.Rf
open Go Go.RowKit

/-- the loop's record lies at l, the row of deferred calls at d -/
def Keep (l d : Nat) (r : Loop) (W : World) : Prop := W.heap[l]? = some (.loop r) ∧ W.heap[d]? = some (.deferred (some []))
theorem Keep.others {l d : Nat} {r : Loop} {W W' : World} (h : Keep l d r W) (k : KeepsOthers W W') : Keep l d r W' := ⟨k.same _ _ h.1 rfl, k.same _ _ h.2 rfl⟩
theorem Keep.lt {l d : Nat} {r : Loop} {W : World} (h : Keep l d r W) : l < W.heap.size := (Array.getElem?_eq_some_iff.1 h.1).1
theorem Keep.put {l d : Nat} {r r' : Loop} {W : World} (h : Keep l d r W) (hne : d ≠ l) : Keep l d r' (W.putObj l (.loop r')) :=
  ⟨World.putObj_heap_same h.lt, (World.putObj_heap_other hne).trans h.2⟩

variable {F : Fence} {n : Nat} {P : Program}

/-- how a round's body is left -/
def roundEnds (J : World → Prop) (Jx : Code → World → Prop) (W : World) : Exit → Act → World → Prop
  | .normal, _, W' => KeepsOthers W W' ∧ J W'
  | .ret, _, W' => KeepsOthers W W' ∧ Jx .ret W'
  | .exit id, _, W' => KeepsOthers W W' ∧ Jx (.exit id) W'
  | .goto t, _, W' => KeepsOthers W W' ∧ Jx (.goto t) W'
  | .panic _, _, _ => False
  | .outgrown, _, _ => False

theorem range_fn {α : Type} {g : Operand} {ps : Array Tmp} {assign body : Code} {Q : Exit → Act → World → Prop} {a : Act} {w : World}
    (hro : F.round = none) (h1 : 1 ≤ n) {gf : Nat} {lb : Array Value} (hg : a.eval g = .func (.func gf) #[] lb) (hFg : F.fn gf) (eg : ∀ args w, (callFunc gf args).run P w = .ok (.enter gf args) w)
    (encs : α → Array Value) (hps : ∀ x, (encs x).size = ps.size)
    (J : World → Prop) (Y Jb : α → World → Prop) (Jx Ex : Code → World → Prop) (Dn : World → Prop)
    (hJ : OwnFrom w.heap.size fun (_ : Unit) => J) (hY : OwnFrom w.heap.size Y) (hJb : OwnFrom w.heap.size Jb) (hJx : OwnFrom w.heap.size Jx) (hEx : OwnFrom w.heap.size Ex) (hDn : OwnFrom w.heap.size fun (_ : Unit) => Dn)
    (h0 : J w) (a₁ : α → Act)
    (hassign : ∀ (l : Nat) (x : α) (W : World) (K : Act → World → Prop), K (a₁ x) W →
      assign.wpIn (F.inRound l) (n - 1 - 1) P (Exit.then K (fun _ _ _ => False)) { tmps := (ps.zip (encs x)).foldl (fun t (p, v) => t.setIfInBounds p v) a.tmps, defers := [] } W)
    (hbody : ∀ (l : Nat) (x : α) (W : World), Y x W → body.wpIn (F.inRound l) (n - 1 - 1) P (roundEnds (Jb x) Jx W) (a₁ x) W)
    (hit : ∀ (l : Nat) (B : World → Prop) (Bx : Code → World → Prop), (∀ W W', B W → KeepsOthers W W' → B W') → (∀ c W W', Bx c W → KeepsOthers W W' → Bx c W') →
      (∀ x W1, Y x W1 → B W1 → YieldAt F (n - 1 - 1) P l (encs x) W1 fun e W' => (e = .returned (.bool true) ∧ Jb x W' ∧ B W') ∨ (e = .returned (.bool false) ∧ ∃ c, Jx c W' ∧ Bx c W')) →
      ∀ W, J W → B W → w.heap.size ≤ W.heap.size → CallsIn F (n - 1) P gf (#[.func (.yield l) #[] #[]] ++ lb) W fun e W' => (∃ v, e = .returned v) ∧ ((Dn W' ∧ B W') ∨ ∃ c, Ex c W' ∧ Bx c W'))
    (hdone : ∀ (D : Nat) (W : World), w.heap.size ≤ D → Dn W → W.heap[D]? = some (.deferred (some [])) → Q .normal { a with defers := { target := .collected D, args := #[] } :: a.defers } W)
    (hstop : ∀ (D : Nat) (c : Code) (W : World), w.heap.size ≤ D → Ex c W → W.heap[D]? = some (.deferred (some [])) → c.wpIn F n P Q { a with defers := { target := .collected D, args := #[] } :: a.defers } W) :
    (Code.rangeFunc g ps assign body).wpIn F n P Q a w := by
  refine wpIn_rangeFunc fun fn hfn => ?_
  rw [hro]
  have own {β : Type} {I : β → World → Prop} (h : OwnFrom w.heap.size I) {s : β} {W : World} {r : Loop} (o : Obj) (hs : I s W) (k : W.heap[w.heap.size + 1]? = some (.loop r)) : I s (W.putObj (w.heap.size + 1) o) :=
    h.putObj o hs (Nat.le_succ _) k rfl
  let R (st : LoopState) (pe : Option Code) : Loop := { state := st, pending := pe, fn := fn, tmps := a.tmps, params := ps, assign := assign, body := body, defers := w.heap.size }
  have ne : w.heap.size ≠ w.heap.size + 1 := by omega
  have start : Keep (w.heap.size + 1) w.heap.size (R .ready none) ((w.alloc (.deferred (some []))).alloc (.loop (R .ready none))) := by
    constructor
    · have := World.alloc_heap_new (w.alloc (.deferred (some []))) (.loop (R .ready none)); rwa [World.size_alloc] at this
    · exact (Below.heap_alloc _ _ _ (by simp)).trans (World.alloc_heap_new w _)
  have round : ∀ x W, Y x W → Keep (w.heap.size + 1) w.heap.size (R .ready none) W → YieldAt F (n - 1 - 1) P (w.heap.size + 1) (encs x) W fun e W' =>
      (e = .returned (.bool true) ∧ Jb x W' ∧ Keep (w.heap.size + 1) w.heap.size (R .ready none) W') ∨ (e = .returned (.bool false) ∧ ∃ c, Jx c W' ∧ Keep (w.heap.size + 1) w.heap.size (R .done (some c)) W') := by
    intro x W hy hk
    refine ⟨fn, _, assign, body, run_yield (r := R .ready none) hk.1 (hps x), roundIn_of_wpIn hfn (hassign _ x W _ ⟨_, run_beginRound hk.1 rfl, ?_⟩)⟩
    have busy : Keep (w.heap.size + 1) w.heap.size (R .busy none) (W.putObj (w.heap.size + 1) (.loop (R .busy none))) := hk.put ne
    refine wpIn_mono (hbody _ x _ (own hY _ hy hk.1)) ?_
    intro e a3 W3 hp
    cases e with
    | normal =>
      obtain ⟨hko, hj⟩ := hp
      have b3 := busy.others hko
      exact ⟨_, _, run_endRound none b3.1, .inl ⟨rfl, own hJb _ hj b3.1, b3.put (r' := R .ready none) ne⟩⟩
    | ret =>
      obtain ⟨hko, hj⟩ := hp
      have b3 := busy.others hko
      exact ⟨_, _, run_endRound (some .ret) b3.1, .inr ⟨rfl, .ret, own hJx _ hj b3.1, b3.put (r' := R .done (some .ret)) ne⟩⟩
    | exit id =>
      obtain ⟨hko, hj⟩ := hp
      have b3 := busy.others hko
      exact ⟨_, _, run_endRound (some (.exit id)) b3.1, .inr ⟨rfl, .exit id, own hJx _ hj b3.1, b3.put (r' := R .done (some (.exit id))) ne⟩⟩
    | goto t =>
      obtain ⟨hko, hj⟩ := hp
      have b3 := busy.others hko
      exact ⟨_, _, run_endRound (some (.goto t)) b3.1, .inr ⟨rfl, .goto t, own hJx _ hj b3.1, b3.put (r' := R .done (some (.goto t))) ne⟩⟩
    | panic ch => exact hp.elim
    | outgrown => exact hp.elim
  obtain ⟨W1, hW1⟩ : ∃ W1, (w.alloc (.deferred (some []))).alloc (.loop (R .ready none)) = W1 := ⟨_, rfl⟩
  have hsz1 : w.heap.size ≤ W1.heap.size := by rw [← hW1]; simp; omega
  have hJ1 : J W1 := by rw [← hW1]; exact hJ.alloc (s := ()) _ (hJ.alloc (s := ()) _ h0)
  rw [hW1] at start
  refine ⟨w.heap.size + 1, [{ target := .collected w.heap.size, args := #[] }], W1, { target := .fn (.func gf) lb, args := #[.func (.yield (w.heap.size + 1)) #[] #[]] }, W1, gf,
    #[.func (.yield (w.heap.size + 1)) #[] #[]] ++ lb, W1, ?_, ?_, ?_, ?_, fun _ => h1, ?_⟩
  rotate_left 4
  · refine (hit (w.heap.size + 1) (Keep (w.heap.size + 1) w.heap.size (R .ready none)) (fun c => Keep (w.heap.size + 1) w.heap.size (R .done (some c))) (fun _ _ h k => h.others k) (fun _ _ _ h k => h.others k) round _ hJ1 start hsz1).mono ?_
    rintro e W2 ⟨⟨v, rfl⟩, ⟨hd, hk⟩ | ⟨c, hx, hk⟩⟩
    · exact ⟨none, _, run_endLoop hk.1 (by simp [R]), hdone _ _ (Nat.le_refl _) (own (I := fun (_ : Unit) => Dn) hDn (s := ()) _ hd hk.1) ((World.putObj_heap_other ne).trans hk.2)⟩
    · exact ⟨some c, _, run_endLoop hk.1 (by simp [R]), hstop _ c _ (Nat.le_refl _) (own hEx _ hx hk.1) ((World.putObj_heap_other ne).trans hk.2)⟩
  · rw [← hW1]; exact run_enterLoop_outer fn a.tmps ps assign body
  · simp only [resolve, hg]
    simp [go_sem]
  · intro f' hf'; simp [Target.leads] at hf'; subst hf'; exact hFg
  · simp [invoke, go_sem, eg]
/-- yield's arguments in the parameters' slots -/
theorem zip1 (p : Tmp) (a : Value) (t : Array Value) : (#[p].zip #[a]).foldl (fun t (p, v) => t.setIfInBounds p v) t = t.setIfInBounds p a := by simp
theorem zip2 (p q : Tmp) (a b : Value) (t : Array Value) : (#[p, q].zip #[a, b]).foldl (fun t (p, v) => t.setIfInBounds p v) t = (t.setIfInBounds p a).setIfInBounds q b := by simp
end Go.Proofs.YtbeaohnjifcgaaaDoor.Rf
