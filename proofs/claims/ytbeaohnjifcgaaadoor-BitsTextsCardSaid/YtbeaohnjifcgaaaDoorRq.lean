/-
  A region that draws its order and only reads, inside a round of a range over a function: walked once, in the text's order.
-/
import Derived.Test.YtbeaohnjifcgaaaDoorRows
import Derived.Sort.QuietIn
import Derived.RangeFuncCalls
namespace Go.Proofs.YtbeaohnjifcgaaaDoor.Rq
open Go Go.RowKit
section
variable {F : Fence} {n : Nat} {P : Program} {ops : Array Oper} {md : Region.Mode}
def noDefer (l : List Oper) : Bool := l.all fun o => match o.op with | .defer _ => false | _ => true
theorem noDefer_spec {l : List Oper} (h : noDefer l = true) : ∀ o ∈ l, ∀ c, o.op ≠ .defer c := fun o ho c e => by
  have := List.all_eq_true.1 h o ho
  rw [e] at this
  cases this
theorem op_round (lp : Nat) (hro : F.round = none) {o : Oper} (hd : ∀ c, o.op ≠ .defer c) {a : Act} {w : World} {K K' : Act → World → Prop} {Q : Exit → Act → World → Prop} (hK : ∀ a w, K a w → K' a w) (h : o.wpIn F n P a w K Q) : o.wpIn (F.inRound lp) n P a w K' Q := by
  obtain ⟨h1, h2⟩ := h
  refine ⟨h1, ?_⟩
  rw [show (F.inRound lp).round = some lp from rfl, Oper.semAt_some lp _ _ hd]
  rw [hro, Oper.semAt_none] at h2
  revert h2
  generalize (execOp a.eval o).run P w = r
  intro h2
  cases r with
  | ok x w' =>
    cases x with
    | value v => exact hK _ _ h2
    | skip => exact hK _ _ h2
    | defer d => exact hK _ _ h2
    | enter f args =>
      refine ⟨h2.1, CallsIn.mono (CallsIn.inRound lp h2.2) ?_⟩
      intro e w'' he
      cases e with
      | returned v => exact hK _ _ he
      | panicked c => exact he
      | outgrown => exact he
    | row row args => exact ⟨h2.1, RowsIn.mono (F := F) h2.2 fun v w'' he => hK _ _ he⟩
    | round l f tmps assign body =>
      refine ⟨h2.1, RoundIn.mono (F := F) h2.2 ?_⟩
      intro e w'' he
      cases e with
      | returned v => exact hK _ _ he
      | panicked c => exact he
      | outgrown => exact he
    | _ => exact h2
  | halt x w' =>
    cases x <;> exact h2
theorem any_round (lp : Nat) (hro : F.round = none) {l : List Oper} (hd : noDefer l = true) {Q : Exit → Act → World → Prop} : ∀ (fuel : Nat) (listed : Array Bool) (a : Act) (w : World),
    wpAnyIn F n P md l.toArray Q fuel listed a w → wpAnyIn (F.inRound lp) n P md l.toArray Q fuel listed a w
  | 0, _, _, _, h => h
  | fuel + 1, listed, a, w, h => ⟨h.1, fun i hi => by
    have h2 := h.2 i hi
    unfold wpOpIn at h2 ⊢
    split
    · rename_i ho; rw [ho] at h2; exact any_round lp hro hd fuel _ _ _ h2
    · rename_i o ho
      rw [ho] at h2
      simp only [] at h2
      have ho' : o ∈ l := by rw [List.getElem?_toArray] at ho; exact List.mem_of_getElem? ho
      split
      · rename_i hw; rw [if_pos hw] at h2; exact op_round lp hro (noDefer_spec hd o ho') (fun a w => any_round lp hro hd fuel _ a w) h2
      · rename_i hw; rw [if_neg hw] at h2; exact ⟨h2.1, any_round lp hro hd fuel _ _ _ h2.2⟩⟩
/-- the region, walked once -/
theorem region {lp id : Nat} {Q : Exit → Act → World → Prop} {a : Act} {w : World} {l : List Oper} (hro : F.round = none) (hm : P.follows .mixedOrders = true) (hB : Region.lexB .any l.toArray = true) (hd : noDefer l = true)
    (h : wpQuietIn F n P l.toArray (fun w' => ∃ n, w' = w.drewN n) (fun a' => ∀ w', (∃ n, w' = w.drewN n) → Q .normal a' w') l a) : (Code.region id l.toArray true).wpIn (F.inRound lp) n P Q a w := by
  simp only [Region.lexB, Bool.and_eq_true] at hB
  refine wpIn_region_any hm (any_round lp hro hd _ _ _ _ (wpAnyIn_of_quiet (C := fun w' => ∃ n, w' = w.drewN n) (Q := fun a' => ∀ w', (∃ n, w' = w.drewN n) → Q .normal a' w') hro (fun _ w' hw' h => h w' hw') _ _ _ _ ⟨1, rfl⟩ ?_))
  have := wpAnyQIn_lex (F := F) (n := n) (C := fun w' => ∃ n, w' = w.drewN n) (md := .any) hB.1 l 0 (Array.replicate l.toArray.size false) a (by simp) (by simpa using hB.2) h
  simpa using this
end
end Go.Proofs.YtbeaohnjifcgaaaDoor.Rq
