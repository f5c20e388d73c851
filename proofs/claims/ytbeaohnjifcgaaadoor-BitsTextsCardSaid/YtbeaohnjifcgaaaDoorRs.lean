/-
  Fields of bits: a range over the program's set, for any loop.
-/
import Derived.Test.YtbeaohnjifcgaaaDoorBo
import Derived.Test.YtbeaohnjifcgaaaDoorRq
import Derived.Sort.QuietIn
namespace Go.Proofs.YtbeaohnjifcgaaaDoor.Bh
open Go Go.RowKit Go.Shelf Go.Proofs.YtbeaohnjifcgaaaDoor.Sx Go.Proofs.YtbeaohnjifcgaaaDoor.Na Go.Proofs.YtbeaohnjifcgaaaDoor.Ba

theorem range_set {ps : Array Tmp} {g : Operand} {assign body : Code} {Q : Exit → Act → World → Prop} {a : Act} {w : World} {n : Nat} (hn : 4 ≤ n)
    {pn pt N : Nat} {s : ByteArray} (hg : a.eval g = .func (.func 106) #[] #[.pointer (some ⟨pn, 0, none⟩), .pointer (some ⟨pt, 0, none⟩)]) (hps : ps.size = 1)
    (hN : N ≤ 8 * s.size) (hs : s.size ≤ 600) (J : Nat → World → Prop) (Jx : Code → World → Prop)
    (hJ : OwnFrom w.heap.size J) (hJx : OwnFrom w.heap.size Jx)
    (hc : ∀ i W, J i W → W.cell? ⟨pn, 0, none⟩ = some (.int .i64 (N : Int)) ∧ W.cell? ⟨pt, 0, none⟩ = some (.string s))
    (hno : ∀ i W, i < N → bt s i = false → J i W → J (i + 1) W)
    (h0 : J 0 w) (a₁ : Nat → Act)
    (hassign : ∀ (l : Nat) (x : Nat) (W : World) (K : Act → World → Prop), K (a₁ x) W →
      assign.wpIn (Fence.wide.inRound l) (n - 1 - 1) Tryd.prog (Exit.then K (fun _ _ _ => False)) { tmps := (ps.zip #[.int .i64 (x : Int)]).foldl (fun t (p, v) => t.setIfInBounds p v) a.tmps, defers := [] } W)
    (hbody : ∀ (l : Nat) (x : Nat) (W : World), x < N → bt s x = true → J x W → body.wpIn (Fence.wide.inRound l) (n - 1 - 1) Tryd.prog (Rf.roundEnds (J (x + 1)) Jx W) (a₁ x) W)
    (hdone : ∀ (D : Nat) (W : World), w.heap.size ≤ D → J N W → W.heap[D]? = some (.deferred (some [])) → Q .normal { a with defers := { target := .collected D, args := #[] } :: a.defers } W)
    (hstop : ∀ (D : Nat) (c : Code) (W : World), w.heap.size ≤ D → Jx c W → W.heap[D]? = some (.deferred (some [])) → c.wpIn Fence.wide n Tryd.prog Q { a with defers := { target := .collected D, args := #[] } :: a.defers } W) :
    (Code.rangeFunc g ps assign body).wpIn Fence.wide n Tryd.prog Q a w :=
  Rf.range_fn (F := Fence.wide) (n := n) rfl (by omega) (gf := 106) (lb := #[.pointer (some ⟨pn, 0, none⟩), .pointer (some ⟨pt, 0, none⟩)]) hg trivial (enters_of Tryd.func106 (by kernel_rfl) rfl)
    (fun x : Nat => #[.int .i64 (x : Int)]) (fun _ => by rw [hps]; rfl)
    (J 0) (fun x W => x < N ∧ bt s x = true ∧ J x W) (fun x => J (x + 1)) Jx Jx (J N)
    (fun _ W W' row h hg hr => hJ 0 W W' row h hg hr) (fun x W W' row ⟨h1, h2, h3⟩ hg hr => ⟨h1, h2, hJ x W W' row h3 hg hr⟩) (fun x W W' row h hg hr => hJ (x + 1) W W' row h hg hr) hJx hJx (fun _ W W' row h hg hr => hJ N W W' row h hg hr)
    h0 a₁ hassign (fun l x W h => hbody l x W h.1 h.2.1 h.2.2)
    (fun lp B Bx hB _ hY W hJ0 hBW _ => set1_in (n - 1) lp pn pt N s (by omega) hN hs J Jx Bx B hc (fun i W W' h hg => hJ i W W' none h hg (fun r e => by cases e)) hno hB hY W hJ0 hBW)
    hdone hstop
end Go.Proofs.YtbeaohnjifcgaaaDoor.Bh
