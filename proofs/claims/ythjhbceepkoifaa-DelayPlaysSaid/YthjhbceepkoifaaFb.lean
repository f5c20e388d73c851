/-
  less of any two ints; least over a ring of ints of any fill.
-/
import Derived.Test.YthjhbceepkoifaaFa
import Derived.Laws.Bits128
namespace Go.Proofs.Ythjhbceepkoifaa.Fb
open Go Go.RowKit Go.Proofs.Ythjhbceepkoifaa.Ec Go.Proofs.Ythjhbceepkoifaa.Ee Go.Proofs.Ythjhbceepkoifaa.Rg Go.Proofs.Ythjhbceepkoifaa.Fa
attribute [local go_sem] Oper.semAt_some

theorem and32 (n : Int) : bits .and .i64 n 4294967295 = n % 4294967296 := by
  have h1 : (BitVec.ofInt 64 n).toNat = (n % 18446744073709551616).toNat := by rw [BitVec.toNat_ofInt]; rfl
  have h2 : (BitVec.ofInt 64 (4294967295 : Int)).toNat = 2 ^ 32 - 1 := by decide
  show IntKind.i64.wrap ((BitVec.ofInt 64 n &&& BitVec.ofInt 64 4294967295).toNat : Int) = _
  rw [BitVec.toNat_and, h1, h2, Nat.and_two_pow_sub_one_eq_mod, IntKind.wrap_i64]
  omega

/-- a is less than b on the circle -/
def ls (a b : Int) : Bool := decide (1 ≤ (b - a) % 4294967296) && decide ((b - a) % 4294967296 ≤ 2147483647)

set_option maxHeartbeats 400000 in
theorem within_any (n a b : Int) (w : World) : Calls Try.prog 20 #[.int .i64 n, .int .i64 a, .int .i64 b] w fun e w' => e = .returned (.bool (decide (a ≤ n) && decide (n ≤ b))) ∧ w' = w := by
  by_cases h1 : a ≤ n
  · by_cases h2 : n ≤ b
    · go_enter Try.func20, Try.ntmps20
      go_wp2
      go_ret
      exact ⟨by simp [h1, h2], rfl⟩
    · go_enter Try.func20, Try.ntmps20
      go_wp2
      go_ret
      exact ⟨by simp [h2], rfl⟩
  · go_enter Try.func20, Try.ntmps20
    go_wp2
    go_ret
    exact ⟨by simp; omega, rfl⟩

set_option maxHeartbeats 400000 in
theorem less_all (a b : Int) (w : World) : Calls Try.prog 60 #[.int .i64 a, .int .i64 b] w fun e w' => e = .returned (.bool (ls a b)) ∧ w' = w := by
  have hw : IntKind.i64.wrap (b - a) % 4294967296 = (b - a) % 4294967296 := by rw [IntKind.wrap_i64]; omega
  have hand := and32 (IntKind.i64.wrap (b - a))
  rw [hw] at hand
  go_enter Try.func60, Try.ntmps60
  go_wp2_with (go_at_call 20; refine (within_any _ _ _ _).mono ?_; rintro e w1 ⟨rfl, rfl⟩)
  go_ret
  exact ⟨by have e : wrap64 (b - a) = IntKind.i64.wrap (b - a) := by first | rfl | (rw [IntKind.wrap_i64]; unfold wrap64; rfl) | (rw [IntKind.wrap_i64]; unfold wrap64; omega)
            rw [e, hand]; rfl, rfl⟩

/-- the least of what came so far -/
def mn (o : Option Int) (x : Int) : Option Int := match o with | none => some x | some b => some (if ls x b then x else b)
def lst (zs : List Int) : Option Int := zs.foldl mn none
theorem lst_snoc (zs : List Int) (x : Int) : lst (zs ++ [x]) = mn (lst zs) x := by simp [lst]
theorem fold_none : ∀ (zs : List Int) (o : Option Int), (zs.foldl mn o).isNone = (o.isNone && zs.isEmpty)
  | [], o => by simp
  | x :: r, o => by rw [List.foldl_cons, fold_none r]; cases o <;> simp [mn]
theorem lst_some (zs : List Int) : (lst zs).isNone = zs.isEmpty := by unfold lst; rw [fold_none]; rfl

/-- a ring of ints yields them -/
theorem any_stops (F : Fence) (n : Nat) (h7 : F.fn 69) (hro : F.round = none) (hn : 1 ≤ n) (Bs n₀ cb co b off len cap : Nat) (zs : List Int) (hlz : zs.length = len) (hreach : len ≤ 1000000) (w : World) (hBs : Bs < w.heap.size) (hcb : cb < w.heap.size) (hn₀ : n₀ ≤ w.heap.size) (hb : b < n₀)
    (hc : w.cell? ⟨Bs, 0, none⟩ = some (.pointer (some ⟨cb, co, none⟩))) (hsl : w.cell? ⟨cb, co + 1, none⟩ = some (.slice (some ⟨b, off, none⟩) len cap)) (hz : ∀ j, j < len → w.cell? ⟨b, off + j, none⟩ = some (.int .i64 (zs[j]?.getD 0))) :
    SeqStopsK F n Try.prog 69 #[.pointer (some ⟨Bs, 0, none⟩)] (fun x : Int => #[Value.int .i64 x]) (Below n₀) (fun ys => ys = zs) (fun _ => True) len w := fun l J Jx W hW _ _ hY h0 => by
  refine (all1_in F n h7 hro hn l Bs n₀ cb co b off len cap zs hreach hb J Jx hY W ((hW.cell (p := ⟨Bs, 0, none⟩) hBs).trans hc) ((hW.cell (p := ⟨cb, co + 1, none⟩) hcb).trans hsl) (fun j hj => ?_) h0).mono ?_
  · exact (hW.cell (p := ⟨b, off + j, none⟩) (show b < w.heap.size by omega)).trans (hz j hj)
  · rintro e W' ⟨he, ⟨ys, rfl, hj⟩ | ⟨pre, _, hj⟩⟩
    · refine ⟨he, .inl ⟨_, ?_, hj⟩⟩
      subst hlz
      refine List.ext_getElem (by simp [upto]) fun i h1 h2 => ?_
      simp [upto, List.getElem?_eq_getElem h2]
    · exact ⟨he, .inr ⟨_, trivial, hj⟩⟩

set_option maxRecDepth 100000 in
set_option maxHeartbeats 2000000 in
/-- least over a ring of ints -/
theorem least_any (n : Nat) (hn : 3 ≤ n) (Bs cb co b off len cap : Nat) (zs : List Int) (hlz : zs.length = len) (hreach : len ≤ 1000000) (w : World) (hBs : Bs < w.heap.size) (hcb : cb < w.heap.size) (hb : b < w.heap.size)
    (hc : w.cell? ⟨Bs, 0, none⟩ = some (.pointer (some ⟨cb, co, none⟩))) (hsl : w.cell? ⟨cb, co + 1, none⟩ = some (.slice (some ⟨b, off, none⟩) len cap)) (hz : ∀ j, j < len → w.cell? ⟨b, off + j, none⟩ = some (.int .i64 (zs[j]?.getD 0))) :
    CallsIn Fence.wide n Try.prog 63 #[.func (.func 69) #[] #[.pointer (some ⟨Bs, 0, none⟩)], .func (.func 60) #[] #[]] w fun e W' => e = .returned (.int .i64 ((lst zs).getD 0)) ∧ Below w.heap.size w W' := by
  have h1 : 1 ≤ n := by omega
  have hL : Fence.wide.fn 63 := trivial
  have h7 : Fence.wide.fn 69 := trivial
  have hro : Fence.wide.round = none := rfl
  refine callsIn_of_wp_marks Try.func63 rfl hL ?_ hro
  simp only [Try.ntmps63, List.size_toArray, List.length_cons, List.length_nil, Nat.reduceAdd, Nat.reduceSub, Array.replicate_succ, Array.replicate_zero, List.push_toArray, List.append_toArray, List.nil_append, List.cons_append]
  gi_wp2
  have c0 := new1 w (.func (.func 60) #[] #[]) 73
  have c1 := new1 (w.alloc (.cells #[.func (.func 60) #[] #[]] 73)) (.int .i64 0) 3
  have c2 := new1 ((w.alloc (.cells #[.func (.func 60) #[] #[]] 73)).alloc (.cells #[.int .i64 0] 3)) (.bool true) 4
  simp only [World.size_alloc] at c1 c2
  have hB0 : Below w.heap.size w (((w.alloc (.cells #[.func (.func 60) #[] #[]] 73)).alloc (.cells #[.int .i64 0] 3)).alloc (.cells #[.bool true] 4)) := (((Below.refl _ w).alloc (Nat.le_refl _) _).alloc (by simp) _).alloc (by simp; omega) _
  refine wpIn_rangeFunc_ownF hro h1 (gf := 69) (lb := #[.pointer (some ⟨Bs, 0, none⟩)]) rfl h7 (enters_of Try.func69 (by kernel_rfl) rfl)
    (any_stops Fence.wide (n - 1) h7 hro (by omega) Bs w.heap.size cb co b off len cap zs hlz hreach _ (by simp; omega) (by simp; omega) (by simp; omega) hb ((hB0.cell (p := ⟨Bs, 0, none⟩) hBs).trans hc) ((hB0.cell (p := ⟨cb, co + 1, none⟩) hcb).trans hsl) (fun j hj => (hB0.cell (p := ⟨b, off + j, none⟩) hb).trans (hz j hj))) belowK_t (belowK_b (by simp; omega)) (Below.refl _ _) (fun _ => rfl)
    (fun pre W => ((W.cell? ⟨w.heap.size, 0, none⟩ = some (.func (.func 60) #[] #[]) ∧ W.frozen? ⟨w.heap.size, 0, none⟩ = false) ∧ W.cell? ⟨w.heap.size + 1, 0, none⟩ = some (.int .i64 ((lst pre).getD 0)) ∧ W.frozen? ⟨w.heap.size + 1, 0, none⟩ = false ∧ W.cell? ⟨w.heap.size + 1 + 1, 0, none⟩ = some (.bool pre.isEmpty) ∧ W.frozen? ⟨w.heap.size + 1 + 1, 0, none⟩ = false) ∧ Below w.heap.size w W)
    (fun _ _ _ => False)
    (OwnFrom.and (Own.from (fun s A B row hs hg hr => ⟨⟨cell_kept hs.1.1 hg hr, (frozen_kept hs.1.1 hg hr).trans hs.1.2⟩, cell_kept hs.2.1 hg hr, (frozen_kept hs.2.1 hg hr).trans hs.2.2.1, cell_kept hs.2.2.2.1 hg hr, (frozen_kept hs.2.2.2.1 hg hr).trans hs.2.2.2.2⟩) _) (ownFrom_below (Nat.le_refl _) (by simp; omega)))
    (fun _ _ _ _ _ hs _ _ => hs)
    ⟨⟨⟨keepc _ (keepc _ c0.1), keepf _ (keepc _ c0.1) (keepf _ c0.1 c0.2)⟩, keepc _ c1.1, keepf _ c1.1 c1.2, c2.1, c2.2⟩, hB0⟩
    (fun x => { tmps := #[.func (.func 69) #[] #[.pointer (some ⟨Bs, 0, none⟩)], .func (.func 60) #[] #[], undef, .pointer (some ⟨w.heap.size, 0, none⟩), .int .i64 0, .pointer (some ⟨w.heap.size + 1, 0, none⟩), .pointer (some ⟨w.heap.size + 1 + 1, 0, none⟩), .int .i64 x,
      .func (.func 69) #[] #[.pointer (some ⟨Bs, 0, none⟩)], .int .i64 x, undef, undef, undef, undef, undef, undef, undef, undef, undef], defers := [] }) ?assign ?body ?done ?stop
  case assign =>
    intro l x W K hK
    gi_wp2
    exact hK
  case body =>
    rintro l pre x W ⟨⟨⟨k0, f0⟩, k1, f1, k2, f2⟩, hB⟩ hlt
    rcases hp : lst pre with _ | q
    · have he : pre.isEmpty = true := by rw [← lst_some, hp]; rfl
      rw [hp, Option.getD_none] at k1
      rw [he] at k2
      gi_wp2
      refine ⟨fun _ h => (by cases h), ?_⟩
      gi_wp2
      refine ⟨(KeepsOthers.setCell _ _ _).trans (KeepsOthers.setCell _ _ _), ((Below.refl w.heap.size W).setCell (p := ⟨w.heap.size + 1, 0, none⟩) (by simp) _).setCell (p := ⟨w.heap.size + 1 + 1, 0, none⟩) (by simp; omega) _, ⟨⟨?_, ?_⟩, ?_, ?_, ?_, ?_⟩, (hB.setCell (p := ⟨w.heap.size + 1, 0, none⟩) (by simp) _).setCell (p := ⟨w.heap.size + 1 + 1, 0, none⟩) (by simp; omega) _⟩
      all_goals simp [go_sem, k0, f0, k1, k2, f1, f2, lst_snoc, hp, mn]
    · have he : pre.isEmpty = false := by rw [← lst_some, hp]; rfl
      rw [hp, Option.getD_some] at k1
      rw [he] at k2
      gi_wp2
      refine ⟨trivial, fun h => (by cases h), (CallsIn.inRound l (callsIn_wide.2 (less_all x q W))).mono ?_⟩
      rintro r w1 ⟨rfl, rfl⟩
      have HL : ls x q = true ∨ ls x q = false := by cases ls x q <;> simp
      rcases HL with hl | hl
      · rw [hl]
        gi_wp2
        refine ⟨(KeepsOthers.setCell _ _ _).trans (KeepsOthers.setCell _ _ _), ((Below.refl w.heap.size _).setCell (p := ⟨w.heap.size + 1, 0, none⟩) (by simp) _).setCell (p := ⟨w.heap.size + 1 + 1, 0, none⟩) (by simp; omega) _, ⟨⟨?_, ?_⟩, ?_, ?_, ?_, ?_⟩, (hB.setCell (p := ⟨w.heap.size + 1, 0, none⟩) (by simp) _).setCell (p := ⟨w.heap.size + 1 + 1, 0, none⟩) (by simp; omega) _⟩
        all_goals simp [go_sem, k0, f0, k1, k2, f1, f2, lst_snoc, hp, mn, hl]
      · rw [hl]
        gi_wp2
        exact ⟨KeepsOthers.refl _, Below.refl _ _, ⟨⟨k0, f0⟩, by simp [k1, lst_snoc, hp, mn, hl], f1, by simp [k2], f2⟩, hB⟩
  case done =>
    rintro D ys W hD rfl ⟨⟨⟨k0, f0⟩, k1, f1, k2, f2⟩, hB⟩ hK
    gi_wp2
    refine ⟨by simp, .inl ⟨_, _, rfl, run_takeDeferred hK, ?_⟩⟩
    exact ⟨_, results_tmp rfl _ _ _, rfl, hB.trans (belowK_b (w := w) (Nat.le_refl _) W D _ _ (by simp at hD; omega) hK rfl rfl)⟩
  case stop =>
    rintro D c pre W _ _ h _
    exact h.elim

end Go.Proofs.Ythjhbceepkoifaa.Fb
