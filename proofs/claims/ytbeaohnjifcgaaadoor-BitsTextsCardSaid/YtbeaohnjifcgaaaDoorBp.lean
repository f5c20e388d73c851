/-
  Fields of bits: the program's runs.
-/
import Derived.Test.YtbeaohnjifcgaaaDoorBo
import Derived.Test.YtbeaohnjifcgaaaDoorRq
import Derived.Sort.QuietIn
namespace Go.Proofs.YtbeaohnjifcgaaaDoor.Bh
open Go Go.RowKit Go.Shelf Go.Proofs.YtbeaohnjifcgaaaDoor.Sx Go.Proofs.YtbeaohnjifcgaaaDoor.Na Go.Proofs.YtbeaohnjifcgaaaDoor.Ba
attribute [local go_sem] Oper.semAt_some

/-- one more bit in a list of runs -/
def rstep (l : List (Nat × Nat)) (i : Nat) : List (Nat × Nat) :=
  match l.getLast? with
  | some p => if p.1 + p.2 = i then l.dropLast ++ [(p.1, p.2 + 1)] else l ++ [(i, 1)]
  | none => [(i, 1)]
/-- the runs of the first k bits -/
def rnl (β : Nat → Bool) : Nat → List (Nat × Nat)
  | 0 => []
  | k + 1 => if β k = true then rstep (rnl β k) k else rnl β k
theorem rstep_len (l : List (Nat × Nat)) (i : Nat) : (rstep l i).length ≤ l.length + 1 := by
  unfold rstep
  split
  · split
    · simp <;> omega
    · simp
  · simp
theorem rnl_len (β : Nat → Bool) (k : Nat) : (rnl β k).length ≤ k := by
  induction k with
  | zero => simp [rnl]
  | succ k ih =>
    rw [rnl]
    split
    · have := rstep_len (rnl β k) k; omega
    · omega
theorem rstep_nil (i : Nat) : rstep [] i = [] ++ [(i, 1)] := rfl
theorem rstep_snoc (l : List (Nat × Nat)) (p : Nat × Nat) (i : Nat) : rstep (l ++ [p]) i = if p.1 + p.2 = i then l ++ [(p.1, p.2 + 1)] else (l ++ [p]) ++ [(i, 1)] := by
  unfold rstep
  simp
/-- the runs lie below k -/
theorem rnl_le (β : Nat → Bool) (k : Nat) : ∀ p ∈ rnl β k, p.1 + p.2 ≤ k := by
  induction k with
  | zero => intro p h; simp [rnl] at h
  | succ k ih =>
    intro p h
    rw [rnl] at h
    split at h
    · unfold rstep at h
      split at h
      · rename_i q hq
        split at h
        · rename_i hqk
          rcases List.mem_append.1 h with h | h
          · have := ih p ((List.dropLast_sublist _).subset h); omega
          · obtain rfl : p = (q.1, q.2 + 1) := by simpa using h
            simp; omega
        · rcases List.mem_append.1 h with h | h
          · have := ih p h; omega
          · obtain rfl : p = (k, 1) := by simpa using h
            simp
      · obtain rfl : p = (k, 1) := by simpa using h
        simp
    · have := ih p h; omega
def rC (l : List (Nat × Nat)) : List Value := l.flatMap fun p => [.int .i64 (p.1 : Int), .int .i64 (p.2 : Int)]
theorem rC_len (l : List (Nat × Nat)) : (rC l).length = l.length * 2 := by
  induction l with
  | nil => rfl
  | cons p l ih => simp only [rC, List.flatMap_cons, List.length_append, List.length_cons, List.length_nil] at ih ⊢; omega
theorem rC_snoc (l : List (Nat × Nat)) (p : Nat × Nat) : rC (l ++ [p]) = rC l ++ [.int .i64 (p.1 : Int), .int .i64 (p.2 : Int)] := by simp [rC]
theorem rC_set (l : List (Nat × Nat)) (f c x : Nat) : (rC (l ++ [(f, c)])).set (l.length * 2 + 1) (.int .i64 (x : Int)) = rC (l ++ [(f, x)]) := by
  rw [rC_snoc, rC_snoc, List.set_append, if_neg (by rw [rC_len]; omega), rC_len, show l.length * 2 + 1 - l.length * 2 = 1 by omega]
  rfl
theorem rC_at0 (l : List (Nat × Nat)) (p : Nat × Nat) : (rC (l ++ [p]))[l.length * 2]? = some (.int .i64 (p.1 : Int)) := by
  rw [rC_snoc, List.getElem?_append_right (by rw [rC_len]; exact Nat.le_refl _), rC_len, Nat.sub_self]; rfl
theorem rC_at1 (l : List (Nat × Nat)) (p : Nat × Nat) : (rC (l ++ [p]))[l.length * 2 + 1]? = some (.int .i64 (p.2 : Int)) := by
  rw [rC_snoc, List.getElem?_append_right (by rw [rC_len]; omega), rC_len, show l.length * 2 + 1 - l.length * 2 = 1 by omega]; rfl

/-- a row of runs of the call's own -/
abbrev OU (W : World) (base : Nat) (v : Value) (l : List (Nat × Nat)) : Prop := W.ownsRow base 85 2 v l.length (rC l)
/-- while runs collects: the number of bits and the text lie in their boxes; the list's box holds the runs of the first k bits -/
def JR (n0 : Nat) (w : World) (bl pn ps N : Nat) (s : ByteArray) (k : Nat) (W : World) : Prop :=
  Below n0 w W ∧ Boxed W pn 3 (.int .i64 (N : Int)) ∧ Boxed W ps 9 (.string s) ∧ ∃ v, Boxed W bl 45 v ∧ OU W n0 v (rnl (bt s) k)
theorem own_boxed {β : Type} (B : Nat) (t : TypeId) (u : Value) : Own (fun (_ : β) W => Boxed W B t u) := fun _ X Y row h hg hrow =>
  h.kept hg (fun e => by obtain ⟨o, ho, hc⟩ := hrow B e.symm; rw [show X.heap[B]? = _ from h] at ho; cases ho; cases hc)
theorem own_JR {n0 : Nat} {w : World} {bl pn ps N : Nat} {s : ByteArray} {β : Type} (g : β → Nat) (hn : n0 ≤ w.heap.size) (B : Nat) (hB : n0 ≤ B) : OwnFrom B (fun x => JR n0 w bl pn ps N s (g x)) := by
  intro x W W' row ⟨h1, h2, h3, h4⟩ hg hr
  have hr2 : ∀ r, row = some r → ∃ o : Obj, W.heap[r]? = some o ∧ o.isCells = false := fun r e => (hr r e).2
  refine ⟨h1.grown hg (Nat.le_trans hn h1.size) (fun r e => Nat.le_trans hB (hr r e).1), own_boxed _ _ _ () W W' row h2 hg hr2, own_boxed _ _ _ () W W' row h3 hg hr2, ?_⟩
  obtain ⟨v, e1, e2, _⟩ := holdsRow_own n0 bl 45 85 2 (fun (_ : Unit) => (rnl (bt s) (g x)).length) (fun _ => rC (rnl (bt s) (g x))) (fun _ _ => True) () W W' row (by obtain ⟨v, e1, e2⟩ := h4; exact ⟨v, e1, e2, trivial⟩) hg hr2
  exact ⟨v, e1, e2⟩
theorem JR.grow {n0 : Nat} {w : World} {bl pn ps N : Nat} {s : ByteArray} {k : Nat} {W W' : World} (h : JR n0 w bl pn ps N s k W) (hn : n0 ≤ w.heap.size) (hg : W.grownBy W' none) : JR n0 w bl pn ps N s k W' :=
  own_JR (fun _ : Unit => k) hn n0 (Nat.le_refl _) () W W' none h hg (fun _ e => by cases e)
theorem run_info : (Tryd.prog.info? 85).map (fun i => (i.zero, i.size, i.bytes)) = some (some (.agg #[.int .i64 0, .int .i64 0]), 2, 16) := by kernel_rfl

theorem cells_two (W : World) (u v : Value) (t : TypeId) : ∀ j z, [u, v][j]? = some z → (W.alloc (.cells #[u, v] t)).cell? ((⟨W.heap.size, 0, none⟩ : Addr).add j) = some z := fun j z h => by
  have e : ((⟨W.heap.size, 0, none⟩ : Addr).add j) = ⟨W.heap.size, j, none⟩ := by simp [Addr.add] <;> omega
  rw [e]
  exact cell_at (World.alloc_heap_new W _) (by simpa using h)
theorem OU.cells_ {W : World} {base n g cap : Nat} {xs : List Value} (h : W.ownsRow base 85 2 (.slice (some ⟨g, 0, none⟩) n cap) n xs) : base ≤ g ∧ ∃ cur, W.heap[g]? = some (.cells cur 85 (0, 0)) := by
  rcases h.2 with ⟨h', _⟩ | ⟨g', cap', cur, h', hb, hg, _⟩
  · cases h'
  · cases h'; exact ⟨hb, cur, hg⟩
section
variable {w W : World} {bl N x nq L : Nat} {s : ByteArray} {l' : List (Nat × Nat)}
/-- the last run is one longer -/
theorem JR_bump {g cap f c : Nat} (hbw : bl ≤ w.heap.size) (hbe : Below bl w W) (hpn : Boxed W (bl + 1) 3 (.int .i64 (N : Int))) (hps : Boxed W (bl + 1 + 1) 9 (.string s))
    (hbox : Boxed W bl 45 (.slice (some ⟨g, 0, none⟩) (L + 1) cap)) (hown : W.ownsRow bl 85 2 (.slice (some ⟨g, 0, none⟩) (L + 1) cap) (L + 1) (rC (l' ++ [(f, c)]))) (hL : l'.length = L) (hrs : rnl (bt s) (x + 1) = l' ++ [(f, c + 1)]) :
    KeepsOthers W ((W.drewN nq).setCell ⟨g, L * 2 + 1, none⟩ (.int .i64 ((c : Int) + 1))) ∧ JR bl w bl (bl + 1) (bl + 1 + 1) N s (x + 1) ((W.drewN nq).setCell ⟨g, L * 2 + 1, none⟩ (.int .i64 ((c : Int) + 1))) := by
  have own1 := hown.kept (gb_drew W nq none) (.inr (by simp [Value.ownBlock]))
  obtain ⟨st, hg⟩ := own1.stored (L * 2 + 1) (.int .i64 ((c + 1 : Nat) : Int))
  rw [show ((c + 1 : Nat) : Int) = (c : Int) + 1 from by omega] at st hg
  have hG := gb_trans (gb_drew W nq (some g)) hg
  obtain ⟨hbg, cur, hcur⟩ := OU.cells_ hown
  have n1 : some bl ≠ some g := hbox.not_row (by decide) hown
  have n2 : some (bl + 1) ≠ some g := hpn.not_row (by decide) hown
  have n3 : some (bl + 1 + 1) ≠ some g := hps.not_row (by decide) hown
  refine ⟨KeepsOthers.of_grownBy hG (fun j o e h => by cases e; rw [hcur] at h; cases h; rfl), hbe.grown hG (Nat.le_trans hbw hbe.size) (fun k e => by cases e; exact hbg), hpn.kept hG n2, hps.kept hG n3, _, hbox.kept hG n1, ?_⟩
  unfold OU
  rw [hrs, List.length_append, hL, ← rC_set l' f c (c + 1), hL, show ((c + 1 : Nat) : Int) = (c : Int) + 1 from by omega]
  exact st
/-- one more run -/
theorem JR_push {v v' : Value} {w1 : World} {n : Nat} {tmp : Obj} (hbw : bl ≤ w.heap.size) (hbe : Below bl w W) (hpn : Boxed W (bl + 1) 3 (.int .i64 (N : Int))) (hps : Boxed W (bl + 1 + 1) 9 (.string s))
    (hbox : Boxed W bl 45 v) (hown : W.ownsRow bl 85 2 v n (rC l')) (hL : l'.length = n) (hrs : rnl (bt s) (x + 1) = l' ++ [(x, 1)])
    (hown' : w1.ownsRow bl 85 2 v' (n + 1) (rC l' ++ [.int .i64 (x : Int), .int .i64 1])) (hgrow : ((W.drewN nq).alloc tmp).grownBy w1 v.ownBlock) :
    Boxed w1 bl 45 v ∧ KeepsOthers W (w1.setCell ⟨bl, 0, none⟩ v') ∧ JR bl w bl (bl + 1) (bl + 1 + 1) N s (x + 1) (w1.setCell ⟨bl, 0, none⟩ v') := by
  have gd := gb_drew W nq none
  have own1 := hown.kept gd (by cases h : v.ownBlock <;> simp)
  have hsz : bl ≤ (W.drewN nq).heap.size := Nat.le_trans hbw (Nat.le_trans hbe.size gd.size)
  obtain ⟨b1, b2, b3, b4, b5⟩ := Boxed.appended (hbox.kept gd (by simp)) (by decide) own1 hsz (Nat.le_refl _) hown' hgrow
  have q2 : Boxed (w1.setCell ⟨bl, 0, none⟩ v') (bl + 1) 3 (.int .i64 (N : Int)) := (((hpn.kept gd (by simp)).alloc tmp).kept hgrow ((hpn.kept gd (by simp)).not_row (by decide) own1)).kept (grownBy_setCell' w1 bl v') (by simp)
  have q3 : Boxed (w1.setCell ⟨bl, 0, none⟩ v') (bl + 1 + 1) 9 (.string s) := (((hps.kept gd (by simp)).alloc tmp).kept hgrow ((hps.kept gd (by simp)).not_row (by decide) own1)).kept (grownBy_setCell' w1 bl v') (by simp; omega)
  refine ⟨b1, (keeps_none gd).trans b4, (hbe.grown gd (Nat.le_trans hbw hbe.size) (fun k e => by cases e)).trans b5, q2, q3, v', b2, ?_⟩
  unfold OU
  rw [hrs, List.length_append, hL, rC_snoc]
  exact b3
end

set_option maxRecDepth 1000000 in
set_option maxHeartbeats 4000000 in
theorem runs_any (N : Nat) (s : ByteArray) (w : World) (hN : N ≤ 8 * s.size) (hs : s.size ≤ 600) :
    Calls Tryd.prog 89 #[.int .i64 (N : Int), .string s] w fun e w' => ∃ v, e = .returned v ∧ OU w' w.heap.size v (rnl (bt s) N) ∧ Below w.heap.size w w' := by
  obtain ⟨i0, hi, hz0, hz1, hz2⟩ := info_parts run_info
  refine (callsIn_wide (n := 6)).1 ?_
  refine callsIn_of_wp_marks Tryd.func89 rfl trivial ?_ rfl
  simp only [Tryd.ntmps89, List.size_toArray, List.length_cons, List.length_nil, Nat.reduceAdd, Nat.reduceSub, Array.replicate_succ, Array.replicate_zero, List.push_toArray, List.append_toArray, List.nil_append, List.cons_append]
  gi_wp2_with fail
  refine ⟨trivial, ?_⟩
  refine (set_in _ N s _).mono ?_
  rintro e w1 ⟨rfl, rfl⟩
  gi_wp2_with fail
  obtain ⟨W0, hW0⟩ : ∃ W0, ((w.alloc (.cells #[.slice none 0 0] 45)).alloc (.cells #[.int .i64 (N : Int)] 3)).alloc (.cells #[.string s] 9) = W0 := ⟨_, rfl⟩
  have hsz : W0.heap.size = w.heap.size + 3 := by rw [← hW0]; simp
  have hJ0 : JR w.heap.size w w.heap.size (w.heap.size + 1) (w.heap.size + 1 + 1) N s 0 W0 := by
    rw [← hW0]
    have s1 : (w.alloc (.cells #[.slice none 0 0] 45)).heap.size = w.heap.size + 1 := by simp
    have s2 : ((w.alloc (.cells #[.slice none 0 0] 45)).alloc (.cells #[.int .i64 (N : Int)] 3)).heap.size = w.heap.size + 1 + 1 := by simp
    refine ⟨((((Below.refl _ _).alloc (Nat.le_refl _) _).alloc (by simp) _).alloc (by simp; omega) _), Boxed.alloc (by rw [← s1]; exact Boxed.new _ _ _) _, by rw [← s2]; exact Boxed.new _ _ _, .slice none 0 0, ((Boxed.new w _ _).alloc _).alloc _, ?_⟩
    exact ⟨rfl, .inl ⟨rfl, rfl⟩⟩
  rw [hW0]
  have HW0 := Lib.hid hW0
  clear hW0
  obtain ⟨bl, hbl⟩ : ∃ bl, w.heap.size = bl := ⟨_, rfl⟩
  have HBL := Lib.hid hbl
  rw [hbl] at hJ0 hsz ⊢
  clear hbl
  have hbw : bl ≤ w.heap.size := by rw [HBL.out]; exact Nat.le_refl _
  have HBW := Lib.hid hbw
  clear hbw
  apply Rf.range_fn (F := Fence.wide) (n := 6) rfl (by omega) (gf := 106) (lb := #[.pointer (some ⟨bl + 1, 0, none⟩), .pointer (some ⟨bl + 1 + 1, 0, none⟩)]) rfl trivial (enters_of Tryd.func106 (by kernel_rfl) rfl)
    (fun x : Nat => #[.int .i64 (x : Int)]) (fun _ => rfl)
    (JR bl w bl (bl + 1) (bl + 1 + 1) N s 0) (fun x W => x < N ∧ bt s x = true ∧ JR bl w bl (bl + 1) (bl + 1 + 1) N s x W) (fun x => JR bl w bl (bl + 1) (bl + 1 + 1) N s (x + 1)) (fun _ _ => False) (fun _ _ => False) (JR bl w bl (bl + 1) (bl + 1 + 1) N s N)
    (own_JR (fun _ : Unit => 0) HBW.out _ (by omega)) (fun x W W' row ⟨h1, h2, h3⟩ hg hr => ⟨h1, h2, own_JR (fun _ : Unit => x) HBW.out _ (by omega) () W W' row h3 hg hr⟩) (own_JR (fun x : Nat => x + 1) HBW.out _ (by omega)) (fun _ _ _ _ h _ _ => h) (fun _ _ _ _ h _ _ => h) (own_JR (fun _ : Unit => N) HBW.out _ (by omega))
  case h0 => exact hJ0
  case a₁ => exact fun x => { tmps := List.toArray (.int .i64 (N : Int) :: .string s :: undef :: undef :: .slice none 0 0 :: .pointer (some ⟨bl, 0, none⟩) :: .int .i64 (x : Int) :: undef :: .int .i64 (N : Int) :: .string s :: .func (.func 106) #[] #[.pointer (some ⟨bl + 1, 0, none⟩), .pointer (some ⟨bl + 1 + 1, 0, none⟩)] :: .int .i64 (x : Int) :: undef :: undef :: undef :: undef :: undef :: undef :: undef :: undef :: undef :: undef :: undef :: undef :: undef :: undef :: undef :: undef :: undef :: undef :: undef :: undef :: undef :: undef :: undef :: undef :: undef :: undef :: undef :: undef :: undef :: undef :: undef :: undef :: undef :: undef :: []), defers := [] }
  case hassign =>
    intro lp x W K hK
    rw [Rf.zip1]
    change Code.wpIn _ _ _ _ _ { tmps := List.toArray (.int .i64 (N : Int) :: .string s :: undef :: undef :: .slice none 0 0 :: .pointer (some ⟨bl, 0, none⟩) :: undef :: undef :: .int .i64 (N : Int) :: .string s :: .func (.func 106) #[] #[.pointer (some ⟨bl + 1, 0, none⟩), .pointer (some ⟨bl + 1 + 1, 0, none⟩)] :: .int .i64 (x : Int) :: undef :: undef :: undef :: undef :: undef :: undef :: undef :: undef :: undef :: undef :: undef :: undef :: undef :: undef :: undef :: undef :: undef :: undef :: undef :: undef :: undef :: undef :: undef :: undef :: undef :: undef :: undef :: undef :: undef :: undef :: undef :: undef :: undef :: undef :: []), defers := [] } W
    gi_wp2
    exact hK
  case hbody =>
    rintro lp x W ⟨hxN, hbx, hj⟩
    obtain ⟨hbe, hpn, hps, v, hbox, hou⟩ := hj
    have hlen := rnl_len (bt s) x
    have hrs : rnl (bt s) (x + 1) = rstep (rnl (bt s) x) x := by rw [rnl, if_pos hbx]
    have cb := hbox.cell
    have fb := hbox.frozen
    have HBE := Lib.hid hbe
    have HPN := Lib.hid hpn
    have HPS := Lib.hid hps
    have HBX := Lib.hid hbox
    have hWb : bl ≤ W.heap.size := Nat.le_trans HBW.out hbe.size
    clear hJ0 hsz hbe hpn hps hbox hbx HW0
    have hx5 : x < 5000 := by omega
    rcases List.eq_nil_or_concat (rnl (bt s) x) with hnil | ⟨l', p, hcat⟩
    · rw [hnil] at hrs hou
      rw [rstep_nil] at hrs
      obtain ⟨a, cap, rfl⟩ : ∃ a cap, v = .slice a 0 cap := by
        rcases hou.2 with ⟨rfl, _⟩ | ⟨g, cap, _, rfl, _⟩
        · exact ⟨none, 0, rfl⟩
        · exact ⟨_, cap, rfl⟩
      have HOU : Hid (W.ownsRow bl 85 2 (.slice a 0 cap) 0 (rC [])) := Lib.hid hou
      have HRS := Lib.hid hrs
      have HL : Hid (([] : List (Nat × Nat)).length = 0) := Lib.hid rfl
      clear hou hrs hnil hlen
      have dL : decide ((0 : Int) ≤ -1) = false := by decide
      have HX0 := Lib.hid (fun nq => HOU.out.kept (gb_drew W nq none) (by cases h : (Value.slice a 0 cap).ownBlock <;> simp))
      gi_wp2_with fail
      refine Rq.region (F := Fence.wide) (lp := lp) rfl (by kernel_rfl) (by kernel_rfl) (by kernel_rfl) ?_
      repeat (gi_big_quiet_step (fail))
      refine wpQuietIn_nil ?_
      intro _ hw'
      obtain ⟨nq, rfl⟩ := hw'
      have hown1 := World.ownsRow.alloc (HX0.out nq) (.cells #[.int .i64 (x : Int), .int .i64 1] 85)
      have hs1 : bl ≤ ((W.drewN nq).alloc (.cells #[.int .i64 (x : Int), .int .i64 1] 85)).heap.size := by simp; omega
      gi_wp2_with (gi_at_builtin; refine wpListIn_append_own _ rfl _ _ 45 rfl bl 85 i0 (.agg #[.int .i64 0, .int .i64 0]) 2 16 Tryd.underlying45 hi hz0 hz1 hz2 rfl (by decide) _ _ _ rfl hown1 ⟨(W.drewN nq).heap.size, 0, none⟩ 1 1 [.int .i64 (x : Int), .int .i64 1] rfl rfl (cells_two _ _ _ _) (by simp [Value.oneCell']) (by unfold maxLen; omega) (by omega) hs1 ?_; intro v' w2 hown' hgrow _; obtain ⟨jb, jk, jr⟩ := JR_push HBW.out HBE.out HPN.out HPS.out HBX.out HOU.out HL.out HRS.out hown' hgrow; have cb1 := jb.cell; have fb1 := jb.frozen; have HJK := Lib.hid jk; have HJR := Lib.hid jr; obtain ⟨g', cap', rfl⟩ := ownsRow_succ hown'; clear jb jk jr hown' hgrow)
      exact ⟨HJK.out, HJR.out⟩
    · obtain ⟨f, c⟩ := p
      have hle := rnl_le (bt s) x (f, c) (by rw [hcat]; simp)
      rw [List.concat_eq_append] at hcat
      rw [hcat] at hrs hou hlen
      rw [rstep_snoc] at hrs
      have hlen' : l'.length + 1 ≤ x := by simpa using hlen
      simp only [] at hle hrs
      have hou' : W.ownsRow bl 85 2 v (l'.length + 1) (rC (l' ++ [(f, c)])) := by have := hou; unfold OU at this; rwa [List.length_append] at this
      obtain ⟨L, hL⟩ : ∃ L, l'.length = L := ⟨_, rfl⟩
      rw [hL] at hou' hlen'
      obtain ⟨g, cap, rfl⟩ := ownsRow_succ hou'
      have k0 : W.cell? ⟨g, L * 2, none⟩ = some (.int .i64 (f : Int)) := (hou'.cellAt (L * 2) (by omega)).trans (by rw [← hL]; exact rC_at0 l' (f, c))
      have k1 : W.cell? ⟨g, L * 2 + 1, none⟩ = some (.int .i64 (c : Int)) := (hou'.cellAt (L * 2 + 1) (by omega)).trans (by rw [← hL]; exact rC_at1 l' (f, c))
      have kf := hou'.frozenAt (L * 2 + 1)
      have HOU := Lib.hid hou'
      have HL := Lib.hid hL
      have dL : decide ((0 : Int) ≤ (L : Int)) = true := by simp
      clear hou hou' hlen hL hcat
      by_cases he : f + c = x
      · rw [if_pos he] at hrs
        have d1 : ((f : Int) + (c : Int) == (x : Int)) = true := by rw [beq_iff_eq]; omega
        have HRS := Lib.hid hrs
        clear hrs he
        gi_wp2_with fail
        refine Rq.region (F := Fence.wide) (lp := lp) rfl (by kernel_rfl) (by kernel_rfl) (by kernel_rfl) ?_
        repeat (gi_big_quiet_step (fail))
        refine wpQuietIn_nil ?_
        intro _ hw'
        obtain ⟨nq, rfl⟩ := hw'
        gi_wp2_with fail
        exact JR_bump HBW.out HBE.out HPN.out HPS.out HBX.out HOU.out HL.out HRS.out
      · rw [if_neg he] at hrs
        have d1 : ((f : Int) + (c : Int) == (x : Int)) = false := by rw [beq_eq_false_iff_ne]; omega
        have HRS := Lib.hid hrs
        have HL := Lib.hid (show (l' ++ [(f, c)]).length = L + 1 from by rw [List.length_append, HL.out]; rfl)
        clear hrs he
        have HX0 := Lib.hid (fun nq => HOU.out.kept (gb_drew W nq none) (.inr (by simp [Value.ownBlock])))
        gi_wp2_with fail
        refine Rq.region (F := Fence.wide) (lp := lp) rfl (by kernel_rfl) (by kernel_rfl) (by kernel_rfl) ?_
        repeat (gi_big_quiet_step (fail))
        refine wpQuietIn_nil ?_
        intro _ hw'
        obtain ⟨nq, rfl⟩ := hw'
        have hown1 := World.ownsRow.alloc (HX0.out nq) (.cells #[.int .i64 (x : Int), .int .i64 1] 85)
        have hs1 : bl ≤ ((W.drewN nq).alloc (.cells #[.int .i64 (x : Int), .int .i64 1] 85)).heap.size := by simp; omega
        gi_wp2_with (gi_at_builtin; refine wpListIn_append_own _ rfl _ _ 45 rfl bl 85 i0 (.agg #[.int .i64 0, .int .i64 0]) 2 16 Tryd.underlying45 hi hz0 hz1 hz2 rfl (by decide) _ _ _ rfl hown1 ⟨(W.drewN nq).heap.size, 0, none⟩ 1 1 [.int .i64 (x : Int), .int .i64 1] rfl rfl (cells_two _ _ _ _) (by simp [Value.oneCell']) (by unfold maxLen; omega) (by omega) hs1 ?_; intro v' w2 hown' hgrow _; obtain ⟨jb, jk, jr⟩ := JR_push HBW.out HBE.out HPN.out HPS.out HBX.out HOU.out HL.out HRS.out hown' hgrow; have cb1 := jb.cell; have fb1 := jb.frozen; have HJK := Lib.hid jk; have HJR := Lib.hid jr; obtain ⟨g', cap', rfl⟩ := ownsRow_succ hown'; clear jb jk jr hown' hgrow)
        exact ⟨HJK.out, HJR.out⟩
  case hit =>
    intro lp B Bx hB hBx hY W hJ hBW _
    exact (set1_in (6 - 1) lp (bl + 1) (bl + 1 + 1) N s (by omega) hN hs (JR bl w bl (bl + 1) (bl + 1 + 1) N s) (fun _ _ => False) Bx B
      (fun i W h => ⟨h.2.1.cell, h.2.2.1.cell⟩) (fun i W W' h hg => h.grow HBW.out hg) (fun i W _ hb ⟨h1, h2, h3, v, h4, h5⟩ => ⟨h1, h2, h3, v, h4, by rw [rnl, if_neg (by rw [hb]; decide)]; exact h5⟩) hB hY W hJ hBW)
  case hdone =>
    rintro D W hD ⟨hbe, hpn, hps, v, hbox, hou⟩ hK
    have cb := hbox.cell
    have HBE := Lib.hid hbe
    have HOU := Lib.hid hou
    have HK := Lib.hid hK
    have hDb : bl ≤ D := by omega
    clear hbe hpn hps hou hK hbox hJ0 hsz HW0
    gi_wp2_with fail
    refine ⟨by simp, .inl ⟨_, _, rfl, run_takeDeferred HK.out, ?_⟩⟩
    refine ⟨v, ?_, v, rfl, ?_, ?_⟩
    · simp [results, Tryd.results89, go_sem]
    · rw [HBL.out]; exact ownsRow_putObj HOU.out _ HK.out rfl
    · rw [HBL.out]; exact HBE.out.grown (grownBy_putObj' W D _) (Nat.le_trans HBW.out HBE.out.size) (fun k e => by cases e; exact hDb)
  case hstop =>
    intro D c W hD h
    exact h.elim
end Go.Proofs.YtbeaohnjifcgaaaDoor.Bh
