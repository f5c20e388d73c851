/-
  The reference's control in memory; right, Less, smallest.
-/
import Derived.Test.YthjhbceepkoifaaFq
import Derived.Test.YthjhbceepkoifaaOr
namespace Go.Proofs.Ythjhbceepkoifaa.Fr
open Go Go.RowKit Go.Proofs.Ythjhbceepkoifaa.Ec Go.Proofs.Ythjhbceepkoifaa.Ee Go.Proofs.Ythjhbceepkoifaa.Rg Go.Proofs.Ythjhbceepkoifaa.Fa Go.Proofs.Ythjhbceepkoifaa.Fb Go.Proofs.Ythjhbceepkoifaa.Fc Go.Proofs.Ythjhbceepkoifaa.Fd Go.Proofs.Ythjhbceepkoifaa.Fe Go.Proofs.Ythjhbceepkoifaa.Fg Go.Proofs.Ythjhbceepkoifaa.Fh Go.Proofs.Ythjhbceepkoifaa.Fi Go.Proofs.Ythjhbceepkoifaa.Fj Go.Proofs.Ythjhbceepkoifaa.Fk Go.Proofs.Ythjhbceepkoifaa.Fl Go.Proofs.Ythjhbceepkoifaa.Fq Go.Proofs.Ythjhbceepkoifaa.Or Go.Proofs.Ythjhbceepkoifaa.Rw

/-- block c is the reference's control -/
def Rt (W : World) (c : Nat) (at' : Int) (ev : Bool) (target limit now : Int) (al : Value) : Prop :=
  W.heap[c]? = some (.cells #[.int .i64 at', .bool ev, .int .i64 target, .int .i64 limit, .int .i64 now, al] 63 (0, 0))
section
variable {W : World} {c : Nat} {at' target limit now : Int} {ev : Bool} {al : Value}
theorem Rt.lt (h : Rt W c at' ev target limit now al) : c < W.heap.size := (Array.getElem?_eq_some_iff.1 h).1
theorem Rt.c0 (h : Rt W c at' ev target limit now al) : W.cell? ⟨c, 0, none⟩ = some (.int .i64 at') := by simp [World.cell?, show W.heap[c]? = _ from h]
theorem Rt.c1 (h : Rt W c at' ev target limit now al) : W.cell? ⟨c, 1, none⟩ = some (.bool ev) := by simp [World.cell?, show W.heap[c]? = _ from h]
theorem Rt.c2 (h : Rt W c at' ev target limit now al) : W.cell? ⟨c, 2, none⟩ = some (.int .i64 target) := by simp [World.cell?, show W.heap[c]? = _ from h]
theorem Rt.c3 (h : Rt W c at' ev target limit now al) : W.cell? ⟨c, 3, none⟩ = some (.int .i64 limit) := by simp [World.cell?, show W.heap[c]? = _ from h]
theorem Rt.c4 (h : Rt W c at' ev target limit now al) : W.cell? ⟨c, 4, none⟩ = some (.int .i64 now) := by simp [World.cell?, show W.heap[c]? = _ from h]
theorem Rt.c5 (h : Rt W c at' ev target limit now al) : W.cell? ⟨c, 5, none⟩ = some al := by simp [World.cell?, show W.heap[c]? = _ from h]
theorem Rt.fz (h : Rt W c at' ev target limit now al) (i : Nat) : W.frozen? ⟨c, i, none⟩ = false := by simp [World.frozen?, show W.heap[c]? = _ from h]
theorem Rt.kept {W' : World} {row : Option Nat} (h : Rt W c at' ev target limit now al) (hg : W.grownBy W' row) (hne : some c ≠ row) : Rt W' c at' ev target limit now al := (hg.block c h.lt hne).trans h
theorem Rt.kb {W' : World} {may : Nat → Prop} (h : Rt W c at' ev target limit now al) (hg : Kb W W' may) (hne : ¬ may c) : Rt W' c at' ev target limit now al := (hg.block c h.lt hne).trans h
theorem Rt.set0 (h : Rt W c at' ev target limit now al) (x : Int) : Rt (W.setCell ⟨c, 0, none⟩ (.int .i64 x)) c x ev target limit now al := heap_setCell_same W c 0 _ _ (.int .i64 x) h
theorem Rt.set1 (h : Rt W c at' ev target limit now al) (x : Bool) : Rt (W.setCell ⟨c, 1, none⟩ (.bool x)) c at' x target limit now al := heap_setCell_same W c 1 _ _ (.bool x) h
theorem Rt.set3 (h : Rt W c at' ev target limit now al) (x : Int) : Rt (W.setCell ⟨c, 3, none⟩ (.int .i64 x)) c at' ev target x now al := heap_setCell_same W c 3 _ _ (.int .i64 x) h
theorem Rt.set4 (h : Rt W c at' ev target limit now al) (x : Int) : Rt (W.setCell ⟨c, 4, none⟩ (.int .i64 x)) c at' ev target limit x al := heap_setCell_same W c 4 _ _ (.int .i64 x) h
theorem Rt.set5 (h : Rt W c at' ev target limit now al) (x : Value) : Rt (W.setCell ⟨c, 5, none⟩ x) c at' ev target limit now x := heap_setCell_same W c 5 _ _ x h
end

/-- the value of no slice -/
abbrev nl : Value := .slice none 0 0
/-- block c is the reference's control with all these samples -/
structure Ra (w : World) (c : Nat) (s : St) (all : List (Int × Int)) (al : Value) : Prop where
  ctl : Rt w c s.at' s.hv s.target s.limit s.now al
  row : Row w 2 al all.length (bcs all)
  oc : al.ownBlock ≠ some c
/-- what holds of the samples -/
structure Lk (s : St) (all : List (Int × Int)) : Prop where
  ord : Ordd all
  bs : s.bs = bsOf all
  zs : s.zs = l4 all
  nw : ∀ q, all.getLast? = some q → q.1 ≤ s.now
  tm : ∀ p ∈ all, p.1 ≤ 1000000000
  dl : ∀ p ∈ all, 0 ≤ p.2 ∧ p.2 < 4294967296

section
variable {w w' : World} {c : Nat} {s : St} {all : List (Int × Int)} {al : Value}
theorem Ra.kb {may : Nat → Prop} (h : Ra w c s all al) (k : Kb w w' may) (hn : ∀ i, Bl c al nl i → ¬ may i) : Ra w' c s all al :=
  ⟨h.ctl.kb k (hn c (.inl rfl)), row_kb h.row k (fun i e => hn i (.inr (.inl e))), h.oc⟩
theorem Ra.quiet (h : Ra w c s all al) (hg : w.grownBy w' none) : Ra w' c s all al := h.kb (Kb.of hg (may := fun _ => False) (by simp)) (fun _ _ h => h)
theorem Ra.ctl' {s' : St} (h : Ra w c s all al) (hC : Rt w' c s'.at' s'.hv s'.target s'.limit s'.now al) (hg : w.grownBy w' (some c)) : Ra w' c s' all al :=
  ⟨hC, h.row.kept hg (fun k e e2 => h.oc (by rw [e, ← Option.some.inj e2])), h.oc⟩
theorem Ra.lt (h : Ra w c s all al) (i : Nat) (hi : Bl c al nl i) : i < w.heap.size := by
  rcases hi with rfl | h1 | h1
  · exact h.ctl.lt
  · exact row_lt h.row i h1
  · cases h1
end

set_option maxHeartbeats 400000 in
theorem right_any (n a b : Int) (w : World) : Calls Try.prog 52 #[.int .i64 n, .int .i64 a, .int .i64 b] w fun e w' => e = .returned (.bool (wn n a b)) ∧ w = w' := by
  unfold wn
  by_cases h1 : a ≤ n
  · go_enter Try.func52, Try.ntmps52
    go_wp2
    all_goals
      go_ret
      exact ⟨by simp [h1], rfl⟩
  · go_enter Try.func52, Try.ntmps52
    go_wp2
    go_ret
    exact ⟨by simp; omega, rfl⟩
theorem turn (a b : Int) (h1 : 0 ≤ a) (h2 : a < 4294967296) (h3 : 0 ≤ b) (h4 : b < 4294967296) : ((b - a).tmod 4294967296 + 4294967296).tmod 4294967296 = (b - a) % 4294967296 := by
  by_cases h : 0 ≤ b - a
  · rw [Int.tmod_eq_emod_of_nonneg h, Int.tmod_eq_emod_of_nonneg (by omega)]; omega
  · have e : (b - a).tmod 4294967296 = -((a - b) % 4294967296) := by
      rw [show b - a = -(a - b) by omega, Int.neg_tmod, Int.tmod_eq_emod_of_nonneg (by omega)]
    rw [e, Int.tmod_eq_emod_of_nonneg (by omega)]; omega
set_option maxHeartbeats 800000 in
theorem Less_any (a b : Int) (w : World) (h1 : 0 ≤ a) (h2 : a < 4294967296) (h3 : 0 ≤ b) (h4 : b < 4294967296) : Calls Try.prog 67 #[.int .i64 a, .int .i64 b] w fun e w' => e = .returned (.bool (ls a b)) ∧ w = w' := by
  have ht := turn a b h1 h2 h3 h4
  have hl : ls a b = (decide (1 ≤ (b - a) % 4294967296) && decide ((b - a) % 4294967296 < 2147483648)) := by unfold ls; congr 1; simp; omega
  rw [hl]
  generalize (b - a) % 4294967296 = d at ht ⊢
  have hb : -4294967296 < (b - a).tmod 4294967296 ∧ (b - a).tmod 4294967296 < 4294967296 := ⟨Int.lt_tmod_of_pos _ (by decide), Int.tmod_lt_of_pos _ (by decide)⟩
  obtain ⟨hb1, hb2⟩ := hb
  by_cases hd : 1 ≤ d
  · by_cases hd2 : d < 2147483648
    · go_enter Try.func67, Try.ntmps67
      go_wp2
      all_goals
        go_ret
        exact ⟨by simp [hd, hd2], rfl⟩
    · go_enter Try.func67, Try.ntmps67
      go_wp2
      all_goals
        go_ret
        exact ⟨by simp [hd2], rfl⟩
  · go_enter Try.func67, Try.ntmps67
    go_wp2
    all_goals
      go_ret
      exact ⟨by simp; omega, rfl⟩

theorem row2 {w : World} {base : Nat} {v : Value} {zs : List Int} (h : OR w base v zs) (hw : ∀ z ∈ zs, (Lit.int .i64 z).wf = true) : ∃ a cap, v = .slice a zs.length cap ∧ IntRow .i64 w a zs.length cap zs ∧ zs.length ≤ cap := by
  obtain ⟨h1, ⟨rfl, h2⟩ | ⟨g, cap, cur, rfl, hb, hh, hn, hc, hz, ht⟩⟩ := h
  · rw [h2]
    exact ⟨none, 0, rfl, ⟨by rw [h2], by unfold maxLen; omega, hw, fun h => absurd h (by omega)⟩, Nat.le_refl _⟩
  · refine ⟨_, cap, rfl, ⟨rfl, by omega, hw, fun h0 => ⟨g, 0, rfl, (Array.getElem?_eq_some_iff.1 hh).1, fun i hi => ?_⟩⟩, hn⟩
    rw [Nat.zero_add, cell_of_row _ _ _ _ _ _ hh]
    have e : cur.toList[i]? = (cI zs)[i]? := by rw [← ht, List.getElem?_take_of_lt (by omega)]
    rw [← Array.getElem?_toList, e]
    simp [cI, List.getD, hi]
theorem lst_tk (zs : List Int) (k : Nat) (hk : k < zs.length) : lst (zs.take (k + 1)) = mn (lst (zs.take k)) (zs.getD k 0) := by
  rw [List.take_succ_eq_append_getElem hk, lst_snoc]
  simp [List.getD, hk]
theorem lst_in (zs : List Int) (hz : ∀ z ∈ zs, 0 ≤ z ∧ z < 4294967296) : ∀ x, lst zs = some x → 0 ≤ x ∧ x < 4294967296 := by
  have h : ∀ (zs : List Int) (o : Option Int), (∀ z ∈ zs, 0 ≤ z ∧ z < 4294967296) → (∀ x, o = some x → 0 ≤ x ∧ x < 4294967296) → ∀ x, zs.foldl mn o = some x → 0 ≤ x ∧ x < 4294967296 := by
    intro zs
    induction zs with
    | nil => intro o _ ho; exact ho
    | cons z r ih =>
      intro o hz ho
      refine ih (mn o z) (fun y hy => hz y (by simp [hy])) ?_
      intro x hx
      cases o with
      | none => simp [mn] at hx; rw [← hx]; exact hz z (by simp)
      | some b =>
        simp [mn] at hx
        split at hx
        · rw [← hx]; exact hz z (by simp)
        · rw [← hx]; exact ho b rfl
  exact h zs none hz (by simp)

set_option maxHeartbeats 1600000 in
theorem smallest_any (a : Option Addr) (n cap : Nat) (zs : List Int) (w : World) (hr : IntRow .i64 w a n cap zs) (hcap : n ≤ cap) (hne : 0 < n) (hz : ∀ z ∈ zs, 0 ≤ z ∧ z < 4294967296) :
    Calls Try.prog 56 #[.slice a n cap] w fun e w' => e = .returned (.int .i64 ((lst zs).getD 0)) ∧ w = w' := by
  obtain ⟨h1, h2, h3, h4⟩ := hr
  obtain ⟨b, off, rfl, hb, hcell⟩ := h4 hne
  unfold maxLen at h2
  have c0 := hcell 0 hne
  rw [Nat.add_zero] at c0
  have HC := Lib.hid hcell
  have HN := Lib.hid h1
  have HZ := Lib.hid hz
  have HIN := Lib.hid (fun k => lst_in (zs.take k) (fun z h => hz z (List.mem_of_mem_take h)))
  have hl1 : lst (zs.take 1) = some (zs.getD 0 0) := by
    have := lst_tk zs 0 (by omega)
    rw [List.take_zero] at this; exact this
  have HL1 := Lib.hid hl1
  clear hcell h4 h3 h1 hz hl1
  obtain ⟨z0, hz0⟩ : ∃ z0, zs.getD 0 0 = z0 := ⟨_, rfl⟩
  rw [hz0] at c0 HL1
  clear hz0
  obtain ⟨n', rfl⟩ : ∃ n', n = n' + 1 := ⟨n - 1, by omega⟩
  by_cases hc1 : cap = 1
  · obtain rfl : n' = 0 := by omega
    subst hc1
    go_enter Try.func56, Try.ntmps56
    go_wp2_with fail
    refine wp_loop_rounds 1 ?_
    rw [rounds_succ]
    go_wp2
    go_ret
    refine ⟨?_, rfl⟩
    rw [← List.take_of_length_le (show zs.length ≤ 1 by rw [HN.out]; exact Nat.le_refl _), HL1.out]; rfl
  · go_enter Try.func56, Try.ntmps56
    go_wp2_with fail
    go_loopw [3, 5, 12] (fun o _ i wr => ∃ (k : Nat) (x : Int), k ≤ n' ∧ i = .int .i64 k ∧ o = .int .i64 x ∧ lst (zs.take (k + 1)) = some x ∧ wr = w) (fun _ _ i _ => n' - (intOf i).toNat)
    case atStart => exact ⟨0, z0, Nat.zero_le _, rfl, rfl, HL1.out, rfl⟩
    case round =>
      obtain ⟨k, x, hk, rfl, rfl, hx, rfl⟩ := hrel
      have HX := Lib.hid hx
      obtain ⟨x1, x2⟩ := HIN.out _ x hx
      clear hx
      by_cases hlt : k < n'
      · have c1 := HC.out (k + 1) (by omega)
        rw [show off + (k + 1) = off + 1 + k by omega] at c1
        have hzk := HZ.out (zs.getD (k + 1) 0) (by simp [List.getD, show k + 1 < zs.length by rw [HN.out]; omega])
        have hstep := lst_tk zs (k + 1) (by rw [HN.out]; omega)
        generalize zs.getD (k + 1) 0 = z at c1 hzk hstep
        obtain ⟨z1, z2⟩ := hzk
        rw [HX.out] at hstep
        have HS := Lib.hid hstep
        clear hstep
        have HA := Lib.hid (Less_any z x wr z1 z2 x1 x2)
        have hcs : (ls z x = true ∧ lst (zs.take (k + 1 + 1)) = some z) ∨ (ls z x = false ∧ lst (zs.take (k + 1 + 1)) = some x) := by
          rw [HS.out]; cases h : ls z x <;> simp [mn, h]
        rcases hcs with ⟨hl, hs⟩ | ⟨hl, hs⟩
        all_goals
          rw [hl] at HA
          have HS2 := Lib.hid hs
          clear hl hs HS
          go_wp2_with fail
          refine HA.out.mono ?_
          rintro e w1 ⟨rfl, rfl⟩
          go_wp2_with fail
          exact ⟨⟨k + 1, _, by omega, by go_num, rfl, HS2.out, trivial⟩, by simp [intOf]; omega⟩
      · obtain rfl : k = n' := by omega
        go_wp2
        go_ret
        refine ⟨?_, rfl⟩
        have := HX.out
        rw [List.take_of_length_le (show zs.length ≤ k + 1 by rw [HN.out]; exact Nat.le_refl _)] at this
        rw [this]; rfl
end Go.Proofs.Ythjhbceepkoifaa.Fr
