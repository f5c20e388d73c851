/-
  Control.put at any fill.
-/
import Derived.Test.YthjhbceepkoifaaFe
namespace Go.Proofs.Ythjhbceepkoifaa.Fg
open Go Go.RowKit Go.Proofs.Ythjhbceepkoifaa.Ec Go.Proofs.Ythjhbceepkoifaa.Ee Go.Proofs.Ythjhbceepkoifaa.Rg Go.Proofs.Ythjhbceepkoifaa.Fa Go.Proofs.Ythjhbceepkoifaa.Fb Go.Proofs.Ythjhbceepkoifaa.Fc Go.Proofs.Ythjhbceepkoifaa.Fd Go.Proofs.Ythjhbceepkoifaa.Fe

theorem row_kb {w w' : World} {size : Nat} {v : Value} {n : Nat} {xs : List Value} {may : Nat → Prop} (h : Row w size v n xs) (hg : Kb w w' may) (hr : ∀ k, v.ownBlock = some k → ¬ may k) : Row w' size v n xs := by
  refine ⟨h.len, h.val.imp id ?_⟩
  rintro ⟨g, off, cap, rfl, h1, h2, h3, h4, h5, h6⟩
  have hb : w'.heap[g]? = w.heap[g]? := hg.block g h3 (hr g rfl)
  exact ⟨g, off, cap, rfl, h1, h2, Nat.lt_of_lt_of_le h3 hg.size, fun j u hj => (World.cell?_of_block (a := ⟨g, off + j, none⟩) hb).trans (h4 j u hj),
    fun j hj => ⟨by rw [World.cell?_of_block (a := ⟨g, off + n * size + j, none⟩) hb]; exact (h5 j hj).1, (World.frozen?_of_block (a := ⟨g, off + n * size + j, none⟩) hb).trans (h5 j hj).2⟩, fun o => (World.frozen?_of_block (a := ⟨g, o, none⟩) hb).trans (h6 o)⟩
theorem row_lt {w : World} {size : Nat} {v : Value} {n : Nat} {xs : List Value} (h : Row w size v n xs) (k : Nat) (hk : v.ownBlock = some k) : k < w.heap.size := by
  rcases h.val with ⟨rfl, _⟩ | ⟨g, off, cap, rfl, _, _, h3, _⟩
  · cases hk
  · have : g = k := by simpa [Value.ownBlock] using hk
    omega
theorem row_empty {w : World} {size : Nat} {v : Value} {xs : List Value} (h : Row w size v 0 xs) : ∃ a cap, v = .slice a 0 cap := by
  rcases h.val with ⟨rfl, _⟩ | ⟨g, off, cap, rfl, _⟩
  · exact ⟨_, _, rfl⟩
  · exact ⟨_, _, rfl⟩
theorem ctl_kb {W W' : World} {c : Nat} {now : Int} {hv : Bool} {at' target limit : Int} {ml fl : Value} {may : Nat → Prop} (h : Ctl W c now hv at' target limit ml fl) (hg : Kb W W' may) (hne : ¬ may c) : Ctl W' c now hv at' target limit ml fl := (hg.block c h.lt hne).trans h

/-- the blocks of a control -/
def Bl (c : Nat) (ml fl : Value) (i : Nat) : Prop := i = c ∨ ml.ownBlock = some i ∨ fl.ownBlock = some i

/-- bases of minutes that are too old go -/
def drp (m : Int) (bs : List (Int × Int)) : List (Int × Int) := bs.dropWhile fun b => decide (b.1 < m - 9)
theorem drp_old (m : Int) (b : Int × Int) (r : List (Int × Int)) (h : b.1 < m - 9) : drp m (b :: r) = drp m r := by simp [drp, List.dropWhile, h]
theorem drp_new (m : Int) (b : Int × Int) (r : List (Int × Int)) (h : ¬ b.1 < m - 9) : drp m (b :: r) = b :: r := by simp [drp, List.dropWhile, h]
theorem drp_len (m : Int) : ∀ bs : List (Int × Int), (drp m bs).length ≤ bs.length
  | [] => Nat.le_refl _
  | b :: r => by
    by_cases h : b.1 < m - 9
    · rw [drp_old m b r h]; have := drp_len m r; simp; omega
    · rw [drp_new m b r h]; exact Nat.le_refl _
/-- the bases behind a delay -/
def cpt (m d : Int) (bs : List (Int × Int)) : List (Int × Int) :=
  match (drp m bs).getLast? with
  | none => trim 10 (drp m bs ++ [(m, d)])
  | some q => if q.1 < m then trim 10 (drp m bs ++ [(m, d)]) else if ls d q.2 then (drp m bs).dropLast ++ [(q.1, d)] else drp m bs
theorem trim_len {α : Type} (l : List α) (x : α) (k : Nat) (h : l.length ≤ k) : (trim k (l ++ [x])).length ≤ k := by
  unfold trim; split
  · assumption
  · simp; omega
theorem trim_ne {α : Type} (l : List α) (x : α) (k : Nat) (h : 1 ≤ k) : trim k (l ++ [x]) ≠ [] := by
  intro e
  have e2 := congrArg List.length e
  unfold trim at e2
  split at e2
  · simp at e2
  · rename_i h2
    simp only [List.length_drop, List.length_append, List.length_singleton, List.length_nil] at e2 h2
    omega
theorem cpt_ne (m d : Int) (bs : List (Int × Int)) : cpt m d bs ≠ [] := by
  unfold cpt
  split
  · exact trim_ne _ _ _ (by decide)
  · rename_i q hq
    split
    · exact trim_ne _ _ _ (by decide)
    · split
      · simp
      · intro e; rw [e] at hq; cases hq

theorem cpt_nil {m d : Int} {bs : List (Int × Int)} (h : drp m bs = []) : cpt m d bs = trim 10 ([] ++ [(m, d)]) := by unfold cpt; rw [h]; rfl
theorem cpt_put {m d : Int} {bs i : List (Int × Int)} {q x : Int} (h : drp m bs = i ++ [(q, x)]) (hq : q < m) : cpt m d bs = trim 10 (i ++ [(q, x)] ++ [(m, d)]) := by
  unfold cpt; rw [h]; simp [hq]
theorem cpt_set {m d : Int} {bs i : List (Int × Int)} {q x : Int} (h : drp m bs = i ++ [(q, x)]) (hq : ¬ q < m) (hl : ls d x = true) : cpt m d bs = i ++ [(q, d)] := by
  unfold cpt; rw [h]; simp [hq, hl]
theorem cpt_stay {m d : Int} {bs i : List (Int × Int)} {q x : Int} (h : drp m bs = i ++ [(q, x)]) (hq : ¬ q < m) (hl : ls d x = false) : cpt m d bs = i ++ [(q, x)] := by
  unfold cpt; rw [h]; simp [hq, hl]

theorem kb_trans {a b w : World} {may may2 : Nat → Prop} (h : Kb a b may) (k : Kb b w may2) (hm : ∀ i, i < a.heap.size → may2 i → may i) : Kb a w may :=
  ⟨k.os.trans h.os, k.tape.trans h.tape, k.output.trans h.output, Nat.le_trans h.size k.size, fun i hi hn => (k.block i (Nat.lt_of_lt_of_le hi h.size) (fun e => hn (hm i hi e))).trans (h.block i hi hn)⟩

/-- how long the minutes' list is in memory -/
def mlen (c : Nat) (w : World) : Nat := match w.cell? ⟨c, 6, none⟩ with | some (.slice _ n _) => n | _ => 0

section
variable {w : World} {c : Nat} {now : Int} {hv : Bool} {at' target limit : Int} {bs : List (Int × Int)} {zs : List Int} {ml fl : Value}
theorem fin_put {w2 : World} {ml2 : Value} {B : List (Int × Int)} (h : Rings w c now hv at' target limit bs zs ml fl) (hC : Ctl w2 c now hv at' target limit ml2 fl) (hrow : Row w2 2 ml2 B.length (bcs B)) (hmc : ml2.ownBlock ≠ some c) (hown : ∀ k, ml2.ownBlock = some k → ml.ownBlock = some k ∨ w.heap.size ≤ k)
    (hk : Kb w w2 (fun i => i = c ∨ ml.ownBlock = some i)) (hB : B.length ≤ 10) : Rings w2 c now hv at' target limit B zs ml2 fl :=
  ⟨hC, hrow, row_kb h.rf hk (fun k e => by rintro (rfl | h2); exact h.fc e; exact h.mf k h2 e), hB, h.lf, hmc, h.fc, fun k e e2 => by
    rcases hown k e with h2 | h2
    · exact h.mf k h2 e2
    · have := row_lt h.rf k e2; omega⟩

theorem rings_tail {b : Int × Int} {r : List (Int × Int)} {v v2 : Value} (h : Rings w c now hv at' target limit (b :: r) zs v fl) (hrow : Row w 2 v2 r.length (bcs r)) (hv2 : v2.ownBlock = v.ownBlock) (_ : True) : Rings (w.setCell ⟨c, 6, none⟩ v2) c now hv at' target limit r zs v2 fl :=
  ⟨h.ctl.set6 v2, hrow.kept (gb_set w c 6 v2) (fun k e e2 => h.mc (by rw [← hv2, e, ← Option.some.inj e2])), h.rf.kept (gb_set w c 6 v2) (fun k e e2 => h.fc (by rw [e, ← Option.some.inj e2])), by have := h.lm; simp at this; omega, h.lf, by rw [hv2]; exact h.mc, h.fc, fun k e => h.mf k (by rw [← hv2]; exact e)⟩
theorem mlen_is {g : Option Addr} {n cap : Nat} (h : Ctl w c now hv at' target limit (.slice g n cap) fl) : mlen c w = n := by unfold mlen; rw [h.c6]
theorem mlen_set (w : World) (c : Nat) (v : Option Addr) (n cap : Nat) {now : Int} {hv : Bool} {at' target limit : Int} {ml fl : Value} (h : Ctl w c now hv at' target limit ml fl) : mlen c (w.setCell ⟨c, 6, none⟩ (.slice v n cap)) = n := mlen_is (h.set6 _)

set_option maxRecDepth 100000 in
set_option maxHeartbeats 4000000 in
theorem cput_any (h : Rings w c now hv at' target limit bs zs ml fl) (t d m : Int) (t1 : 0 ≤ t) (t2 : t ≤ 1000000000) (hm : t / 60000 = m) :
    Calls Try.prog 45 #[.pointer (some ⟨c, 0, none⟩), .int .i64 t, .int .i64 d] w fun e w' => e = .returned (.tuple #[]) ∧
      ∃ ml', Rings w' c now hv at' target limit (cpt m d bs) zs ml' fl ∧ (∀ k, ml'.ownBlock = some k → ml.ownBlock = some k ∨ w.heap.size ≤ k) ∧ Kb w w' (fun i => i = c ∨ ml.ownBlock = some i) := by
  have m1 : 0 ≤ m := by omega
  have m2 : m ≤ 16667 := by omega
  have HR := Lib.hid h
  clear h
  go_enter Try.func45, Try.ntmps45
  go_wp2
  have HM := Lib.hid hm
  rw [hm]
  clear hm
  go_loopw [17] (fun _ wr => ∃ bs' ml', Rings wr c now hv at' target limit bs' zs ml' fl ∧ drp m bs' = drp m bs ∧ (∀ k, ml'.ownBlock = some k → ml.ownBlock = some k) ∧ Kb w wr (fun i => i = c ∨ ml.ownBlock = some i)) (fun _ wr => mlen c wr)
  case atStart => exact ⟨bs, ml, HR.out, rfl, fun k h => h, Kb.refl _ _⟩
  case round =>
    obtain ⟨bs', ml', hR, hd, ho, hk⟩ := hrel
    have c6 := hR.ctl.c6
    have f6 := hR.ctl.fz 6
    have HR' := Lib.hid hR
    have HD := Lib.hid hd
    have HK := Lib.hid hk
    have hlm := hR.lm
    clear hR hd hk
    rcases hbs : bs' with _ | ⟨b, r⟩
    · subst hbs
      obtain ⟨a, cap, hml⟩ := row_empty HR'.out.rm
      subst hml
      have HP := Lib.hid (put_base c m d now hv at' target limit (.slice a 0 cap) fl 0 [] wr HR'.out.ctl (by omega) rfl HR'.out.rm HR'.out.mc)
      go_wp2_with fail
      refine HP.out.mono ?_
      rintro e w2 ⟨rfl, ml2, hC2, hrow2, hmc2, hown2, hk2⟩
      go_wp2
      go_end0
      have hF := fin_put HR'.out hC2 hrow2 hmc2 hown2 hk2 (trim_len [] (m, d) 10 (by simp))
      rw [← cpt_nil (m := m) (d := d) (bs := bs) (by rw [← HD.out]; rfl)] at hF
      exact ⟨rfl, ml2, hF, fun k h => (hown2 k h).imp (ho k) (fun h => by have := HK.out.size; omega), kb_trans HK.out hk2 (fun i _ h => h.imp id (ho i))⟩
    · subst hbs
      obtain ⟨g, off, cap, hml, hcap, hg⟩ := Row.form (n := r.length) HR'.out.rm
      subst hml
      have hb0 := (row_bases (bs := b :: r) rfl HR'.out.rm 0 (by simp)).1
      simp only [Nat.zero_mul, Nat.add_zero, List.getElem?_cons_zero, Option.getD_some] at hb0
      have hlr : r.length + 1 ≤ 10 := by simpa using hlm
      by_cases hold : b.1 < m - 9
      · have hT := Row.tail (n := r.length) HR'.out.rm
        unfold sliced at hT
        rw [← bcs_tail, List.drop_one, List.tail_cons] at hT
        have hlt6 : c < wr.heap.size := HR'.out.ctl.lt
        by_cases hc1 : cap = 1
        · subst hc1
          rw [if_pos rfl] at hT
          have hr0 : r.length = 0 := by omega
          obtain rfl : r = [] := List.eq_nil_of_length_eq_zero hr0
          go_wp2_with fail
          refine ⟨⟨[], _, rings_tail HR'.out (by simpa using hT) rfl (by simp), by rw [← HD.out, drp_old m b [] hold], ho, kb_trans HK.out (Kb.of (gb_set wr c 6 _) (may := fun i => i = c) (fun i _ h => (Option.some.inj h).symm)) (fun i _ h => .inl h)⟩, ?_⟩
          rw [mlen_set wr c _ _ _ HR'.out.ctl, mlen_is HR'.out.ctl]
          simp
        · rw [if_neg hc1] at hT
          simp only [Option.map_some, Addr.add_lit, Nat.add_sub_cancel, Nat.one_mul] at hT
          go_wp2_with fail
          refine ⟨⟨r, _, rings_tail HR'.out hT rfl (by simp), by rw [← HD.out, drp_old m b r hold], ho, kb_trans HK.out (Kb.of (gb_set wr c 6 _) (may := fun i => i = c) (fun i _ h => (Option.some.inj h).symm)) (fun i _ h => .inl h)⟩, ?_⟩
          rw [mlen_set wr c _ _ _ HR'.out.ctl, mlen_is HR'.out.ctl]
          omega
      · obtain ⟨i, ⟨q, x⟩, hi⟩ : ∃ i q, b :: r = i ++ [q] := ⟨(b :: r).dropLast, (b :: r).getLast (by simp), (List.dropLast_concat_getLast (by simp)).symm⟩
        have hil : i.length = r.length := by have := congrArg List.length hi; simp at this; omega
        have hq0 := row_bases (bs := b :: r) rfl HR'.out.rm r.length (by simp)
        rw [show (b :: r)[r.length]? = some (q, x) by rw [hi, ← hil, List.getElem?_concat_length]] at hq0
        obtain ⟨hq0, hx0⟩ := hq0
        simp only [Option.getD_some] at hq0 hx0
        have HI := Lib.hid hi
        clear hi
        have hdr : drp m bs = i ++ [(q, x)] := by rw [← HD.out, drp_new m b r hold]; exact HI.out
        have HDR := Lib.hid hdr
        clear hdr
        by_cases hqm : q < m
        · have HP := Lib.hid (put_base c m d now hv at' target limit _ fl (r.length + 1) (b :: r) wr HR'.out.ctl hlr rfl HR'.out.rm HR'.out.mc)
          go_wp2_with fail
          refine HP.out.mono ?_
          rintro e w2 ⟨rfl, ml2, hC2, hrow2, hmc2, hown2, hk2⟩
          go_wp2
          go_end0
          have hF := fin_put HR'.out hC2 hrow2 hmc2 hown2 hk2 (trim_len (b :: r) (m, d) 10 (by simpa using hlr))
          rw [show trim 10 (b :: r ++ [(m, d)]) = cpt m d bs by rw [cpt_put HDR.out hqm, HI.out]] at hF
          exact ⟨rfl, ml2, hF, fun k h => (hown2 k h).imp (ho k) (fun h => by have := HK.out.size; omega), kb_trans HK.out hk2 (fun i _ h => h.imp id (ho i))⟩
        · have hfz := Row.unfrozen (n := r.length + 1) HR'.out.rm (off + r.length * 2 + 1)
          go_wp2_with fail
          refine (less_all d x wr).mono ?_
          rintro e w2 ⟨rfl, rfl⟩
          rcases hl : ls d x with _ | _
          · go_wp2
            go_end0
            refine ⟨rfl, _, ?_, fun k h => .inl (ho k h), HK.out⟩
            rw [cpt_stay HDR.out (by omega) hl, ← HI.out]
            exact HR'.out
          · go_wp2
            go_end0
            refine ⟨rfl, _, ?_, fun k h => .inl (ho k h), kb_trans HK.out (Kb.of (gb_set w2 g (off + r.length * 2 + 1) _) (may := fun i => i = g) (fun i _ h => (Option.some.inj h).symm)) (fun i _ h => .inr (ho i (by rw [h]; rfl)))⟩
            rw [cpt_set HDR.out (by omega) hl]
            have hS := Row.set (n := r.length + 1) HR'.out.rm (r.length * 2 + 1) (.int .i64 d) (by rw [bcs_length]; simp; omega)
            have hb2 : (bcs (b :: r)).set (r.length * 2 + 1) (.int .i64 d) = bcs (i ++ [(q, d)]) := by
              rw [HI.out, bcs_append, bcs_append, ← hil, List.set_append_right _ _ (by rw [bcs_length]; omega), bcs_length]
              simp [bcs]
            rw [hb2] at hS
            have hil2 : (i ++ [(q, d)]).length = r.length + 1 := by simp [hil]
            have hgc : g ≠ c := fun e => HR'.out.mc (by rw [e]; rfl)
            have hgf : fl.ownBlock ≠ some g := HR'.out.mf g rfl
            exact ⟨HR'.out.ctl.kept (gb_set w2 g _ _) (fun e => hgc (Option.some.inj e).symm), by rw [hil2]; exact hS, HR'.out.rf.kept (gb_set w2 g _ _) (fun k e e2 => hgf (by rw [e, ← Option.some.inj e2])), by omega, HR'.out.lf, HR'.out.mc, HR'.out.fc, HR'.out.mf⟩
end
end Go.Proofs.Ythjhbceepkoifaa.Fg
