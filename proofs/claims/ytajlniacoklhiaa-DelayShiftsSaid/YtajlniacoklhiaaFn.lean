/-
  DelayShifts: the plain mathematics.
-/
import Derived.Test.YtajlniacoklhiaaFl
import Derived.Test.YtajlniacoklhiaaFx
namespace Go.Proofs.Ytajlniacoklhiaa.Fn
open Go Go.RowKit Go.Proofs.Ytajlniacoklhiaa.Ec Go.Proofs.Ytajlniacoklhiaa.Ee Go.Proofs.Ytajlniacoklhiaa.Rg Go.Proofs.Ytajlniacoklhiaa.Fa Go.Proofs.Ytajlniacoklhiaa.Fb Go.Proofs.Ytajlniacoklhiaa.Fc Go.Proofs.Ytajlniacoklhiaa.Fd Go.Proofs.Ytajlniacoklhiaa.Fe Go.Proofs.Ytajlniacoklhiaa.Fg Go.Proofs.Ytajlniacoklhiaa.Fh Go.Proofs.Ytajlniacoklhiaa.Fi Go.Proofs.Ytajlniacoklhiaa.Fj Go.Proofs.Ytajlniacoklhiaa.Fk Go.Proofs.Ytajlniacoklhiaa.Fl

/-- a delay, shifted -/
def sh (y d : Int) : Int := (d + y) % 4294967296
def shB (y : Int) (b : Int × Int) : Int × Int := (b.1, sh y b.2)
theorem sh_sub (y a b : Int) : (sh y b - sh y a) % 4294967296 = (b - a) % 4294967296 := by unfold sh; omega
theorem ls_sh (y a b : Int) : ls (sh y a) (sh y b) = ls a b := by unfold ls; rw [sh_sub]
theorem mn_sh (y : Int) (o : Option Int) (x : Int) : mn (o.map (sh y)) (sh y x) = (mn o x).map (sh y) := by
  cases o with
  | none => rfl
  | some b => simp only [Option.map_some, mn, ls_sh]; split <;> rfl
theorem fold_sh (y : Int) : ∀ (zs : List Int) (o : Option Int), (zs.map (sh y)).foldl mn (o.map (sh y)) = (zs.foldl mn o).map (sh y)
  | [], _ => rfl
  | x :: r, o => by rw [List.map_cons, List.foldl_cons, List.foldl_cons, mn_sh, fold_sh y r]
theorem lst_sh (y : Int) (zs : List Int) : lst (zs.map (sh y)) = (lst zs).map (sh y) := fold_sh y zs none
theorem mnb_sh (y : Int) (o : Option (Int × Int)) (x : Int × Int) : mnb (o.map (shB y)) (shB y x) = (mnb o x).map (shB y) := by
  cases o with
  | none => rfl
  | some b => cases h : ls x.2 b.2 <;> simp [mnb, lsb, shB, ls_sh, h]
theorem foldb_sh (y : Int) : ∀ (zs : List (Int × Int)) (o : Option (Int × Int)), (zs.map (shB y)).foldl mnb (o.map (shB y)) = (zs.foldl mnb o).map (shB y)
  | [], _ => rfl
  | x :: r, o => by rw [List.map_cons, List.foldl_cons, List.foldl_cons, mnb_sh, foldb_sh y r]
theorem lstb_sh (y : Int) (zs : List (Int × Int)) : lstb (zs.map (shB y)) = (lstb zs).map (shB y) := foldb_sh y zs none
theorem qd_sh (y : Int) {bs : List (Int × Int)} {zs : List Int} (hb : bs ≠ []) (hz : zs ≠ []) : qd (bs.map (shB y)) (zs.map (sh y)) = qd bs zs := by
  have h1 : (lst zs).isNone = false := by rw [lst_some]; cases zs <;> simp_all
  have h2 : (lstb bs).isNone = false := by rw [lstb_some]; cases bs <;> simp_all
  obtain ⟨a, ha⟩ : ∃ a, lst zs = some a := by cases h : lst zs with | none => rw [h] at h1; cases h1 | some a => exact ⟨a, rfl⟩
  obtain ⟨b, hb⟩ : ∃ b, lstb bs = some b := by cases h : lstb bs with | none => rw [h] at h2; cases h2 | some a => exact ⟨a, rfl⟩
  unfold qd
  rw [lst_sh, lstb_sh, ha, hb]
  simp only [Option.map_some, Option.getD_some, shB, sh_sub]
theorem drp_sh (y m : Int) : ∀ bs : List (Int × Int), drp m (bs.map (shB y)) = (drp m bs).map (shB y)
  | [] => rfl
  | b :: r => by
    by_cases h : b.1 < m - 9
    · rw [List.map_cons, drp_old m b r h, drp_old m (shB y b) _ h, drp_sh y m r]
    · rw [List.map_cons, drp_new m b r h, drp_new m (shB y b) _ h]; rfl
theorem trim_map {α β : Type} (f : α → β) (k : Nat) (l : List α) : trim k (l.map f) = (trim k l).map f := by
  unfold trim; rw [List.length_map]; split
  · rfl
  · rw [List.map_drop]
theorem cpt_sh (y m d : Int) (bs : List (Int × Int)) : cpt m (sh y d) (bs.map (shB y)) = (cpt m d bs).map (shB y) := by
  unfold cpt
  rw [drp_sh, List.getLast?_map]
  have ht : trim 10 ((drp m bs).map (shB y) ++ [(m, sh y d)]) = (trim 10 (drp m bs ++ [(m, d)])).map (shB y) := by
    rw [← trim_map, List.map_append]; rfl
  cases hq : (drp m bs).getLast? with
  | none => exact ht
  | some q =>
    simp only [Option.map_some]
    rw [show (shB y q).1 = q.1 from rfl, show (shB y q).2 = sh y q.2 from rfl, ls_sh, ht]
    split
    · rfl
    · split
      · rw [List.map_append, List.map_dropLast]; rfl
      · rfl

/-- a control all of whose delays are shifted -/
def shS (y : Int) (s : St) : St := { s with bs := s.bs.map (shB y), zs := s.zs.map (sh y) }
theorem okS_sh {y : Int} {now t b d u : Int} (h1 : 0 ≤ d) (h2 : d < 4294967296) : okS now t b (sh y d) u = okS now t b d u := by
  have e1 : wn d 0 4294967295 = true := by unfold wn; simp; omega
  have e2 : wn (sh y d) 0 4294967295 = true := by unfold wn sh; simp; omega
  unfold okS; rw [e1, e2]
theorem smp_sh {y : Int} {s : St} {t b d u : Int} (h1 : 0 ≤ d) (h2 : d < 4294967296) : smp (shS y s) t b (sh y d) u = shS y (smp s t b d u) := by
  unfold smp
  rw [show (shS y s).now = s.now from rfl, okS_sh h1 h2]
  split
  · have ht : trim 4 (s.zs.map (sh y) ++ [sh y d]) = (trim 4 (s.zs ++ [d])).map (sh y) := by rw [← trim_map, List.map_append]; rfl
    unfold shS
    simp only
    rw [cpt_sh, ht, qd_sh y (cpt_ne _ _ _) (trim_ne _ _ _ (by decide))]
  · rfl
theorem smpE_sh {y : Int} {s : St} {t b d u : Int} (h1 : 0 ≤ d) (h2 : d < 4294967296) : smpE (shS y s) t b (sh y d) u = smpE s t b d u := by
  unfold smpE
  rw [show (shS y s).now = s.now from rfl, okS_sh h1 h2]
theorem los_sh (y : Int) (s : St) (t tr : Int) : los (shS y s) t tr = shS y (los s t tr) := by
  unfold los
  rw [show losOk (shS y s) t tr = losOk s t tr from rfl, show soon (shS y s) t tr = soon s t tr from rfl]
  split
  · split <;> rfl
  · rfl
theorem out_sh (y : Int) (s : St) (t : Int) : out' (shS y s) t = shS y (out' s t) := by
  unfold out'
  rw [show (shS y s).now = s.now from rfl]
  split <;> rfl
theorem que_sh {y : Int} {s : St} (h : Inv s) : que (shS y s) = que s ∧ queE (shS y s) = queE s := by
  unfold que queE
  by_cases hz : s.zs = []
  · have : (shS y s).zs = [] := by unfold shS; simp [hz]
    rw [if_pos hz, if_pos this, if_pos hz, if_pos this]; exact ⟨rfl, rfl⟩
  · have : (shS y s).zs ≠ [] := by unfold shS; simp [hz]
    rw [if_neg hz, if_neg this, if_neg hz, if_neg this]
    exact ⟨qd_sh y (h.ne hz) hz, rfl⟩
theorem inv_sh {y : Int} {s : St} (h : Inv s) : Inv (shS y s) := ⟨h.n1, h.n2, h.a1, h.a2, h.t1, h.t2, h.l1, h.l2, fun hz => by
  have : s.zs ≠ [] := fun e => hz (by unfold shS; simp [e])
  unfold shS; simp [h.ne this]⟩
end Go.Proofs.Ytajlniacoklhiaa.Fn
