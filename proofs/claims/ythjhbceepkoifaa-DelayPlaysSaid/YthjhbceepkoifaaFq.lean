/-
  DelayPlays: the plain mathematics: the bases reckoned anew from all samples are those that are kept.
-/
import Derived.Test.YthjhbceepkoifaaFl
namespace Go.Proofs.Ythjhbceepkoifaa.Fq
open Go Go.RowKit Go.Proofs.Ythjhbceepkoifaa.Ec Go.Proofs.Ythjhbceepkoifaa.Ee Go.Proofs.Ythjhbceepkoifaa.Rg Go.Proofs.Ythjhbceepkoifaa.Fa Go.Proofs.Ythjhbceepkoifaa.Fb Go.Proofs.Ythjhbceepkoifaa.Fc Go.Proofs.Ythjhbceepkoifaa.Fd Go.Proofs.Ythjhbceepkoifaa.Fe Go.Proofs.Ythjhbceepkoifaa.Fg Go.Proofs.Ythjhbceepkoifaa.Fh Go.Proofs.Ythjhbceepkoifaa.Fi Go.Proofs.Ythjhbceepkoifaa.Fj Go.Proofs.Ythjhbceepkoifaa.Fk Go.Proofs.Ythjhbceepkoifaa.Fl

/-- the delays of a minute -/
def inm (all : List (Int × Int)) (m : Int) : List Int := (all.filter fun p => p.1 / 60000 == m).map Prod.snd
/-- the base of a minute -/
def mb (all : List (Int × Int)) (m : Int) : Option (Int × Int) := (lst (inm all m)).map fun d => (m, d)
/-- the bases of so many minutes -/
def Rr (all : List (Int × Int)) : Int → Nat → List (Int × Int)
  | _, 0 => []
  | lo, n + 1 => match mb all lo with | none => Rr all (lo + 1) n | some b => b :: Rr all (lo + 1) n
theorem Rr_succ (all : List (Int × Int)) (lo : Int) (n : Nat) : Rr all lo (n + 1) = (match mb all lo with | none => Rr all (lo + 1) n | some b => b :: Rr all (lo + 1) n) := rfl
theorem mb_fst {all : List (Int × Int)} {m : Int} {b : Int × Int} (h : mb all m = some b) : b.1 = m := by
  unfold mb at h
  cases hl : lst (inm all m) with
  | none => rw [hl] at h; cases h
  | some d => rw [hl] at h; simp at h; rw [← h]
theorem Rr_len (all : List (Int × Int)) : ∀ (n : Nat) (lo : Int), (Rr all lo n).length ≤ n
  | 0, _ => Nat.le_refl _
  | n + 1, lo => by
    have := Rr_len all n (lo + 1)
    unfold Rr; split
    · omega
    · simp; omega
theorem Rr_ge (all : List (Int × Int)) : ∀ (n : Nat) (lo : Int) (b : Int × Int), b ∈ Rr all lo n → lo ≤ b.1 ∧ b.1 < lo + n
  | 0, _, _, h => by cases h
  | n + 1, lo, b, h => by
    unfold Rr at h; split at h
    · have := Rr_ge all n (lo + 1) b h; omega
    · rename_i c hc
      rcases List.mem_cons.1 h with rfl | h
      · have := mb_fst hc; omega
      · have := Rr_ge all n (lo + 1) b h; omega
theorem Rr_app (all : List (Int × Int)) : ∀ (n k : Nat) (lo : Int), Rr all lo (n + k) = Rr all lo n ++ Rr all (lo + n) k
  | 0, k, lo => by simp [Rr]
  | n + 1, k, lo => by
    rw [show n + 1 + k = (n + k) + 1 by omega]
    have := Rr_app all n k (lo + 1)
    rw [show lo + ((n + 1 : Nat) : Int) = lo + 1 + (n : Int) by omega]
    rw [Rr_succ all lo (n + k), Rr_succ all lo n]
    cases mb all lo with
    | none => exact this
    | some b => simp only [this, List.cons_append]
theorem drp_stay (M : Int) (l : List (Int × Int)) (h : ∀ b ∈ l, M - 9 ≤ b.1) : drp M l = l := by
  cases l with
  | nil => rfl
  | cons b r => exact drp_new M b r (by have := h b (by simp); omega)
theorem drp_Rr (all : List (Int × Int)) (M : Int) : ∀ (n : Nat) (lo : Int), lo ≤ M - 9 → drp M (Rr all lo n) = Rr all (M - 9) (n - (M - 9 - lo).toNat)
  | 0, lo, _ => by simp [Rr, drp]
  | n + 1, lo, h => by
    by_cases he : lo = M - 9
    · subst he
      rw [show (M - 9 - (M - 9)).toNat = 0 by omega]
      exact drp_stay M _ (fun b hb => (Rr_ge all _ _ b hb).1)
    · have ih := drp_Rr all M n (lo + 1) (by omega)
      rw [show n + 1 - (M - 9 - lo).toNat = n - (M - 9 - (lo + 1)).toNat by omega]
      rw [Rr_succ all lo n]
      cases hb : mb all lo with
      | none => exact ih
      | some b =>
        simp only
        rw [drp_old M b _ (by have := mb_fst hb; omega)]; exact ih
theorem inm_snoc (all : List (Int × Int)) (t d m : Int) : inm (all ++ [(t, d)]) m = if t / 60000 = m then inm all m ++ [d] else inm all m := by
  unfold inm
  rw [List.filter_append, List.map_append]
  by_cases h : t / 60000 = m
  · rw [if_pos h]; simp [h]
  · rw [if_neg h]; simp [h]
theorem mb_other {all : List (Int × Int)} {t d m : Int} (h : t / 60000 ≠ m) : mb (all ++ [(t, d)]) m = mb all m := by unfold mb; rw [inm_snoc, if_neg h]
theorem Rr_below (all : List (Int × Int)) (t d : Int) : ∀ (n : Nat) (lo : Int), lo + n ≤ t / 60000 → Rr (all ++ [(t, d)]) lo n = Rr all lo n
  | 0, _, _ => rfl
  | n + 1, lo, h => by
    have ih := Rr_below all t d n (lo + 1) (by omega)
    unfold Rr
    rw [mb_other (by omega), ih]
theorem inm_above {all : List (Int × Int)} {L m : Int} (h : ∀ p ∈ all, p.1 / 60000 ≤ L) (hm : L < m) : inm all m = [] := by
  unfold inm
  rw [List.filter_eq_nil_iff.2 (fun p hp => by have := h p hp; simp; omega)]; rfl
theorem Rr_above {all : List (Int × Int)} {L : Int} (h : ∀ p ∈ all, p.1 / 60000 ≤ L) : ∀ (n : Nat) (lo : Int), L < lo → Rr all lo n = []
  | 0, _, _ => rfl
  | n + 1, lo, hl => by
    have ih := Rr_above h n (lo + 1) (by omega)
    have : mb all lo = none := by unfold mb; rw [inm_above h hl]; rfl
    unfold Rr
    rw [this]; exact ih
theorem Rr_one (all : List (Int × Int)) (m : Int) : Rr all m 1 = (mb all m).toList := by
  unfold Rr; cases mb all m <;> rfl

/-- a newer minute -/
theorem cpt_new {all : List (Int × Int)} {L t d : Int} (h : ∀ p ∈ all, p.1 / 60000 ≤ L) (hL : L < t / 60000) :
    cpt (t / 60000) d (Rr all (L - 9) 10) = Rr (all ++ [(t, d)]) (t / 60000 - 9) 10 := by
  obtain ⟨M, hM⟩ : ∃ M, t / 60000 = M := ⟨_, rfl⟩
  have hd : drp M (Rr all (L - 9) 10) = Rr all (M - 9) (10 - (M - L).toNat) := by
    rw [drp_Rr all M 10 (L - 9) (by omega), show M - 9 - (L - 9) = M - L by omega]
  have h9 : Rr all (M - 9) 9 = Rr all (M - 9) (10 - (M - L).toNat) := by
    have := Rr_app all (10 - (M - L).toNat) (9 - (10 - (M - L).toNat)) (M - 9)
    rw [show 10 - (M - L).toNat + (9 - (10 - (M - L).toNat)) = 9 by omega, Rr_above h _ (M - 9 + ((10 - (M - L).toNat : Nat) : Int)) (by omega), List.append_nil] at this
    exact this
  have hlast : mb (all ++ [(t, d)]) M = some (M, d) := by
    unfold mb
    rw [inm_snoc, if_pos hM, inm_above h (by omega : L < M)]; rfl
  have hr : Rr (all ++ [(t, d)]) (M - 9) 10 = Rr all (M - 9) 9 ++ [(M, d)] := by
    have := Rr_app (all ++ [(t, d)]) 9 1 (M - 9)
    rw [this, show M - 9 + ((9 : Nat) : Int) = M by omega, Rr_one, hlast, Rr_below all t d 9 (M - 9) (by omega)]; rfl
  rw [hM, hr, h9]
  have hlen : (Rr all (M - 9) (10 - (M - L).toNat)).length ≤ 9 := by
    have := Rr_len all (10 - (M - L).toNat) (M - 9); omega
  have htr : trim 10 (Rr all (M - 9) (10 - (M - L).toNat) ++ [(M, d)]) = Rr all (M - 9) (10 - (M - L).toNat) ++ [(M, d)] := by
    unfold trim; rw [if_pos (by simp; omega)]
  unfold cpt
  rw [hd]
  cases hq : (Rr all (M - 9) (10 - (M - L).toNat)).getLast? with
  | none => exact htr
  | some q =>
    have hm := List.mem_of_getLast? hq
    have hb := Rr_ge all _ _ q hm
    have hqL : q.1 < M := by omega
    simp only [hqL, if_true]
    exact htr
/-- the same minute -/
theorem cpt_same {all : List (Int × Int)} {t d : Int} (hne : inm all (t / 60000) ≠ []) :
    cpt (t / 60000) d (Rr all (t / 60000 - 9) 10) = Rr (all ++ [(t, d)]) (t / 60000 - 9) 10 := by
  obtain ⟨M, hM⟩ : ∃ M, t / 60000 = M := ⟨_, rfl⟩
  rw [hM] at hne ⊢
  obtain ⟨x, hx⟩ : ∃ x, lst (inm all M) = some x := by
    cases h : lst (inm all M) with
    | none => have := lst_some (inm all M); rw [h] at this; cases hi : inm all M <;> simp_all
    | some x => exact ⟨x, rfl⟩
  have h1 : mb all M = some (M, x) := by unfold mb; rw [hx]; rfl
  have h2 : mb (all ++ [(t, d)]) M = some (M, if ls d x then d else x) := by
    unfold mb; rw [inm_snoc, if_pos hM, lst_snoc, hx]; rfl
  have e1 : Rr all (M - 9) 10 = Rr all (M - 9) 9 ++ [(M, x)] := by
    have := Rr_app all 9 1 (M - 9)
    rw [this, show M - 9 + ((9 : Nat) : Int) = M by omega, Rr_one, h1]; rfl
  have e2 : Rr (all ++ [(t, d)]) (M - 9) 10 = Rr all (M - 9) 9 ++ [(M, if ls d x then d else x)] := by
    have := Rr_app (all ++ [(t, d)]) 9 1 (M - 9)
    rw [this, show M - 9 + ((9 : Nat) : Int) = M by omega, Rr_one, h2, Rr_below all t d 9 (M - 9) (by omega)]; rfl
  have hd : drp M (Rr all (M - 9) 10) = Rr all (M - 9) 9 ++ [(M, x)] := by
    rw [drp_stay M _ (fun b hb => (Rr_ge all _ _ b hb).1), e1]
  rw [e2]
  cases hl : ls d x
  · rw [cpt_stay hd (by omega) hl]; simp
  · rw [cpt_set hd (by omega) hl]; simp

/-- the bases of all samples -/
def bsOf (all : List (Int × Int)) : List (Int × Int) := match all.getLast? with | none => [] | some q => Rr all (q.1 / 60000 - 9) 10
/-- samples come in the order of their times -/
def Ordd (all : List (Int × Int)) : Prop := ∀ q, all.getLast? = some q → ∀ p ∈ all, 0 ≤ p.1 ∧ p.1 ≤ q.1
theorem bsOf_snoc {all : List (Int × Int)} {t d : Int} (ho : Ordd all) (ht : ∀ q, all.getLast? = some q → q.1 ≤ t) : cpt (t / 60000) d (bsOf all) = bsOf (all ++ [(t, d)]) := by
  have hg : bsOf (all ++ [(t, d)]) = Rr (all ++ [(t, d)]) (t / 60000 - 9) 10 := by unfold bsOf; rw [List.getLast?_append]; rfl
  rw [hg]
  unfold bsOf
  cases hq : all.getLast? with
  | none =>
    obtain rfl : all = [] := List.getLast?_eq_none_iff.1 hq
    have := cpt_new (all := []) (L := t / 60000 - 1) (t := t) (d := d) (fun p hp => by cases hp) (by omega)
    rw [← this, Rr_above (all := []) (L := t / 60000 - 1 - 9 - 1) (fun p hp => by cases hp) _ _ (by omega)]
  | some q =>
    have hb := ho q hq
    have hqt := ht q hq
    simp only
    by_cases hm : q.1 / 60000 = t / 60000
    · rw [hm]
      refine cpt_same (fun he => ?_)
      have : q.2 ∈ inm all (t / 60000) := by
        unfold inm
        exact List.mem_map.2 ⟨q, List.mem_filter.2 ⟨List.mem_of_getLast? hq, by simp [hm]⟩, rfl⟩
      rw [he] at this; cases this
    · exact cpt_new (fun p hp => by have := hb p hp; omega) (by omega)
theorem ordd_snoc {all : List (Int × Int)} {t d : Int} (ho : Ordd all) (h0 : 0 ≤ t) (ht : ∀ q, all.getLast? = some q → q.1 ≤ t) : Ordd (all ++ [(t, d)]) := by
  intro q hq p hp
  rw [List.getLast?_append] at hq
  obtain rfl : (t, d) = q := by simpa using hq
  rcases List.mem_append.1 hp with hp | hp
  · cases hg : all.getLast? with
    | none => rw [List.getLast?_eq_none_iff.1 hg] at hp; cases hp
    | some r =>
      have h1 := ho r hg p hp
      have h2 := ht r hg
      exact ⟨h1.1, by show p.1 ≤ t; omega⟩
  · obtain rfl : p = (t, d) := by simpa using hp
    exact ⟨h0, Int.le_refl _⟩
/-- the last four -/
def l4 (all : List (Int × Int)) : List Int := (all.drop (all.length - 4)).map Prod.snd
theorem l4_snoc (all : List (Int × Int)) (t d : Int) : trim 4 (l4 all ++ [d]) = l4 (all ++ [(t, d)]) := by
  unfold l4 trim
  have hl : ((all.drop (all.length - 4)).map Prod.snd ++ [d]).length = all.length - (all.length - 4) + 1 := by simp
  rw [hl]
  by_cases h : all.length ≤ 3
  · rw [if_pos (by omega), show all.length - 4 = 0 by omega, show (all ++ [(t, d)]).length - 4 = 0 by simp; omega]
    simp
  · rw [if_neg (by omega), show (all ++ [(t, d)]).length - 4 = all.length - 4 + 1 by simp; omega]
    have e1 : ((all.drop (all.length - 4)).map Prod.snd ++ [d]).drop 1 = ((all.drop (all.length - 4)).map Prod.snd).drop 1 ++ [d] := List.drop_append_of_le_length (by simp; omega)
    have e2 : (all ++ [(t, d)]).drop (all.length - 4 + 1) = all.drop (all.length - 4 + 1) ++ [(t, d)] := List.drop_append_of_le_length (by omega)
    rw [e1, e2, List.map_append, ← List.map_drop, List.drop_drop]
    rfl
theorem lstb_lst : ∀ (bs : List (Int × Int)) (o : Option (Int × Int)), (bs.foldl mnb o).map Prod.snd = (bs.map Prod.snd).foldl mn (o.map Prod.snd)
  | [], _ => rfl
  | b :: r, o => by
    rw [List.foldl_cons, List.map_cons, List.foldl_cons, lstb_lst r]
    congr 1
    cases o with
    | none => rfl
    | some q => cases h : ls b.2 q.2 <;> simp [mnb, mn, lsb, h]
theorem lstb_snd (bs : List (Int × Int)) : ((lstb bs).getD (0, 0)).2 = (lst (bs.map Prod.snd)).getD 0 := by
  have := lstb_lst bs none
  unfold lstb lst
  rw [Option.map_none] at this
  rw [← this]
  cases bs.foldl mnb none <;> rfl
end Go.Proofs.Ythjhbceepkoifaa.Fq
