/-
  A search in plain maths: how often a range can be halved, what is found, how many probes are sent.
-/
import Derived.Test.YtjoejaclnijacaaRows
namespace Go.Proofs.Ytjoejaclnijacaa.Pm

def lg (w : Nat) : Nat := if w < 16 then 0 else 1 + lg (w / 2)
termination_by w
decreasing_by omega
theorem lg_small {w : Nat} (h : w < 16) : lg w = 0 := by unfold lg; rw [if_pos h]
theorem lg_big {w : Nat} (h : 16 ≤ w) : lg w = 1 + lg (w / 2) := by rw [lg]; rw [if_neg (by omega)]
theorem lg_mono {a b : Nat} (h : a ≤ b) : lg a ≤ lg b := by
  induction b using Nat.strongRecOn generalizing a with
  | _ b ih =>
    by_cases ha : a < 16
    · rw [lg_small ha]; omega
    · rw [lg_big (by omega), lg_big (w := b) (by omega)]
      have := ih (b / 2) (by omega) (a := a / 2) (by omega)
      omega
theorem lg_pow (k : Nat) : ∀ w, w < 16 * 2 ^ k → lg w ≤ k := by
  induction k with
  | zero => intro w h; rw [lg_small (by omega)]; omega
  | succ k ih =>
    intro w h
    by_cases hw : w < 16
    · rw [lg_small hw]; omega
    · rw [lg_big (by omega)]
      have := ih (w / 2) (by rw [Nat.pow_succ] at h; omega)
      omega
theorem lg_all {w : Nat} (h : w ≤ 8424) : lg w ≤ 10 := lg_pow 10 w (by omega)

def stp (w : Nat) : Nat := if w < 16 then 0 else max (1 + stp (w / 2)) (3 + stp ((w - 1) / 2))
termination_by w
decreasing_by all_goals omega
theorem stp_small {w : Nat} (h : w < 16) : stp w = 0 := by unfold stp; rw [if_pos h]
theorem stp_big {w : Nat} (h : 16 ≤ w) : stp w = max (1 + stp (w / 2)) (3 + stp ((w - 1) / 2)) := by rw [stp]; rw [if_neg (by omega)]
theorem stp_le (w : Nat) : stp w ≤ 3 * w := by
  induction w using Nat.strongRecOn with
  | _ w ih =>
    by_cases h : w < 16
    · rw [stp_small h]; omega
    · rw [stp_big (by omega)]
      have h1 := ih (w / 2) (by omega)
      have h2 := ih ((w - 1) / 2) (by omega)
      omega

/-- the middle of a range -/
def mid (l h : Int) : Int := (l + h + 1) / 2
theorem mid_in {l h : Int} (h16 : 16 ≤ h - l) : l < mid l h ∧ mid l h ≤ h ∧ (h - mid l h).toNat = (h - l).toNat / 2 ∧ (mid l h - 1 - l).toNat = ((h - l).toNat - 1) / 2 := by
  unfold mid; omega

/-- what a search finds, and how many probes it sends; lb tells which probe of which size is lost -/
def fnd (lb : Nat → Int → Bool) : Nat → Int → Int → Nat → Nat → Int × Nat
  | 0, l, _, _, n => (l, n)
  | f + 1, l, h, k, n =>
    if h - l < 16 then (l, n)
    else if lb (n + 1) (mid l h) = true then (if k = 2 then fnd lb f l (mid l h - 1) 0 (n + 1) else fnd lb f l h (k + 1) (n + 1))
    else fnd lb f (mid l h) h 0 (n + 1)

/-- the fuel is enough -/
def good (f : Nat) (l h : Int) (k : Nat) : Prop := l ≤ h ∧ k ≤ 2 ∧ 3 * lg (h - l).toNat ≤ f + k
theorem good_pos {f : Nat} {l h : Int} {k : Nat} (g : good f l h k) (hc : ¬ h - l < 16) : ∃ f', f = f' + 1 := by
  obtain ⟨h1, h2, h3⟩ := g
  rw [lg_big (by omega)] at h3
  exact ⟨f - 1, by omega⟩
theorem good_ack {f : Nat} {l h : Int} {k : Nat} (g : good (f + 1) l h k) (hc : ¬ h - l < 16) : good f (mid l h) h 0 := by
  obtain ⟨h1, h2, h3⟩ := g
  obtain ⟨m1, m2, m3, m4⟩ := mid_in (l := l) (h := h) (by omega)
  rw [lg_big (by omega)] at h3
  exact ⟨m2, by omega, by rw [m3]; omega⟩
theorem good_less {f : Nat} {l h : Int} (g : good (f + 1) l h 2) (hc : ¬ h - l < 16) : good f l (mid l h - 1) 0 := by
  obtain ⟨h1, h2, h3⟩ := g
  obtain ⟨m1, m2, m3, m4⟩ := mid_in (l := l) (h := h) (by omega)
  rw [lg_big (by omega)] at h3
  have := lg_mono (a := ((h - l).toNat - 1) / 2) (b := (h - l).toNat / 2) (by omega)
  exact ⟨by omega, by omega, by rw [m4]; omega⟩
theorem good_lost {f : Nat} {l h : Int} {k : Nat} (g : good (f + 1) l h k) (hk : k ≠ 2) : good f l h (k + 1) := by
  obtain ⟨h1, h2, h3⟩ := g
  exact ⟨h1, by omega, by omega⟩
theorem good_start {l h : Int} (h1 : 576 ≤ l) (h2 : l ≤ h) (h3 : h ≤ 9000) : good 30 l h 0 := ⟨h2, by omega, by have := lg_all (w := (h - l).toNat) (by omega); omega⟩

section
variable {lb : Nat → Int → Bool}
theorem fnd_end {l h : Int} (hc : h - l < 16) : ∀ f k n, fnd lb f l h k n = (l, n)
  | 0, _, _ => rfl
  | f + 1, k, n => by unfold fnd; rw [if_pos hc]
theorem fnd_ack {f : Nat} {l h : Int} {k n : Nat} (hc : ¬ h - l < 16) (hb : lb (n + 1) (mid l h) = false) : fnd lb (f + 1) l h k n = fnd lb f (mid l h) h 0 (n + 1) := by
  rw [fnd]; rw [if_neg hc, if_neg (by rw [hb]; decide)]
theorem fnd_less {f : Nat} {l h : Int} {n : Nat} (hc : ¬ h - l < 16) (hb : lb (n + 1) (mid l h) = true) : fnd lb (f + 1) l h 2 n = fnd lb f l (mid l h - 1) 0 (n + 1) := by
  rw [fnd]; rw [if_neg hc, if_pos hb, if_pos rfl]
theorem fnd_lost {f : Nat} {l h : Int} {k n : Nat} (hc : ¬ h - l < 16) (hb : lb (n + 1) (mid l h) = true) (hk : k ≠ 2) : fnd lb (f + 1) l h k n = fnd lb f l h (k + 1) (n + 1) := by
  rw [fnd]; rw [if_neg hc, if_pos hb, if_neg hk]

theorem fnd_low (M : Int) (hM : ∀ n m, lb n m = false → m ≤ M) : ∀ f l h k n, l ≤ M → (fnd lb f l h k n).1 ≤ M := by
  intro f
  induction f with
  | zero => intro l h k n hl; exact hl
  | succ f ih =>
    intro l h k n hl
    rw [fnd]
    split
    · exact hl
    · split
      · split
        · exact ih _ _ _ _ hl
        · exact ih _ _ _ _ hl
      · rename_i hb
        exact ih _ _ _ _ (hM (n + 1) _ (by simpa using hb))
theorem fnd_in : ∀ f l h k n, l ≤ h → l ≤ (fnd lb f l h k n).1 ∧ (fnd lb f l h k n).1 ≤ h ∧ n ≤ (fnd lb f l h k n).2 ∧ (fnd lb f l h k n).2 ≤ n + f := by
  intro f
  induction f with
  | zero => intro l h k n hl; exact ⟨Int.le_refl _, hl, Nat.le_refl _, Nat.le_refl _⟩
  | succ f ih =>
    intro l h k n hl
    rw [fnd]
    split
    · exact ⟨Int.le_refl _, hl, Nat.le_refl _, by show n ≤ _; omega⟩
    · rename_i hc
      obtain ⟨m1, m2, m3, m4⟩ := mid_in (l := l) (h := h) (by omega)
      split
      · split
        · have := ih l (mid l h - 1) 0 (n + 1) (by omega); omega
        · have := ih l h (k + 1) (n + 1) hl; omega
      · have := ih (mid l h) h 0 (n + 1) m2; omega
theorem fnd_some {f : Nat} {l h : Int} {k n : Nat} (hl : l ≤ h) (hc : ¬ h - l < 16) : n < (fnd lb (f + 1) l h k n).2 := by
  obtain ⟨m1, m2, m3, m4⟩ := mid_in (l := l) (h := h) (by omega)
  rw [fnd, if_neg hc]
  split
  · split
    · have := fnd_in (lb := lb) f l (mid l h - 1) 0 (n + 1) (by omega); omega
    · have := fnd_in (lb := lb) f l h (k + 1) (n + 1) hl; omega
  · have := fnd_in (lb := lb) f (mid l h) h 0 (n + 1) m2; omega
end

/-- without chance: what is above a bound is lost -/
def plain (bound : Int) : Nat → Int → Bool := fun _ m => decide (bound < m)
theorem fnd_near (bound H : Int) : ∀ f l h k n, good f l h k → (bound ≤ h ∨ H ≤ h) → (bound - 16 < (fnd (plain bound) f l h k n).1 ∨ H - 16 < (fnd (plain bound) f l h k n).1) := by
  intro f
  induction f with
  | zero =>
    intro l h k n g hh
    have hc : h - l < 16 := by
      by_cases hc : h - l < 16
      · exact hc
      · obtain ⟨f', e⟩ := good_pos g hc; omega
    show bound - 16 < l ∨ H - 16 < l
    omega
  | succ f ih =>
    intro l h k n g hh
    by_cases hc : h - l < 16
    · rw [fnd_end hc]; show bound - 16 < l ∨ H - 16 < l; omega
    · cases hb : plain bound (n + 1) (mid l h)
      · rw [fnd_ack hc hb]; exact ih _ _ _ _ (good_ack g hc) hh
      · have hm : bound < mid l h := by unfold plain at hb; simpa using hb
        by_cases hk : k = 2
        · subst hk
          rw [fnd_less hc hb]
          exact ih _ _ _ _ (good_less g hc) (by omega)
        · rw [fnd_lost hc hb hk]
          exact ih _ _ _ _ (good_lost g hk) hh

theorem fnd_steps (bound : Int) : ∀ f l h k n, good f l h k → (0 < k → bound < mid l h ∧ ¬ h - l < 16) → (fnd (plain bound) f l h k n).2 + k ≤ n + stp (h - l).toNat := by
  intro f
  induction f with
  | zero =>
    intro l h k n g hk
    have hc : h - l < 16 := by
      by_cases hc : h - l < 16
      · exact hc
      · obtain ⟨f', e⟩ := good_pos g hc; omega
    have : k = 0 := by
      by_cases h0 : 0 < k
      · exact absurd hc (hk h0).2
      · omega
    show n + k ≤ _
    omega
  | succ f ih =>
    intro l h k n g hk
    by_cases hc : h - l < 16
    · have : k = 0 := by
        by_cases h0 : 0 < k
        · exact absurd hc (hk h0).2
        · omega
      rw [fnd_end hc]; show n + k ≤ _; omega
    · obtain ⟨m1, m2, m3, m4⟩ := mid_in (l := l) (h := h) (by omega)
      have hs := stp_big (w := (h - l).toNat) (by omega)
      cases hb : plain bound (n + 1) (mid l h)
      · have k0 : k = 0 := by
          by_cases h0 : 0 < k
          · have := (hk h0).1; unfold plain at hb; simp at hb; omega
          · omega
        rw [fnd_ack hc hb]
        have := ih (mid l h) h 0 (n + 1) (good_ack g hc) (by omega)
        rw [m3] at this
        omega
      · have hm : bound < mid l h := by unfold plain at hb; simpa using hb
        by_cases hk2 : k = 2
        · subst hk2
          rw [fnd_less hc hb]
          have := ih l (mid l h - 1) 0 (n + 1) (good_less g hc) (by omega)
          rw [m4] at this
          omega
        · rw [fnd_lost hc hb hk2]
          have := ih l h (k + 1) (n + 1) (good_lost g hk2) (fun _ => ⟨hm, hc⟩)
          omega
end Go.Proofs.Ytjoejaclnijacaa.Pm
