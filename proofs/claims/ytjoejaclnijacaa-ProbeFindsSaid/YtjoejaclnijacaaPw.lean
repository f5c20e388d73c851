/-
  The reference's Find; ProbeFinds' walk.
-/
import Derived.Test.YtjoejaclnijacaaPv
import Derived.Test.YtjoejaclnijacaaBr
namespace Go.Proofs.Ytjoejaclnijacaa.Ps
open Go Go.RowKit Go.Proofs.Ytjoejaclnijacaa.Sx Go.Proofs.Ytjoejaclnijacaa.Pm

/-- the reference's search between two probes -/
def RI (w : World) (c : Nat) (H : Int) (lb : Nat → Int → Bool) (r : Int × Nat) (W : World) : Prop :=
  w.grownBy W none ∧ ∃ (l h m : Int) (k n f : Nat), Rb W c l h H (fB l h) 0 0 0 n k m ∧ 576 ≤ l ∧ h ≤ 9000 ∧ good f l h k ∧ n + f = 30 ∧ fnd lb f l h k n = r ∧ (0 < k → m = mid l h)
def mzr (c : Nat) (W : World) : Nat := match W.cell? ⟨c, 7, none⟩ with | some (.int _ t) => (31 - t).toNat | _ => 0
theorem mzr_at {W : World} {c : Nat} {l h f : Int} {b : Bool} {s t z q k m : Int} (H : Rb W c l h f b s t z q k m) : mzr c W = (31 - q).toNat := by unfold mzr; rw [H.c7]

section
variable {w W3 : World} {C : Nat} {H l h : Int} {lb : Nat → Int → Bool} {r : Int × Nat} {k q f : Nat}
theorem rstep_less (hg : w.grownBy W3 none) (b1 : 576 ≤ l) (b2 : h ≤ 9000) (hgood : good (f + 1) l h 2) (hq : q + (f + 1) = 30) (hf : fnd lb (f + 1) l h 2 q = r) (h16 : 16 ≤ h - l) (hb : lb (q + 1) (mid l h) = true)
    (HS : Rb W3 C l (mid l h - 1) H (fB l (mid l h - 1)) 0 0 0 ((q : Int) + 1) 0 (mid l h)) : RI w C H lb r W3 := by
  have hm := mid_in (l := l) (h := h) h16
  rw [fnd_less (by omega) hb] at hf
  exact ⟨hg, l, mid l h - 1, mid l h, 0, q + 1, f, HS, b1, by omega, good_less hgood (by omega), by omega, hf, fun h => absurd h (by omega)⟩
theorem rstep_lost (hg : w.grownBy W3 none) (b1 : 576 ≤ l) (b2 : h ≤ 9000) (hgood : good (f + 1) l h k) (hk : k ≠ 2) (hq : q + (f + 1) = 30) (hf : fnd lb (f + 1) l h k q = r) (h16 : 16 ≤ h - l) (hb : lb (q + 1) (mid l h) = true)
    (HS : Rb W3 C l h H false 0 0 0 ((q : Int) + 1) ((k : Int) + 1) (mid l h)) : RI w C H lb r W3 := by
  have e : fB l h = false := by simp [fB]; omega
  rw [fnd_lost (by omega) hb hk] at hf
  exact ⟨hg, l, h, mid l h, k + 1, q + 1, f, by rw [e]; exact HS, b1, b2, good_lost hgood hk, by omega, hf, fun _ => rfl⟩
theorem rstep_ack (hg : w.grownBy W3 none) (b1 : 576 ≤ l) (b2 : h ≤ 9000) (hgood : good (f + 1) l h k) (hq : q + (f + 1) = 30) (hf : fnd lb (f + 1) l h k q = r) (h16 : 16 ≤ h - l) (hb : lb (q + 1) (mid l h) = false)
    (HS : Rb W3 C (mid l h) h H (fB (mid l h) h) 0 0 0 ((q : Int) + 1) 0 (mid l h)) : RI w C H lb r W3 := by
  have hm := mid_in (l := l) (h := h) h16
  rw [fnd_ack (by omega) hb] at hf
  exact ⟨hg, mid l h, h, mid l h, 0, q + 1, f, HS, by omega, b2, good_ack hgood (by omega), by omega, hf, fun h => absurd h (by omega)⟩
end

set_option maxHeartbeats 1600000 in
theorem RFind_no (l h bound : Int) (a : Option Addr) (len cap : Nat) (w : World) (H : (rightB l h && bndB bound) = false) :
    Calls Try.prog 8 #[.int .i64 l, .int .i64 h, .int .i64 bound, .slice a len cap] w fun e w' => e = .returned (.tuple #[.int .i64 0, .int .i64 0, .int .i64 7]) ∧ w.grownBy w' none := by
  cases h1 : rightB l h
  · have HR := Lib.hid (Right_f l h h1)
    clear h1 H
    go_enter Try.func8, Try.ntmps8
    go_wp2_with fail
    refine (HR.out _).mono ?_
    rintro e w1 ⟨rfl, rfl⟩
    go_wp2
    exact bodyPost_ret (v := .tuple #[.int .i64 0, .int .i64 0, .int .i64 7]) (by simp [results, Try.results8, go_sem]) rfl ⟨rfl, gb_refl _ _⟩
  · have HR := Lib.hid (Right_t l h h1)
    have hb := bndB_f (b := bound) (by rw [h1] at H; simpa using H)
    clear h1 H
    by_cases c1 : bound < 0
    · clear hb
      go_enter Try.func8, Try.ntmps8
      go_wp2_with fail
      refine (HR.out _).mono ?_
      rintro e w1 ⟨rfl, rfl⟩
      go_wp2
      exact bodyPost_ret (v := .tuple #[.int .i64 0, .int .i64 0, .int .i64 7]) (by simp [results, Try.results8, go_sem]) rfl ⟨rfl, gb_refl _ _⟩
    · have c2 : 10000 < bound := by omega
      clear hb
      go_enter Try.func8, Try.ntmps8
      go_wp2_with fail
      refine (HR.out _).mono ?_
      rintro e w1 ⟨rfl, rfl⟩
      go_wp2
      exact bodyPost_ret (v := .tuple #[.int .i64 0, .int .i64 0, .int .i64 7]) (by simp [results, Try.results8, go_sem]) rfl ⟨rfl, gb_refl _ _⟩

set_option maxRecDepth 1000000 in
set_option maxHeartbeats 8000000 in
theorem RFind_ok (l h bound : Int) (a : Option Addr) (len cap : Nat) (ch : Nat → Bool) (w : World) (hr : rightB l h = true) (hb : bndB bound = true) (hrow : BRow w a len ch) (hlen : len ≤ 1000000) :
    Calls Try.prog 8 #[.int .i64 l, .int .i64 h, .int .i64 bound, .slice a len cap] w fun e w' => e = .returned (.tuple #[.int .i64 (fnd (lbf bound len ch) 30 l h 0 0).1, .int .i64 (fnd (lbf bound len ch) 30 l h 0 0).2, .int .i64 0]) ∧ w.grownBy w' none := by
  have HRow := Lib.hid hrow
  obtain ⟨hb0, hb1⟩ := bndB_t hb
  have HR := Lib.hid (Right_t l h hr)
  have HN := Lib.hid (fun w => RNew_ok l h w hr)
  obtain ⟨l1, l2, l3⟩ := rightB_t hr
  obtain ⟨r, hr'⟩ : ∃ r, fnd (lbf bound len ch) 30 l h 0 0 = r := ⟨_, rfl⟩
  rw [hr']
  have HF0 := Lib.hid hr'
  clear hrow hb hr hr'
  go_enter Try.func8, Try.ntmps8
  go_wp2_with fail
  refine (HR.out _).mono ?_
  rintro e w1 ⟨rfl, rfl⟩
  go_wp2_with fail
  refine (HN.out _).mono ?_
  rintro e w1 ⟨rfl, H1, g1⟩
  obtain ⟨c, hc⟩ : ∃ c, w.heap.size = c := ⟨_, rfl⟩
  rw [hc] at H1
  simp only [hc]
  have HRI : Hid (RI w c h (lbf bound len ch) r w1) := Lib.hid ⟨g1, l, h, 0, 0, 0, 30, H1, l1, l2, good_start l1 l3 l2, rfl, HF0.out, fun h => absurd h (by omega)⟩
  have Hc := Lib.hid hc
  clear H1 g1 hc HF0 HN HR
  go_wp2
  go_loopw [13, 16] (fun _ _ wr => Hid (RI w c h (lbf bound len ch) r wr)) (fun _ _ wr => mzr c wr)
  case atStart => exact HRI
  case round =>
    have HJ := hrel
    clear hrel
    obtain ⟨hg, l', h', m, k, q, f, HS, b1, b2, hgood, hq, hf, hka⟩ := HJ.out
    have hk2 := hgood.2.1
    have hlh := hgood.1
    have hmz := Lib.hid (mzr_at HS)
    have HG := Lib.hid hg
    have HGood := Lib.hid hgood
    have HF := Lib.hid hf
    by_cases hcl : h' - l' < 16
    · have e1 : fB l' h' = true := by simpa [fB] using hcl
      rw [e1] at HS
      have HE : Hid ((l', q) = r) := Lib.hid (by rw [fnd_end hcl] at hf; exact hf)
      have HSH := Lib.hid HS
      clear hg hgood hf hka HS HJ e1 hq hmz
      go_wp2_with fail
      refine (RState_2 _ _ _ _ _ _ _ _ _ HSH.out).mono ?_
      rintro e w2 ⟨rfl, g2⟩
      have H2 := HSH.out.kept g2 (by simp)
      have c0 := H2.c0
      have c7 := H2.c7
      have G2 := Lib.hid (gb_trans HG.out g2)
      clear H2 g2
      go_wp2_with fail
      go_quiet (fail)
      go_wp2
      exact bodyPost_ret (v := .tuple #[.int .i64 l', .int .i64 q, .int .i64 0]) (by simp [results, Try.results8, go_sem]) rfl ⟨by rw [← HE.out], gb_trans G2.out (gb_drew _ _ _)⟩
    · have h16 : 16 ≤ h' - l' := by omega
      have e1 : fB l' h' = false := by simpa [fB] using hcl
      rw [e1] at HS
      obtain ⟨f', rfl⟩ := good_pos hgood hcl
      have hm := mid_in (l := l') (h := h') h16
      have q30 : q < 30 := by omega
      have HQ := Lib.hid hq
      have c7 := HS.c7
      have dq : ((q : Int) == 1000) = false := by simp; omega
      have HSH := Lib.hid HS
      have HKA := Lib.hid hka
      have m1 := hm.1
      have m2 := hm.2.1
      have HHC : Hid (∀ i, i < len → ∃ b off, a = some ⟨b, off, none⟩ ∧ b < w.heap.size ∧ w.cell? ⟨b, off + i, none⟩ = some (.bool (ch i))) := HRow
      clear hg hgood hf hka HS HJ hq hm hcl e1
      go_wp2_with fail
      refine (RState_0 _ _ _ _ _ _ _ _ _ _ _ HSH.out).mono ?_
      rintro e w2 ⟨rfl, g2⟩
      have H2 := HSH.out.kept g2 (by simp)
      have c7' := H2.c7
      have H2H := Lib.hid H2
      have G2 := Lib.hid (gb_trans HG.out g2)
      clear H2 g2 c7
      go_wp2_with fail
      refine (RNext_go _ _ _ _ _ _ _ _ H2H.out (by omega) b2 h16 (by omega) (by omega)).mono ?_
      rintro e w3 ⟨rfl, H3, g3⟩
      rw [nk_same HKA.out] at H3
      have H3H := Lib.hid H3
      have G3 := Lib.hid (gb_mark G2.out g3 (by rw [Hc.out]; exact Nat.le_refl _))
      clear H3 g3 c7' dq
      have FIN : Hid (∀ W', RI w c h (lbf bound len ch) r W' → (∃ l3 h3 m3 k3, ∃ b3, Rb W' c l3 h3 h b3 0 0 0 ((q : Int) + 1) k3 m3) → mzr c W' < mzr c wr) := Lib.hid (fun W' _ ⟨_, _, _, _, _, h3⟩ => by rw [mzr_at h3, hmz.out]; omega)
      have LOSS : Hid (lbf bound len ch (q + 1) (mid l' h') = true → Calls Try.prog 33 #[.pointer (some ⟨c, 0, none⟩), .int .i64 0, .int .i64 ((q : Int) + 1), .bool false] w3 fun e w' => e = .returned (.int .i64 0) ∧ RI w c h (lbf bound len ch) r w' ∧ mzr c w' < mzr c wr) := Lib.hid (fun hlb => by
        by_cases hk : k = 2
        · subst hk
          refine (RLost_less c l' h' h ((q : Int) + 1) (mid l' h') (mid l' h') w3 H3H.out (by omega) (by omega) (by omega) (by omega) (by omega)).mono ?_
          rintro e w4 ⟨he, H4, g4⟩
          have := rstep_less (gb_mark G3.out g4 (by rw [Hc.out]; exact Nat.le_refl _)) b1 b2 HGood.out HQ.out HF.out h16 hlb H4
          exact ⟨he, this, FIN.out _ this ⟨_, _, _, _, _, H4⟩⟩
        · refine (RLost_lost c l' h' h ((q : Int) + 1) (mid l' h') (mid l' h') k w3 H3H.out (by omega) (by omega) (by omega) (by omega)).mono ?_
          rintro e w4 ⟨he, H4, g4⟩
          have := rstep_lost (gb_mark G3.out g4 (by rw [Hc.out]; exact Nat.le_refl _)) b1 b2 HGood.out hk HQ.out HF.out h16 hlb H4
          exact ⟨he, this, FIN.out _ this ⟨_, _, _, _, _, H4⟩⟩)
      have ACK : Hid (lbf bound len ch (q + 1) (mid l' h') = false → Calls Try.prog 34 #[.pointer (some ⟨c, 0, none⟩), .int .i64 0, .int .i64 ((q : Int) + 1)] w3 fun e w' => e = .returned (.int .i64 0) ∧ RI w c h (lbf bound len ch) r w' ∧ mzr c w' < mzr c wr) := Lib.hid (fun hlb => by
        refine (RAcked_ok c l' h' h ((q : Int) + 1) k (mid l' h') (mid l' h') w3 H3H.out (by omega) (by omega) b2 (by omega)).mono ?_
        rintro e w4 ⟨he, H4, g4⟩
        have := rstep_ack (gb_mark G3.out g4 (by rw [Hc.out]; exact Nat.le_refl _)) b1 b2 HGood.out HQ.out HF.out h16 hlb H4
        exact ⟨he, this, FIN.out _ this ⟨_, _, _, _, _, H4⟩⟩)
      by_cases c2 : q + 1 ≤ len
      · obtain ⟨b, off, rfl, hbw, cw⟩ := HHC.out q (by omega)
        have ccell : w3.cell? ⟨b, off + q, none⟩ = some (.bool (ch q)) := gb_cell G3.out cw (by simp)
        have i1 : (q : Int) + 1 ≤ (len : Int) := by omega
        obtain ⟨v, hv⟩ : ∃ v, ch q = v := ⟨_, rfl⟩
        rw [hv] at ccell
        have hlb0 : lbf bound len ch (q + 1) (mid l' h') = (decide (bound < mid l' h') || v) := by unfold lbf; rw [show decide (q + 1 ≤ len) = true from by simpa using c2]; simp [hv]
        clear hv cw
        cases v
        · by_cases c1 : bound < mid l' h'
          · have hlb : lbf bound len ch (q + 1) (mid l' h') = true := by rw [hlb0]; simp [c1]
            clear hlb0
            go_wp2_with fail
            refine (LOSS.out hlb).mono ?_
            rintro e w4 ⟨rfl, H4, hmu⟩
            have HE := Lib.hid H4
            clear H4
            go_wp2
            go_roundw
            case rel => exact HE
            case measure => exact hmu
          · have hlb : lbf bound len ch (q + 1) (mid l' h') = false := by rw [hlb0]; simp [c1]
            clear hlb0
            go_wp2_with fail
            refine (ACK.out hlb).mono ?_
            rintro e w4 ⟨rfl, H4, hmu⟩
            have HE := Lib.hid H4
            clear H4
            go_wp2
            go_roundw
            case rel => exact HE
            case measure => exact hmu
        · have hlb : lbf bound len ch (q + 1) (mid l' h') = true := by rw [hlb0]; simp
          clear hlb0
          go_wp2_with fail
          refine (LOSS.out hlb).mono ?_
          rintro e w4 ⟨rfl, H4, hmu⟩
          have HE := Lib.hid H4
          clear H4
          go_wp2
          go_roundw
          case rel => exact HE
          case measure => exact hmu
      · have i1 : (len : Int) < (q : Int) + 1 := by omega
        have hlb0 : lbf bound len ch (q + 1) (mid l' h') = decide (bound < mid l' h') := by unfold lbf; rw [show decide (q + 1 ≤ len) = false from by simpa using c2]; simp
        by_cases c1 : bound < mid l' h'
        · have hlb : lbf bound len ch (q + 1) (mid l' h') = true := by rw [hlb0]; simp [c1]
          clear hlb0
          go_wp2_with fail
          refine (LOSS.out hlb).mono ?_
          rintro e w4 ⟨rfl, H4, hmu⟩
          have HE := Lib.hid H4
          clear H4
          go_wp2
          go_roundw
          case rel => exact HE
          case measure => exact hmu
        · have hlb : lbf bound len ch (q + 1) (mid l' h') = false := by rw [hlb0]; simp [c1]
          clear hlb0
          go_wp2_with fail
          refine (ACK.out hlb).mono ?_
          rintro e w4 ⟨rfl, H4, hmu⟩
          have HE := Lib.hid H4
          clear H4
          go_wp2
          go_roundw
          case rel => exact HE
          case measure => exact hmu
end Go.Proofs.Ytjoejaclnijacaa.Ps
