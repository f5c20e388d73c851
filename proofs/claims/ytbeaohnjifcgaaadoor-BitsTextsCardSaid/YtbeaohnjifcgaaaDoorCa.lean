/-
  Fields of bits: the reference's Has and Set.
-/
import Derived.Test.YtbeaohnjifcgaaaDoorBz
namespace Go.Proofs.YtbeaohnjifcgaaaDoor.Bh
open Go Go.RowKit Go.Shelf Go.Proofs.YtbeaohnjifcgaaaDoor.Sx Go.Proofs.YtbeaohnjifcgaaaDoor.Na Go.Proofs.YtbeaohnjifcgaaaDoor.Ba

/-- the error of Has and Set -/
def haE (n : Int) (s : ByteArray) (i : Int) : Int := if chk n s = 0 then (if i < 0 ∨ n ≤ i then 7 else 0) else chk n s
def haB (n : Int) (s : ByteArray) (i : Int) : Bool := if haE n s i = 0 then bt s i.toNat else false
def seS (n : Int) (s : ByteArray) (i : Int) (to : Bool) : ByteArray := if haE n s i = 0 then tf n.toNat (upd (bt s) i.toNat to) else ⟨#[]⟩
theorem haE_ok {n : Int} {s : ByteArray} {i : Int} (h : haE n s i = 0) : chk n s = 0 ∧ ∃ N I : Nat, n = N ∧ i = I ∧ I < N ∧ N ≤ 4096 ∧ s.size = (N + 7) / 8 := by
  unfold haE at h
  split at h
  · rename_i hc
    split at h
    · omega
    · rename_i hi
      obtain ⟨N, rfl, h1, h2, _⟩ := vd_t (chk_t hc)
      exact ⟨hc, N, i.toNat, rfl, by omega, by omega, h1, h2⟩
  · rename_i hc; exact absurd h hc

set_option maxRecDepth 100000 in
set_option maxHeartbeats 1600000 in
theorem RHas_any (n : Int) (s : ByteArray) (i : Int) (w : World) (hs : s.size ≤ 140737488351232) :
    Calls Tryd.prog 21 #[.int .i64 n, .string s, .int .i64 i] w fun e w' => e = .returned (.tuple #[.bool (haB n s i), .int .i64 (haE n s i)]) ∧ w = w' := by
  have HC := Lib.hid (fun w => check_any n s w hs)
  by_cases hc : chk n s = 0
  · by_cases hi : i < 0 ∨ n ≤ i
    · have e0 : haE n s i = 7 := by unfold haE; rw [if_pos hc, if_pos hi]
      rw [show haB n s i = false from if_neg (by rw [e0]; decide), e0]
      rw [hc] at HC
      by_cases h1 : i < 0
      · have d1 : decide (i < 0) = true := by simpa using h1
        clear hi hc e0
        go_enter Tryd.func21, Tryd.ntmps21
        go_wp2_with fail
        refine (HC.out _).mono ?_
        rintro e w1 ⟨rfl, rfl⟩
        go_wp2
        go_ret2
        exact ⟨rfl, rfl⟩
      · have d1 : decide (i < 0) = false := by simpa using h1
        have d2 : decide (n ≤ i) = true := by simp; omega
        clear hi hc e0
        go_enter Tryd.func21, Tryd.ntmps21
        go_wp2_with fail
        refine (HC.out _).mono ?_
        rintro e w1 ⟨rfl, rfl⟩
        go_wp2
        go_ret2
        exact ⟨rfl, rfl⟩
    · have e0 : haE n s i = 0 := by unfold haE; rw [if_pos hc, if_neg hi]
      obtain ⟨_, N, I, rfl, rfl, h1, h2, h3⟩ := haE_ok e0
      rw [show haB N s I = bt s I from by unfold haB; rw [if_pos e0, Int.toNat_natCast], e0]
      rw [hc] at HC
      have HT := Lib.hid (at_any s I w (by omega) hs)
      obtain ⟨x, hx⟩ : ∃ x, bt s I = x := ⟨_, rfl⟩
      rw [hx] at HT ⊢
      have d1 : decide ((I : Int) < 0) = false := by simp
      have d2 : decide (N ≤ I) = false := by simp; omega
      clear hi hc e0 hx
      go_enter Tryd.func21, Tryd.ntmps21
      go_wp2_with fail
      refine (HC.out _).mono ?_
      rintro e w1 ⟨rfl, rfl⟩
      go_wp2_with fail
      refine HT.out.mono ?_
      rintro e w1 ⟨rfl, rfl⟩
      go_wp2
      go_ret2
      exact ⟨rfl, rfl⟩
  · have e0 : haE n s i = chk n s := by unfold haE; rw [if_neg hc]
    rw [show haB n s i = false from if_neg (by rw [e0]; exact hc), e0]
    obtain ⟨c, hcc⟩ : ∃ c, chk n s = c := ⟨_, rfl⟩
    rw [hcc] at hc ⊢
    simp only [hcc] at HC
    clear hcc e0
    go_enter Tryd.func21, Tryd.ntmps21
    go_wp2_with fail
    refine (HC.out _).mono ?_
    rintro e w1 ⟨rfl, rfl⟩
    go_wp2
    go_ret2
    exact ⟨rfl, rfl⟩

set_option maxRecDepth 100000 in
set_option maxHeartbeats 1600000 in
theorem RSet_any (n : Int) (s : ByteArray) (i : Int) (to : Bool) (w : World) (hs : s.size ≤ 140737488351232) :
    Calls Tryd.prog 23 #[.int .i64 n, .string s, .int .i64 i, .bool to] w fun e w' => e = .returned (.tuple #[.string (seS n s i to), .int .i64 (haE n s i)]) ∧ w.grownBy w' none := by
  have HH := Lib.hid (fun w => RHas_any n s i w hs)
  by_cases h : haE n s i = 0
  · rw [show seS n s i to = tf n.toNat (upd (bt s) i.toNat to) from if_pos h]
    rw [h] at HH ⊢
    obtain ⟨_, N, I, rfl, rfl, h1, h2, h3⟩ := haE_ok h
    rw [Int.toNat_natCast, Int.toNat_natCast]
    have HT := Lib.hid (fun w => Truths_any N s w (by omega) (by omega) hs)
    have HF := Lib.hid (fun a cap β base w (hT : TL w base a N β) => Field_any a N cap β base w hT (by omega))
    obtain ⟨x, hx⟩ : ∃ x, haB N s I = x := ⟨_, rfl⟩
    simp only [hx] at HH
    obtain ⟨r, hr⟩ : ∃ r, tf N (upd (bt s) I to) = r := ⟨_, rfl⟩
    have HR := Lib.hid hr
    unfold tf at HR
    rw [hr]
    have hlt : (I : Int) < (N : Int) := by omega
    have hn5 : N ≤ 5000 := by omega
    clear hx hr h
    go_enter Tryd.func23, Tryd.ntmps23
    go_wp2_with fail
    refine (HH.out _).mono ?_
    rintro e w1 ⟨rfl, rfl⟩
    go_wp2_with fail
    refine (HT.out _).mono ?_
    rintro e w1 ⟨a, cap, rfl, ht, hg⟩
    obtain ⟨g, rfl, hgb, htb⟩ := ht (by omega)
    have c0 := htb.cell I h1
    have f0 := htb.free I
    have HS := Lib.hid (htb.set I to h1)
    have HGB := Lib.hid hgb
    have HG := Lib.hid hg
    clear ht hg htb hgb
    go_wp2_with fail
    refine (HF.out _ _ (upd (bt s) I to) w.heap.size _ (fun _ => ⟨g, rfl, HGB.out, HS.out⟩)).mono ?_
    rintro e w2 ⟨rfl, hg2⟩
    have HG2 := Lib.hid (gb_trans (gb_new HG.out g I (.bool to) HGB.out) hg2)
    clear hg2
    go_wp2_with fail
    go_ret2
    exact ⟨by rw [HR.out] <;> rfl, HG2.out⟩
  · rw [show seS n s i to = ⟨#[]⟩ from if_neg h]
    obtain ⟨c, hcc⟩ : ∃ c, haE n s i = c := ⟨_, rfl⟩
    obtain ⟨x, hx⟩ : ∃ x, haB n s i = x := ⟨_, rfl⟩
    simp only [hcc, hx] at HH h ⊢
    clear hcc hx
    go_enter Tryd.func23, Tryd.ntmps23
    go_wp2_with fail
    refine (HH.out _).mono ?_
    rintro e w1 ⟨rfl, rfl⟩
    go_wp2
    go_ret2
    exact ⟨rfl, gb_refl _ _⟩
end Go.Proofs.YtbeaohnjifcgaaaDoor.Bh
