/-
  Texts of bits: the program's number.
-/
import Derived.Test.YtbeaohnjifcgaaaDoorCh
namespace Go.Proofs.YtbeaohnjifcgaaaDoor.Da
open Go Go.RowKit Go.Shelf Go.Proofs.YtbeaohnjifcgaaaDoor.Sx Go.Proofs.YtbeaohnjifcgaaaDoor.Na

/-- the number that the first k bytes of a text write -/
def nv (s : ByteArray) : Nat → Nat
  | 0 => 0
  | k + 1 => 10 * nv s k + (by_ s k - 48)
def dgs (s : ByteArray) (k : Nat) : Prop := ∀ j, j < k → 48 ≤ by_ s j ∧ by_ s j ≤ 57
def okN (s : ByteArray) : Prop := 0 < s.size ∧ s.size ≤ 4 ∧ dgs s s.size
theorem nv_lt (s : ByteArray) (k : Nat) (h : dgs s k) : nv s k < 10 ^ k := by
  induction k with
  | zero => simp [nv]
  | succ k ih =>
    have := ih (fun j hj => h j (by omega))
    have := h k (by omega)
    rw [nv, Nat.pow_succ]
    omega
theorem nv_lt4 (s : ByteArray) (k : Nat) (h : dgs s k) (hk : k ≤ 4) : nv s k < 10000 := Nat.lt_of_lt_of_le (nv_lt s k h) (Nat.pow_le_pow_right (by omega) hk)
/-- how number ends -/
def NumR (s : ByteArray) (n : Int) (e : Ending) : Prop :=
  (okN s ∧ (nv s s.size : Int) < n ∧ e = .returned (.int .i64 (nv s s.size : Int))) ∨ (¬ (okN s ∧ (nv s s.size : Int) < n) ∧ e = .panicked [{ v := .iface 24 (.int .i64 2), recovered := false }])
theorem NumR.yes {s : ByteArray} {n : Int} (h : okN s) (hn : (nv s s.size : Int) < n) : NumR s n (.returned (.int .i64 (nv s s.size : Int))) := .inl ⟨h, hn, rfl⟩
theorem NumR.no {s : ByteArray} {n : Int} (h : ¬ (okN s ∧ (nv s s.size : Int) < n)) : NumR s n (.panicked [{ v := .iface 24 (.int .i64 2), recovered := false }]) := .inr ⟨h, rfl⟩

set_option maxRecDepth 100000 in
set_option maxHeartbeats 2000000 in
theorem number_any (s : ByteArray) (n : Int) (w : World) :
    Calls Tryd.prog 100 #[.string s, .int .i64 n] w fun e w' => NumR s n e ∧ w.grownBy w' none := by
  have HN := Lib.hid (fun k w => Bc.refuse_no k w)
  have HY := Lib.hid (fun k w => Bc.refuse_yes k w)
  by_cases h0 : s.size = 0
  · have d0 : (s.size : Int) = 0 := by omega
    have HR := Lib.hid (NumR.no (s := s) (n := n) (fun h => by have := h.1.1; omega))
    go_enter Tryd.func100, Tryd.ntmps100
    go_wp2_with fail
    refine (HY.out _ _).mono ?_
    rintro e w1 ⟨rfl, rfl⟩
    exact ⟨rfl, HR.out, gb_refl _ _⟩
  · have d0 : ¬ (s.size : Int) = 0 := by omega
    have e0 : ((s.size : Int) == 0) = false := by rw [beq_eq_false_iff_ne]; exact d0
    by_cases h4 : 4 < s.size
    · have d4 : (4 : Int) < (s.size : Int) := by omega
      have HR := Lib.hid (NumR.no (s := s) (n := n) (fun h => by have := h.1.2.1; omega))
      go_enter Tryd.func100, Tryd.ntmps100
      go_wp2_with fail
      refine (HY.out _ _).mono ?_
      rintro e w1 ⟨rfl, rfl⟩
      exact ⟨rfl, HR.out, gb_refl _ _⟩
    · have d4 : ¬ (4 : Int) < (s.size : Int) := by omega
      have HSZ := Lib.hid (show 0 < s.size ∧ s.size ≤ 4 by omega)
      have hz4 : s.size ≤ 4 := by omega
      go_enter Tryd.func100, Tryd.ntmps100
      go_wp2_with fail
      refine (HN.out _ _).mono ?_
      rintro e w1 ⟨rfl, rfl⟩
      go_wp2_with fail
      go_loopw [5, 18] (fun v i wr => ∃ k : Nat, k ≤ s.size ∧ i = .int .i64 (k : Int) ∧ v = .int .i64 (nv s k : Int) ∧ Hid (dgs s k) ∧ Hid (w.grownBy wr none)) (fun _ i _ => s.size - (intOf i).toNat)
      case atStart => exact ⟨0, by omega, rfl, rfl, Lib.hid (fun j hj => absurd hj (by omega)), Lib.hid (gb_refl _ _)⟩
      case round =>
        obtain ⟨k, hk, rfl, rfl, HD, HG⟩ := hrel
        have hv := nv_lt4 s k HD.out (by omega)
        by_cases hlt : k < s.size
        · have hb := by_at s k hlt
          have hb256 := by_lt s k
          have hlt' : (k : Int) < (s.size : Int) := by omega
          obtain ⟨b, hbb⟩ : ∃ b, by_ s k = b := ⟨_, rfl⟩
          rw [hbb] at hb hb256
          by_cases hd : 48 ≤ b ∧ b ≤ 57
          · have c1 : ¬ (b : Int) < 48 := by omega
            have c2 : ¬ (57 : Int) < (b : Int) := by omega
            have hw1 : IntKind.u8.wrap ((b : Int) - 48) = (b : Int) - 48 := by rw [IntKind.wrap_u8]; omega
            have HD2 : Hid (dgs s (k + 1)) := Lib.hid (fun j hj => by
              rcases Nat.lt_or_ge j k with h | h
              · exact HD.out j h
              · obtain rfl : j = k := by omega
                rw [hbb]; exact hd)
            have HV : Hid ((nv s (k + 1) : Int) = 10 * (nv s k : Int) + ((b : Int) - 48)) := Lib.hid (by rw [nv, hbb]; omega)
            obtain ⟨v, hvv⟩ : ∃ v, nv s k = v := ⟨_, rfl⟩
            rw [hvv] at hv HV ⊢
            clear hvv hd hbb
            go_wp2_with fail
            refine (HN.out _ _).mono ?_
            rintro e w1 ⟨rfl, rfl⟩
            go_wp2_with fail
            exact ⟨⟨k + 1, by omega, by rfl, by rw [HV.out], HD2, HG⟩, by simp [intOf]; omega⟩
          · have HR := Lib.hid (NumR.no (s := s) (n := n) (fun h => by have := h.1.2.2 k hlt; rw [hbb] at this; omega))
            clear hbb
            by_cases hd1 : b < 48
            · have c1 : (b : Int) < 48 := by omega
              clear hd hd1
              go_wp2_with fail
              refine (HY.out _ _).mono ?_
              rintro e w1 ⟨rfl, rfl⟩
              exact ⟨rfl, HR.out, HG.out⟩
            · have c1 : ¬ (b : Int) < 48 := by omega
              have c2 : (57 : Int) < (b : Int) := by omega
              clear hd hd1
              go_wp2_with fail
              refine (HY.out _ _).mono ?_
              rintro e w1 ⟨rfl, rfl⟩
              exact ⟨rfl, HR.out, HG.out⟩
        · obtain rfl : k = s.size := by omega
          have hnlt : ¬ ((s.size : Int) < (s.size : Int)) := by omega
          have HOK : Hid (okN s) := Lib.hid ⟨HSZ.out.1, HSZ.out.2, HD.out⟩
          by_cases hn : (nv s s.size : Int) < n
          · have HR := Lib.hid (NumR.yes HOK.out hn)
            obtain ⟨v, hvv⟩ : ∃ v, nv s s.size = v := ⟨_, rfl⟩
            rw [hvv] at hv hn HR ⊢
            have c3 : ¬ n ≤ (v : Int) := by omega
            clear hvv hn
            go_wp2_with fail
            refine (HN.out _ _).mono ?_
            rintro e w1 ⟨rfl, rfl⟩
            go_wp2
            go_ret
            exact ⟨HR.out, HG.out⟩
          · have HR := Lib.hid (NumR.no (s := s) (n := n) (fun h => hn h.2))
            obtain ⟨v, hvv⟩ : ∃ v, nv s s.size = v := ⟨_, rfl⟩
            rw [hvv] at hv hn ⊢
            have c3 : n ≤ (v : Int) := by omega
            clear hvv hn
            go_wp2_with fail
            refine (HY.out _ _).mono ?_
            rintro e w1 ⟨rfl, rfl⟩
            exact ⟨rfl, HR.out, HG.out⟩
end Go.Proofs.YtbeaohnjifcgaaaDoor.Da
