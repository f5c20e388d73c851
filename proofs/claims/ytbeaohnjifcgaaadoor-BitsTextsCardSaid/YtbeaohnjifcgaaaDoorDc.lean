/-
  Texts of bits: the reference's Digits.
-/
import Derived.Test.YtbeaohnjifcgaaaDoorDb
namespace Go.Proofs.YtbeaohnjifcgaaaDoor.Db
open Go Go.RowKit Go.Shelf Go.Proofs.YtbeaohnjifcgaaaDoor.Sx Go.Proofs.YtbeaohnjifcgaaaDoor.Na Go.Proofs.YtbeaohnjifcgaaaDoor.Ba Go.Proofs.YtbeaohnjifcgaaaDoor.Bh Go.Proofs.YtbeaohnjifcgaaaDoor.Da

theorem nv_mono (s : ByteArray) {j k : Nat} (h : j ≤ k) : nv s j ≤ nv s k := by
  induction k with
  | zero => obtain rfl : j = 0 := by omega
            exact Nat.le_refl _
  | succ k ih =>
    rcases Nat.lt_or_ge k j with h' | h'
    · obtain rfl : j = k + 1 := by omega
      exact Nat.le_refl _
    · have := ih h'
      rw [nv]; omega
/-- a number written as the page writes it, up to 4096 -/
def canon (s : ByteArray) : Prop := 0 < s.size ∧ dgs s s.size ∧ (s.size = 1 ∨ by_ s 0 ≠ 48) ∧ nv s s.size ≤ 4096
/-- how Digits ends, up to 4096 -/
def DigR (s : ByteArray) (e : Ending) : Prop := ∃ v : Int, e = .returned (.int .i64 v) ∧ -1 ≤ v ∧ v ≤ 4096 ∧ (canon s → v = (nv s s.size : Int))
theorem DigR.no {s : ByteArray} (h : ¬ canon s) : DigR s (.returned (.int .i64 (-1))) := ⟨-1, rfl, by omega, by omega, fun c => absurd c h⟩
theorem DigR.yes {s : ByteArray} (h : nv s s.size ≤ 4096) : DigR s (.returned (.int .i64 (nv s s.size : Int))) := ⟨_, rfl, by omega, by omega, fun _ => rfl⟩

set_option maxRecDepth 100000 in
set_option maxHeartbeats 2000000 in
theorem Digits_a (s : ByteArray) (w : World) (hsz : s.size ≤ 100000) (h0 : s.toList.isEmpty = false) (hpos : 0 < s.size) (b0 : Nat) (hb0l : b0 < 256) (hb0 : s[0].toNat = b0) (hposI : (0 : Int) < (s.size : Int)) (t1 : (b0 : Int) = 48) (t2 : ¬ (1 : Int) < (s.size : Int)) :
    Calls Tryd.prog 102 #[.string s, .int .i64 4096] w fun e w' => DigR s e ∧ w.grownBy w' none := by
  go_enter Tryd.func102, Tryd.ntmps102
  go_wp2_with fail
  go_loopw [5, 22] (fun v i wr => ∃ k : Nat, k ≤ s.size ∧ i = .int .i64 (k : Int) ∧ v = .int .i64 (nv s k : Int) ∧ nv s k ≤ 4096 ∧ Hid (dgs s k) ∧ Hid (w.grownBy wr none)) (fun _ i _ => s.size - (intOf i).toNat)
  case atStart => exact ⟨0, by omega, rfl, rfl, by simp [nv], Lib.hid (fun j hj => absurd hj (by omega)), Lib.hid (gb_refl _ _)⟩
  case round =>
    obtain ⟨k, hk, rfl, rfl, hv, HD, HG⟩ := hrel
    by_cases hlt : k < s.size
    · have hb := by_at s k hlt
      have hb256 := by_lt s k
      have hlt' : (k : Int) < (s.size : Int) := by omega
      obtain ⟨b, hbb⟩ : ∃ b, by_ s k = b := ⟨_, rfl⟩
      rw [hbb] at hb hb256
      by_cases hd : 48 ≤ b ∧ b ≤ 57
      · have c1 : ¬ (b : Int) < 48 := by omega
        have c2 : ¬ (57 : Int) < (b : Int) := by omega
        have hw1 : IntKind.u8.wrap ((b : Int) - 48) = (b : Int) - 48 := by rw [IntKind.wrap_u8]; omega
        have HD2 : Hid (dgs s (k + 1)) := Lib.hid (fun j hj => by
          rcases Nat.lt_or_ge j k with h | h
          · exact HD.out j h
          · obtain rfl : j = k := by omega
            rw [hbb]; exact hd)
        have HV : Hid (nv s (k + 1) = 10 * nv s k + (b - 48)) := Lib.hid (by rw [nv, hbb])
        obtain ⟨v, hvv⟩ : ∃ v, nv s k = v := ⟨_, rfl⟩
        rw [hvv] at hv HV ⊢
        obtain ⟨q, hq⟩ : ∃ q : Int, (4096 - ((b : Int) - 48)) / 10 = q := ⟨_, rfl⟩
        by_cases ho : 4096 < 10 * v + (b - 48)
        · have HR := Lib.hid (DigR.no (s := s) (fun h => by
            have h1 := h.2.2.2
            have h2 := nv_mono s (show k + 1 ≤ s.size by omega)
            have h3 := HV.out
            omega))
          have c3 : q < (v : Int) := by omega
          have bb1 : 48 ≤ b := hd.1
          have bb2 : b ≤ 57 := hd.2
          clear hvv hd hbb ho
          go_wp2_with fail
          go_ret
          exact ⟨HR.out, HG.out⟩
        · have c3 : ¬ q < (v : Int) := by omega
          have bb1 : 48 ≤ b := hd.1
          have bb2 : b ≤ 57 := hd.2
          have HV2 : Hid (((v : Int) * 10 + ((b : Int) - 48)) = (nv s (k + 1) : Int)) := Lib.hid (by have := HV.out; omega)
          have HV3 : Hid (nv s (k + 1) ≤ 4096) := Lib.hid (by have := HV.out; omega)
          clear hvv hd hbb ho
          go_wp2_with fail
          exact ⟨⟨k + 1, by omega, by rfl, by rw [← HV2.out], HV3.out, HD2, HG⟩, by simp [intOf]; omega⟩
      · have HR := Lib.hid (DigR.no (s := s) (fun h => by have := h.2.1 k hlt; rw [hbb] at this; omega))
        clear hbb
        by_cases hd1 : b < 48
        · have c1 : (b : Int) < 48 := by omega
          clear hd hd1
          go_wp2_with fail
          go_ret
          exact ⟨HR.out, HG.out⟩
        · have c1 : ¬ (b : Int) < 48 := by omega
          have c2 : (57 : Int) < (b : Int) := by omega
          clear hd hd1
          go_wp2_with fail
          go_ret
          exact ⟨HR.out, HG.out⟩
    · obtain rfl : k = s.size := by omega
      have hnlt : ¬ ((s.size : Int) < (s.size : Int)) := by omega
      have HR := Lib.hid (DigR.yes hv)
      obtain ⟨v, hvv⟩ : ∃ v, nv s s.size = v := ⟨_, rfl⟩
      rw [hvv] at hv HR ⊢
      clear hvv
      go_wp2_with fail
      go_ret
      exact ⟨HR.out, HG.out⟩
set_option maxRecDepth 100000 in
set_option maxHeartbeats 2000000 in
theorem Digits_b (s : ByteArray) (w : World) (hsz : s.size ≤ 100000) (h0 : s.toList.isEmpty = false) (hpos : 0 < s.size) (b0 : Nat) (hb0l : b0 < 256) (hb0 : s[0].toNat = b0) (hposI : (0 : Int) < (s.size : Int)) (t1 : ¬ (b0 : Int) = 48) :
    Calls Tryd.prog 102 #[.string s, .int .i64 4096] w fun e w' => DigR s e ∧ w.grownBy w' none := by
  go_enter Tryd.func102, Tryd.ntmps102
  go_wp2_with fail
  go_loopw [5, 22] (fun v i wr => ∃ k : Nat, k ≤ s.size ∧ i = .int .i64 (k : Int) ∧ v = .int .i64 (nv s k : Int) ∧ nv s k ≤ 4096 ∧ Hid (dgs s k) ∧ Hid (w.grownBy wr none)) (fun _ i _ => s.size - (intOf i).toNat)
  case atStart => exact ⟨0, by omega, rfl, rfl, by simp [nv], Lib.hid (fun j hj => absurd hj (by omega)), Lib.hid (gb_refl _ _)⟩
  case round =>
    obtain ⟨k, hk, rfl, rfl, hv, HD, HG⟩ := hrel
    by_cases hlt : k < s.size
    · have hb := by_at s k hlt
      have hb256 := by_lt s k
      have hlt' : (k : Int) < (s.size : Int) := by omega
      obtain ⟨b, hbb⟩ : ∃ b, by_ s k = b := ⟨_, rfl⟩
      rw [hbb] at hb hb256
      by_cases hd : 48 ≤ b ∧ b ≤ 57
      · have c1 : ¬ (b : Int) < 48 := by omega
        have c2 : ¬ (57 : Int) < (b : Int) := by omega
        have hw1 : IntKind.u8.wrap ((b : Int) - 48) = (b : Int) - 48 := by rw [IntKind.wrap_u8]; omega
        have HD2 : Hid (dgs s (k + 1)) := Lib.hid (fun j hj => by
          rcases Nat.lt_or_ge j k with h | h
          · exact HD.out j h
          · obtain rfl : j = k := by omega
            rw [hbb]; exact hd)
        have HV : Hid (nv s (k + 1) = 10 * nv s k + (b - 48)) := Lib.hid (by rw [nv, hbb])
        obtain ⟨v, hvv⟩ : ∃ v, nv s k = v := ⟨_, rfl⟩
        rw [hvv] at hv HV ⊢
        obtain ⟨q, hq⟩ : ∃ q : Int, (4096 - ((b : Int) - 48)) / 10 = q := ⟨_, rfl⟩
        by_cases ho : 4096 < 10 * v + (b - 48)
        · have HR := Lib.hid (DigR.no (s := s) (fun h => by
            have h1 := h.2.2.2
            have h2 := nv_mono s (show k + 1 ≤ s.size by omega)
            have h3 := HV.out
            omega))
          have c3 : q < (v : Int) := by omega
          have bb1 : 48 ≤ b := hd.1
          have bb2 : b ≤ 57 := hd.2
          clear hvv hd hbb ho
          go_wp2_with fail
          go_ret
          exact ⟨HR.out, HG.out⟩
        · have c3 : ¬ q < (v : Int) := by omega
          have bb1 : 48 ≤ b := hd.1
          have bb2 : b ≤ 57 := hd.2
          have HV2 : Hid (((v : Int) * 10 + ((b : Int) - 48)) = (nv s (k + 1) : Int)) := Lib.hid (by have := HV.out; omega)
          have HV3 : Hid (nv s (k + 1) ≤ 4096) := Lib.hid (by have := HV.out; omega)
          clear hvv hd hbb ho
          go_wp2_with fail
          exact ⟨⟨k + 1, by omega, by rfl, by rw [← HV2.out], HV3.out, HD2, HG⟩, by simp [intOf]; omega⟩
      · have HR := Lib.hid (DigR.no (s := s) (fun h => by have := h.2.1 k hlt; rw [hbb] at this; omega))
        clear hbb
        by_cases hd1 : b < 48
        · have c1 : (b : Int) < 48 := by omega
          clear hd hd1
          go_wp2_with fail
          go_ret
          exact ⟨HR.out, HG.out⟩
        · have c1 : ¬ (b : Int) < 48 := by omega
          have c2 : (57 : Int) < (b : Int) := by omega
          clear hd hd1
          go_wp2_with fail
          go_ret
          exact ⟨HR.out, HG.out⟩
    · obtain rfl : k = s.size := by omega
      have hnlt : ¬ ((s.size : Int) < (s.size : Int)) := by omega
      have HR := Lib.hid (DigR.yes hv)
      obtain ⟨v, hvv⟩ : ∃ v, nv s s.size = v := ⟨_, rfl⟩
      rw [hvv] at hv HR ⊢
      clear hvv
      go_wp2_with fail
      go_ret
      exact ⟨HR.out, HG.out⟩
set_option maxRecDepth 100000 in
set_option maxHeartbeats 2000000 in
theorem Digits_any (s : ByteArray) (w : World) (hsz : s.size ≤ 100000) :
    Calls Tryd.prog 102 #[.string s, .int .i64 4096] w fun e w' => DigR s e ∧ w.grownBy w' none := by
  by_cases h0 : s.toList.isEmpty = true
  · have hz : s.size = 0 := by rw [← len_data]; rw [ByteArray.toList_eq, List.isEmpty_iff] at h0; rw [h0]; rfl
    have HR := Lib.hid (DigR.no (s := s) (fun h => by have := h.1; omega))
    clear hz
    go_enter Tryd.func102, Tryd.ntmps102
    go_wp2
    go_ret
    exact ⟨HR.out, gb_refl _ _⟩
  · rw [Bool.not_eq_true] at h0
    have hpos : 0 < s.size := by
      rcases Nat.eq_zero_or_pos s.size with h | h
      · exfalso
        rw [← len_data] at h
        rw [ByteArray.toList_eq, List.length_eq_zero_iff.1 h] at h0
        exact absurd h0 (by decide)
      · exact h
    have hb0 := by_at s 0 hpos
    have hb0l := by_lt s 0
    obtain ⟨b0, hbb0⟩ : ∃ b, by_ s 0 = b := ⟨_, rfl⟩
    rw [hbb0] at hb0 hb0l
    have hposI : (0 : Int) < (s.size : Int) := by omega
    by_cases hz : b0 = 48 ∧ 1 < s.size
    · have HR := Lib.hid (DigR.no (s := s) (fun h => by rcases h.2.2.1 with h | h <;> omega))
      have hz1 : (1 : Int) < (s.size : Int) := by omega
      have hz0 : (b0 : Int) = 48 := by omega
      clear hz hbb0
      go_enter Tryd.func102, Tryd.ntmps102
      go_wp2
      go_ret
      exact ⟨HR.out, gb_refl _ _⟩
    · have two : ((b0 : Int) = 48 ∧ ¬ (1 : Int) < (s.size : Int)) ∨ ¬ (b0 : Int) = 48 := by omega
      clear hz hbb0
      rcases two with ⟨t1, t2⟩ | t1
      · exact Digits_a s w hsz h0 hpos b0 hb0l hb0 hposI t1 t2
      · exact Digits_b s w hsz h0 hpos b0 hb0l hb0 hposI t1
end Go.Proofs.YtbeaohnjifcgaaaDoor.Db
