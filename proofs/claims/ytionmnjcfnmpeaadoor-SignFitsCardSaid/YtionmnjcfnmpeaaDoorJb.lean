/-
  Signatures: Fits of both.
-/
import Derived.Test.YtionmnjcfnmpeaaDoorJa
import Derived.Deep.QuietTactic
import Derived.BigQuiet
namespace Go.Proofs.YtionmnjcfnmpeaaDoor.Sq
open Go Go.RowKit Go.Proofs.YtionmnjcfnmpeaaDoor.Hz Go.Proofs.YtionmnjcfnmpeaaDoor.Sg

def rS (s : ByteArray) : ByteArray := s.extract 0 8
def nS (s : ByteArray) : ByteArray := s.extract 8 16
def fitC (key t s : ByteArray) : Nat := dr (rS s ++ key ++ t) So.O
def fitQ (key t s : ByteArray) : Bool := decide (37 ^ pre (nS s) 8 % P = pre (rS s) 8 * (pre key 8 ^ fitC key t s % P) % P)
/-- does a signature fit? -/
def fitV (key t s : ByteArray) : Bool := decide (t.size ≤ 65536) && vk key && decide (s.size = 16) && vk (rS s) && decide (pre (nS s) 8 < So.O) && fitQ key t s
theorem fit_long {key t s : ByteArray} (h : 65536 < t.size) : fitV key t s = false := by unfold fitV; rw [decide_eq_false (by omega)]; rfl
theorem fit_key {key t s : ByteArray} (h : vk key = false) : fitV key t s = false := by unfold fitV; rw [h]; simp
theorem fit_size {key t s : ByteArray} (h : s.size ≠ 16) : fitV key t s = false := by unfold fitV; rw [decide_eq_false (p := s.size = 16) h]; simp
theorem fit_r {key t s : ByteArray} (h : vk (rS s) = false) : fitV key t s = false := by unfold fitV; rw [h]; simp
theorem fit_n {key t s : ByteArray} (h : ¬ pre (nS s) 8 < So.O) : fitV key t s = false := by
  unfold fitV
  rw [decide_eq_false h, Bool.and_false, Bool.false_and]
set_option maxHeartbeats 1000000 in
theorem fit_yes {key t s : ByteArray} (h1 : t.size ≤ 65536) (h2 : vk key = true) (h3 : s.size = 16) (h4 : vk (rS s) = true) (h5 : pre (nS s) 8 < So.O) : fitV key t s = fitQ key t s := by
  unfold fitV; rw [decide_eq_true h1, h2, decide_eq_true h3, h4, decide_eq_true h5]; rfl
theorem eqI (A D : Nat) : ((A : Int) == (D : Int)) = decide (A = D) := by
  rw [Bool.eq_iff_iff, beq_iff_eq, decide_eq_true_iff]
  exact Int.ofNat_inj
theorem undrew {W w' : World} (h : Below W.drew.heap.size W.drew w') : Below W.heap.size W w' := (blw_drew (Below.refl _ W)).trans h
theorem rS_size {s : ByteArray} (h : s.size = 16) : (rS s).size = 8 := by unfold rS; rw [ByteArray.size_extract]; omega
theorem nS_size {s : ByteArray} (h : s.size = 16) : (nS s).size = 8 := by unfold nS; rw [ByteArray.size_extract]; omega
theorem vk_8 {s : ByteArray} (h : vk s = true) : s.size = 8 ∧ 1 ≤ pre s 8 ∧ pre s 8 < P := by
  unfold vk at h
  simpa using h

set_option maxRecDepth 1000000 in
set_option maxHeartbeats 2000000 in
theorem Fits_any (key t s : ByteArray) (w : World) (hk : key.size ≤ 1000) (hs : s.size ≤ 1000) :
    Calls Tryd.prog 9 #[.string key, .string t, .string s] w fun e w' => e = .returned (.bool (fitV key t s)) ∧ Below w.heap.size w w' := by
  by_cases hl : 65536 < t.size
  · rw [fit_long hl]
    have hl' : (65536 : Int) < (t.size : Int) := by omega
    clear hl
    go_enter Tryd.func9, Tryd.ntmps9
    go_wp2
    go_ret
    exact ⟨rfl, Below.refl _ _⟩
  have hl' : ¬ (65536 : Int) < (t.size : Int) := by omega
  have HV := Lib.hid (fun w => ValidKey_any key w (by omega))
  cases hv : vk key
  · rw [fit_key hv]
    rw [hv] at HV
    clear hv hl
    go_enter Tryd.func9, Tryd.ntmps9
    go_wp2_with fail
    refine (HV.out _).mono ?_
    rintro e w1 ⟨rfl, rfl⟩
    go_wp2
    go_ret
    exact ⟨rfl, Below.refl _ _⟩
  rw [hv] at HV
  by_cases h16 : s.size = 16
  case neg =>
    rw [fit_size h16]
    have d16 : ((s.size : Int) != 16) = true := by simp; omega
    have d16' : ¬ (s.size : Int) = 16 := by omega
    clear hv hl h16
    go_enter Tryd.func9, Tryd.ntmps9
    go_wp2_with fail
    refine (HV.out _).mono ?_
    rintro e w1 ⟨rfl, rfl⟩
    go_wp2
    go_ret
    exact ⟨rfl, Below.refl _ _⟩
  have z16 : (s.size : Int) = 16 := by omega
  have HR : Hid (∀ w, Calls Tryd.prog 42 #[.string (s.extract 0 8)] w fun e w' => e = .returned (.bool (vk (rS s))) ∧ w = w') := Lib.hid (fun w => ValidKey_any (rS s) w (by rw [rS_size h16]; omega))
  cases hr : vk (rS s)
  · rw [fit_r hr]
    rw [hr] at HR
    clear hv hl h16 hr
    go_enter Tryd.func9, Tryd.ntmps9
    go_wp2_with fail
    refine (HV.out _).mono ?_
    rintro e w1 ⟨rfl, rfl⟩
    go_wp2_with fail
    refine (HR.out _).mono ?_
    rintro e w1 ⟨rfl, rfl⟩
    go_wp2
    go_ret
    exact ⟨rfl, Below.refl _ _⟩
  rw [hr] at HR
  have HU : Hid (∀ w, Calls Tryd.prog 43 #[.string (s.extract 8 16)] w fun e w' => e = .returned (.int .u64 (pre (nS s) 8 : Int)) ∧ w = w') := Lib.hid (fun w => unpack_any (nS s) w (by rw [nS_size h16]; omega))
  have hz : s.size = 16 := h16
  by_cases hn : pre (nS s) 8 < So.O
  · rw [fit_yes (by omega) hv h16 hr hn]
    obtain ⟨k8, _, kP⟩ := vk_8 hv
    obtain ⟨r8, _, rP⟩ := vk_8 hr
    have hP : P = 2305843009213693951 := by decide +kernel
    have zz : ∀ a b : ByteArray, (a ++ b).size = a.size + b.size := fun a b => ByteArray.size_append
    have HD : Hid (∀ w, Calls Tryd.prog 44 #[.string (s.extract 0 8 ++ key ++ t), .int .i64 2305843009213693950] w fun e w' => e = .returned (.int .u64 (fitC key t s : Int)) ∧ Below w.heap.size w w') := Lib.hid (fun w => draw_O (rS s ++ key ++ t) w (by rw [zz, zz, k8, r8]; omega))
    have hcl : fitC key t s < So.O := dr_lt _ _ (by rw [O_eq]; omega)
    have HUR : Hid (∀ w, Calls Tryd.prog 43 #[.string (s.extract 0 8)] w fun e w' => e = .returned (.int .u64 (pre (rS s) 8 : Int)) ∧ w = w') := Lib.hid (fun w => unpack_any (rS s) w (by omega))
    have HUK := Lib.hid (fun w => unpack_any key w (by omega))
    have HP1 : Hid (∀ w, Calls Tryd.prog 45 #[.int .u64 37, .int .u64 (pre (nS s) 8 : Int)] w fun e w' => e = .returned (.int .u64 ((37 ^ pre (nS s) 8 % P : Nat) : Int)) ∧ Below w.heap.size w w') := Lib.hid (fun w => power_any 37 (pre (nS s) 8) (by decide +kernel) (by rw [O_eq] at hn; omega) w)
    have HP2 := Lib.hid (fun w => power_any (pre key 8) (fitC key t s) kP (by rw [O_eq] at hcl; omega) w)
    have HPR := Lib.hid (fun w => prodP (pre (rS s) 8) (pre key 8 ^ fitC key t s % P) rP (Nat.mod_lt _ (by rw [hP]; omega)) w)
    have hq : fitQ key t s = decide (37 ^ pre (nS s) 8 % P = pre (rS s) 8 * (pre key 8 ^ fitC key t s % P) % P) := rfl
    obtain ⟨c, hc⟩ : ∃ c, fitC key t s = c := ⟨_, rfl⟩
    obtain ⟨r, hre⟩ : ∃ r, pre (rS s) 8 = r := ⟨_, rfl⟩
    obtain ⟨n, hne⟩ : ∃ n, pre (nS s) 8 = n := ⟨_, rfl⟩
    obtain ⟨y, hye⟩ : ∃ y, pre key 8 = y := ⟨_, rfl⟩
    simp only [hc, hre, hne, hye] at HD HUR HUK HP1 HP2 HPR hq hn hcl HU
    obtain ⟨A, hA⟩ : ∃ A, 37 ^ n % P = A := ⟨_, rfl⟩
    obtain ⟨B, hB⟩ : ∃ B, y ^ c % P = B := ⟨_, rfl⟩
    simp only [hA, hB] at HP1 HP2 HPR hq
    obtain ⟨D, hD⟩ : ∃ D, r * B % P = D := ⟨_, rfl⟩
    simp only [hD] at HPR hq
    have hq2 : ((A : Int) == (D : Int)) = fitQ key t s := by rw [hq, eqI]
    have HQ := Lib.hid hq2
    obtain ⟨q, hqe⟩ : ∃ q, fitQ key t s = q := ⟨_, rfl⟩
    rw [hqe] at HQ ⊢
    rw [O_eq] at hn
    have hn' : decide ((2305843009213693950 : Int) ≤ (n : Int)) = false := decide_eq_false (by omega)
    have k8' : (key.size : Int) = 8 := by omega
    have e8' : (s.extract 0 8).size = 8 := r8
    clear hv hl h16 hr hn hcl hc hre hne hye hA hB hD hq hq2 hqe hP zz kP rP r8 k8
    go_enter Tryd.func9, Tryd.ntmps9
    go_wp2_with fail
    refine (HV.out _).mono ?_
    rintro e w1 ⟨rfl, rfl⟩
    go_wp2_with fail
    refine (HR.out _).mono ?_
    rintro e w1 ⟨rfl, rfl⟩
    go_wp2_with fail
    go_region_with (go_at_call 43; refine (HU.out _).mono ?_; rintro e w2 ⟨rfl, rfl⟩)
    all_goals
      go_wp2_with fail
      refine (HD.out _).mono ?_
      rintro e w1 ⟨rfl, b⟩
      have B1 := Lib.hid (undrew b)
      clear b
      go_wp2_with fail
      refine (HP1.out _).mono ?_
      rintro e w2 ⟨rfl, b⟩
      have B2 := Lib.hid (blw B1.out b)
      clear b B1
      go_wp2_with fail
      refine (HUR.out _).mono ?_
      rintro e w3 ⟨rfl, rfl⟩
      go_wp2_with fail
      refine (HUK.out _).mono ?_
      rintro e w3 ⟨rfl, rfl⟩
      go_wp2_with fail
      refine (HP2.out _).mono ?_
      rintro e w4 ⟨rfl, b⟩
      have B4 := Lib.hid (blw B2.out b)
      clear b B2
      go_wp2_with fail
      refine (HPR.out _).mono ?_
      rintro e w5 ⟨rfl, z, rfl⟩
      go_wp2_with fail
      (try rw [HQ.out])
      go_ret
      exact ⟨rfl, below_drewN z B4.out⟩
  · rw [fit_n hn]
    have hp := pre_8 (nS s)
    obtain ⟨n, hne⟩ : ∃ n, pre (nS s) 8 = n := ⟨_, rfl⟩
    rw [hne] at HU hn hp
    rw [O_eq] at hn
    have hn' : (2305843009213693950 : Int) ≤ (n : Int) := by omega
    clear hv hl h16 hr hne hn
    go_enter Tryd.func9, Tryd.ntmps9
    go_wp2_with fail
    refine (HV.out _).mono ?_
    rintro e w1 ⟨rfl, rfl⟩
    go_wp2_with fail
    refine (HR.out _).mono ?_
    rintro e w1 ⟨rfl, rfl⟩
    go_wp2_with fail
    go_region_with (go_at_call 43; refine (HU.out _).mono ?_; rintro e w2 ⟨rfl, rfl⟩)
    all_goals
      go_wp2_with fail
      go_ret
      exact ⟨rfl, (Below.refl _ _).drew⟩

set_option maxRecDepth 1000000 in
set_option maxHeartbeats 1000000 in
theorem Rnum0 (s : ByteArray) (w : World) (h8 : s.size = 8) :
    Calls Tryd.prog 48 #[.string s, .int .i64 0, .int .i64 2305843009213693949] w fun e w' => e = .returned (.int .i64 (if pre s 8 < So.O then (pre s 8 : Int) else -1)) ∧ w = w' := by
  have hu := Lib.hid (Eight_any s w (by omega))
  have e8' : ((s.size : Int) != 8) = false := by rw [h8]; rfl
  have hp := pre_8 s
  have k1 : decide ((pre s 8 : Int) < 0) = false := by simp
  rw [O_eq]
  by_cases h1 : pre s 8 < 2305843009213693950
  · rw [if_pos h1]
    have k2 : decide (2305843009213693949 < (pre s 8 : Int)) = false := by simp; omega
    have b1 : (pre s 8 : Int) ≤ 2305843009213693949 := by omega
    clear h8 h1 hp
    generalize pre s 8 = p at *
    go_enter Tryd.func48, Tryd.ntmps48
    go_wp2_with fail
    refine hu.out.mono ?_
    rintro e w1 ⟨rfl, rfl⟩
    go_wp2
    go_ret
    exact ⟨rfl, rfl⟩
  · rw [if_neg h1]
    have k2 : decide (2305843009213693949 < (pre s 8 : Int)) = true := by simp; omega
    clear h8 h1 hp
    generalize pre s 8 = p at *
    go_enter Tryd.func48, Tryd.ntmps48
    go_wp2_with fail
    refine hu.out.mono ?_
    rintro e w1 ⟨rfl, rfl⟩
    go_wp2
    go_ret
    exact ⟨rfl, rfl⟩
end Go.Proofs.YtionmnjcfnmpeaaDoor.Sq
