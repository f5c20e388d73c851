/-
  Signatures: the specification's Fits.
-/
import Derived.Test.YtionmnjcfnmpeaaDoorJb
import Derived.Test.YtionmnjcfnmpeaaDoorSl
namespace Go.Proofs.YtionmnjcfnmpeaaDoor.Sq
open Go Go.RowKit Go.Proofs.YtionmnjcfnmpeaaDoor.Hz Go.Proofs.YtionmnjcfnmpeaaDoor.Sg

set_option maxRecDepth 1000000 in
set_option maxHeartbeats 2000000 in
theorem RFits_any (key t s : ByteArray) (w : World) (hk : key.size ≤ 1000) (hs : s.size ≤ 1000) :
    Calls Tryd.prog 10 #[.string key, .string t, .string s] w fun e w' => e = .returned (.bool (fitV key t s)) ∧ Below w.heap.size w w' := by
  by_cases hl : 65536 < t.size
  · rw [fit_long hl]
    have hl' : (65536 : Int) < (t.size : Int) := by omega
    clear hl
    go_enter Tryd.func10, Tryd.ntmps10
    go_wp2
    go_ret
    exact ⟨rfl, Below.refl _ _⟩
  have hl' : ¬ (65536 : Int) < (t.size : Int) := by omega
  by_cases h16 : s.size = 16
  case neg =>
    rw [fit_size h16]
    have d16 : ((s.size : Int) != 16) = true := by simp; omega
    have d16' : ¬ (s.size : Int) = 16 := by omega
    clear hl h16
    go_enter Tryd.func10, Tryd.ntmps10
    go_wp2_with fail
    go_ret
    exact ⟨rfl, Below.refl _ _⟩
  have z16 : (s.size : Int) = 16 := by omega
  have HV := Lib.hid (fun w => RValidKey_any key w (by omega))
  cases hv : vk key
  · rw [fit_key hv]
    rw [hv] at HV
    clear hv hl h16
    go_enter Tryd.func10, Tryd.ntmps10
    go_wp2_with fail
    refine (HV.out _).mono ?_
    rintro e w1 ⟨rfl, rfl⟩
    go_wp2
    go_ret
    exact ⟨rfl, Below.refl _ _⟩
  rw [hv] at HV
  have hz : s.size = 16 := h16
  have HN : Hid (∀ w, Calls Tryd.prog 48 #[.string (s.extract 8 16), .int .i64 0, .int .i64 2305843009213693949] w fun e w' => e = .returned (.int .i64 (if pre (nS s) 8 < So.O then (pre (nS s) 8 : Int) else -1)) ∧ w = w') := Lib.hid (fun w => Rnum0 (nS s) w (nS_size h16))
  cases hr : vk (rS s)
  · rw [fit_r hr]
    have HR : Hid (∀ w, Calls Tryd.prog 48 #[.string (s.extract 0 8), .int .i64 1, .int .i64 2305843009213693950] w fun e w' => e = .returned (.int .i64 (-1)) ∧ w = w') := Lib.hid (fun w => Rnumber_no (rS s) w hr (by rw [rS_size h16]; omega))
    obtain ⟨v, hve⟩ : ∃ v, (if pre (nS s) 8 < So.O then (pre (nS s) 8 : Int) else -1) = v := ⟨_, rfl⟩
    rw [hve] at HN
    clear hv hl h16 hr hve
    go_enter Tryd.func10, Tryd.ntmps10
    go_wp2_with fail
    refine (HV.out _).mono ?_
    rintro e w1 ⟨rfl, rfl⟩
    go_wp2_with fail
    go_region_with (first
      | (go_at_call_of 48 (Value.string (s.extract 0 8)); refine (HR.out _).mono ?_; rintro e w2 ⟨rfl, rfl⟩)
      | (go_at_call_of 48 (Value.string (s.extract 8 16)); refine (HN.out _).mono ?_; rintro e w2 ⟨rfl, rfl⟩))
    all_goals
      go_wp2_with fail
      go_ret
      exact ⟨rfl, (Below.refl _ _).drew⟩
  have HR : Hid (∀ w, Calls Tryd.prog 48 #[.string (s.extract 0 8), .int .i64 1, .int .i64 2305843009213693950] w fun e w' => e = .returned (.int .i64 (pre (rS s) 8 : Int)) ∧ w = w') := Lib.hid (fun w => Rnumber_yes (rS s) w hr)
  by_cases hn : pre (nS s) 8 < So.O
  · rw [fit_yes (by omega) hv h16 hr hn]
    rw [if_pos hn] at HN
    obtain ⟨k8, _, kP⟩ := vk_8 hv
    obtain ⟨r8, _, rP⟩ := vk_8 hr
    have hP : P = 2305843009213693951 := by decide +kernel
    have zz : ∀ a b : ByteArray, (a ++ b).size = a.size + b.size := fun a b => ByteArray.size_append
    have HD : Hid (∀ w, Calls Tryd.prog 49 #[.string (s.extract 0 8 ++ key ++ t), .int .i64 2305843009213693950] w fun e w' => e = .returned (.int .i64 (fitC key t s : Int)) ∧ Below w.heap.size w w') := Lib.hid (fun w => drawn_O (rS s ++ key ++ t) w (by rw [zz, zz, k8, r8]; omega))
    have hcl : fitC key t s < So.O := dr_lt _ _ (by rw [O_eq]; omega)
    have HUK := Lib.hid (fun w => Rnumber_yes key w hv)
    have HP1 : Hid (∀ w, Calls Tryd.prog 50 #[.int .i64 37, .int .i64 (pre (nS s) 8 : Int)] w fun e w' => e = .returned (.int .i64 ((37 ^ pre (nS s) 8 % P : Nat) : Int)) ∧ w = w') := Lib.hid (fun w => RPow_any 37 (pre (nS s) 8) (by decide +kernel) (by rw [O_eq] at hn; omega) w)
    have HP2 := Lib.hid (fun w => RPow_any (pre key 8) (fitC key t s) kP (by rw [O_eq] at hcl; omega) w)
    have HPR := Lib.hid (fun w => RMulP (pre (rS s) 8) (pre key 8 ^ fitC key t s % P) rP (Nat.mod_lt _ (by rw [hP]; omega)) w)
    have hq : fitQ key t s = decide (37 ^ pre (nS s) 8 % P = pre (rS s) 8 * (pre key 8 ^ fitC key t s % P) % P) := rfl
    obtain ⟨c, hc⟩ : ∃ c, fitC key t s = c := ⟨_, rfl⟩
    obtain ⟨r, hre⟩ : ∃ r, pre (rS s) 8 = r := ⟨_, rfl⟩
    obtain ⟨n, hne⟩ : ∃ n, pre (nS s) 8 = n := ⟨_, rfl⟩
    obtain ⟨y, hye⟩ : ∃ y, pre key 8 = y := ⟨_, rfl⟩
    simp only [hc, hre, hne, hye] at HD HR HUK HP1 HP2 HPR hq hn hcl HN
    obtain ⟨A, hA⟩ : ∃ A, 37 ^ n % P = A := ⟨_, rfl⟩
    obtain ⟨B, hB⟩ : ∃ B, y ^ c % P = B := ⟨_, rfl⟩
    simp only [hA, hB] at HP1 HP2 HPR hq
    obtain ⟨D, hD⟩ : ∃ D, r * B % P = D := ⟨_, rfl⟩
    simp only [hD] at HPR hq
    have hq2 : ((A : Int) == (D : Int)) = fitQ key t s := by rw [hq, eqI]
    have HQ := Lib.hid hq2
    obtain ⟨q, hqe⟩ : ∃ q, fitQ key t s = q := ⟨_, rfl⟩
    rw [hqe] at HQ ⊢
    have d1 : decide ((r : Int) < 0) = false := by simp
    have d2 : decide ((n : Int) < 0) = false := by simp
    have k8' : (key.size : Int) = 8 := by omega
    have e8' : (s.extract 0 8).size = 8 := r8
    clear hv hl h16 hr hn hcl hc hre hne hye hA hB hD hq hq2 hqe hP zz kP rP r8 k8
    go_enter Tryd.func10, Tryd.ntmps10
    go_wp2_with fail
    refine (HV.out _).mono ?_
    rintro e w1 ⟨rfl, rfl⟩
    go_wp2_with fail
    go_region_with (first
      | (go_at_call_of 48 (Value.string (s.extract 0 8)); refine (HR.out _).mono ?_; rintro e w2 ⟨rfl, rfl⟩)
      | (go_at_call_of 48 (Value.string (s.extract 8 16)); refine (HN.out _).mono ?_; rintro e w2 ⟨rfl, rfl⟩))
    all_goals
      go_wp2_with fail
      refine (HD.out _).mono ?_
      rintro e w1 ⟨rfl, b⟩
      have B1 := Lib.hid (undrew b)
      clear b
      go_wp2_with fail
      refine (HP1.out _).mono ?_
      rintro e w2 ⟨rfl, rfl⟩
      go_wp2_with fail
      refine (HUK.out _).mono ?_
      rintro e w3 ⟨rfl, rfl⟩
      go_wp2_with fail
      refine (HP2.out _).mono ?_
      rintro e w4 ⟨rfl, rfl⟩
      go_wp2_with fail
      refine (HPR.out _).mono ?_
      rintro e w5 ⟨rfl, rfl⟩
      go_wp2_with fail
      (try rw [HQ.out])
      go_ret
      exact ⟨rfl, B1.out⟩
  · rw [fit_n hn]
    rw [if_neg hn] at HN
    obtain ⟨r, hre⟩ : ∃ r, pre (rS s) 8 = r := ⟨_, rfl⟩
    rw [hre] at HR
    have d1 : decide ((r : Int) < 0) = false := by simp
    clear hv hl h16 hr hn hre
    go_enter Tryd.func10, Tryd.ntmps10
    go_wp2_with fail
    refine (HV.out _).mono ?_
    rintro e w1 ⟨rfl, rfl⟩
    go_wp2_with fail
    go_region_with (first
      | (go_at_call_of 48 (Value.string (s.extract 0 8)); refine (HR.out _).mono ?_; rintro e w2 ⟨rfl, rfl⟩)
      | (go_at_call_of 48 (Value.string (s.extract 8 16)); refine (HN.out _).mono ?_; rintro e w2 ⟨rfl, rfl⟩))
    all_goals
      go_wp2_with fail
      go_ret
      exact ⟨rfl, (Below.refl _ _).drew⟩

/-! what is signed fits -/
theorem pow_red (n : Nat) : 37 ^ (n % So.O) % P = 37 ^ n % P := by
  have hO : So.O = P - 1 := by decide +kernel
  have hf : 37 ^ So.O % P = 1 := by rw [hO]; exact full
  have e : n = So.O * (n / So.O) + n % So.O := (Nat.div_add_mod n So.O).symm
  have h1 : 37 ^ (So.O * (n / So.O)) % P = 1 := by
    rw [Nat.pow_mul, Nat.pow_mod, hf, Nat.one_pow]
    decide +kernel
  calc 37 ^ (n % So.O) % P = (37 ^ (So.O * (n / So.O)) % P * (37 ^ (n % So.O) % P)) % P := by rw [h1, Nat.one_mul, Nat.mod_mod]
    _ = 37 ^ (So.O * (n / So.O) + n % So.O) % P := by rw [← Nat.mul_mod, ← Nat.pow_add]
    _ = 37 ^ n % P := by rw [← e]
theorem ss_eq (x : Nat) (t : ByteArray) : 37 ^ ss x t % P = (37 ^ kk x t % P) * ((37 ^ x % P) ^ cc x t % P) % P := by
  have e : ss x t = (kk x t + cc x t * x) % So.O := by
    show (kk x t + cc x t * x % So.O) % So.O = _
    rw [Nat.add_mod_mod]
  rw [e, pow_red, Nat.pow_add, Nat.mul_mod, Nat.mul_comm (cc x t) x, Nat.pow_mul, Nat.pow_mod (37 ^ x)]
theorem ext_l (a b : ByteArray) (ha : a.size = 8) : (a ++ b).extract 0 8 = a := by
  apply ByteArray.ext
  simp [ByteArray.data_append, ByteArray.data_extract]
  rw [← ha]
  simp
theorem ext_r (a b : ByteArray) (ha : a.size = 8) (hb : b.size = 8) : (a ++ b).extract 8 16 = b := by
  apply ByteArray.ext
  apply Array.toList_inj.1
  have h1 : a.data.toList.length = 8 := by rw [Array.length_toList]; exact ha
  have h2 : b.data.toList.length = 8 := by rw [Array.length_toList]; exact hb
  rw [ByteArray.data_extract, ByteArray.data_append, Array.toList_extract, Array.toList_append, List.extract_eq_take_drop]
  rw [List.drop_append_of_le_length (by omega), List.drop_of_length_le (by omega), List.nil_append, List.take_of_length_le (by omega)]
theorem fit_own (x : Nat) (t : ByteArray) (ht : t.size ≤ 65536) : fitV (ky x) t (sg x t) = true := by
  have zr : (rr x t).size = 8 := e8_size _
  have ze : (e8 (ss x t : Int)).size = 8 := e8_size _
  have hr : rS (sg x t) = rr x t := ext_l _ _ zr
  have hn : nS (sg x t) = e8 (ss x t : Int) := ext_r _ _ zr ze
  have hz : (sg x t).size = 16 := by
    show (rr x t ++ e8 (ss x t : Int)).size = 16
    rw [ByteArray.size_append, zr, ze]
  have hsl : ss x t < So.O := Nat.mod_lt _ (by rw [O_eq]; omega)
  have hP0 : 0 < P := by decide +kernel
  have pn : pre (e8 (ss x t : Int)) 8 = ss x t := pre_e8 _ (by rw [O_eq] at hsl; omega)
  have prr : pre (rr x t) 8 = 37 ^ kk x t % P := pre_e8 _ (pw_lt 37 _)
  have pk : pre (ky x) 8 = 37 ^ x % P := pre_e8 _ (pw_lt 37 _)
  have vr : vk (rr x t) = true := vk_e8 _ (pow_pos37 _) (Nat.mod_lt _ hP0)
  have vy : vk (ky x) = true := vk_e8 _ (pow_pos37 _) (Nat.mod_lt _ hP0)
  rw [fit_yes ht vy hz (by rw [hr]; exact vr) (by rw [hn, pn]; exact hsl)]
  unfold fitQ
  have hc : fitC (ky x) t (sg x t) = cc x t := by
    unfold fitC
    rw [hr]
    rfl
  rw [hn, hr, pn, prr, pk, hc]
  exact decide_eq_true (ss_eq x t)
end Go.Proofs.YtionmnjcfnmpeaaDoor.Sq
