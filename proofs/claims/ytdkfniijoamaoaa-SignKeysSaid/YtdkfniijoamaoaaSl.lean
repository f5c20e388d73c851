/-
  SignKeys: the walk.
-/
import Derived.Test.YtdkfniijoamaoaaSk
namespace Go.Proofs.Ytdkfniijoamaoaa.Sg
open Go Go.RowKit Go.Proofs.Ytdkfniijoamaoaa.Hz

theorem by_e8 (x : Int) (k : Nat) (h : k < 8) : by_ (e8 x) k = ((nums x).getD k 0).toNat % 256 := by
  unfold by_ e8
  rw [strOfNums_data]
  have hl : k < (nums x).length := h
  simp [List.getD, List.getElem?_map, List.getElem?_eq_getElem hl]
theorem byte_nat (m c : Nat) : (((m : Int) / (c : Int)) % 256).toNat % 256 = m / c % 256 := by
  have e : ((m : Int) / (c : Int)) % 256 = ((m / c % 256 : Nat) : Int) := by rw [Int.natCast_emod, Int.natCast_ediv]; rfl
  rw [e, Int.toNat_natCast]
  omega
theorem step_nat (m c d : Nat) (h : d = c * 256) : m / d * 256 + m / c % 256 = m / c := by
  have : m / d = m / c / 256 := by rw [h, Nat.div_div_eq_div_mul]
  omega
theorem pre_e8 (m : Nat) (h : m < 18446744073709551616) : pre (e8 (m : Int)) 8 = m := by
  have b0 : by_ (e8 (m : Int)) 0 = m / 72057594037927936 % 256 := (by_e8 (m : Int) 0 (by omega)).trans (byte_nat m 72057594037927936)
  have b1 : by_ (e8 (m : Int)) 1 = m / 281474976710656 % 256 := (by_e8 (m : Int) 1 (by omega)).trans (byte_nat m 281474976710656)
  have b2 : by_ (e8 (m : Int)) 2 = m / 1099511627776 % 256 := (by_e8 (m : Int) 2 (by omega)).trans (byte_nat m 1099511627776)
  have b3 : by_ (e8 (m : Int)) 3 = m / 4294967296 % 256 := (by_e8 (m : Int) 3 (by omega)).trans (byte_nat m 4294967296)
  have b4 : by_ (e8 (m : Int)) 4 = m / 16777216 % 256 := (by_e8 (m : Int) 4 (by omega)).trans (byte_nat m 16777216)
  have b5 : by_ (e8 (m : Int)) 5 = m / 65536 % 256 := (by_e8 (m : Int) 5 (by omega)).trans (byte_nat m 65536)
  have b6 : by_ (e8 (m : Int)) 6 = m / 256 % 256 := (by_e8 (m : Int) 6 (by omega)).trans (byte_nat m 256)
  have b7 : by_ (e8 (m : Int)) 7 = m / 1 % 256 := by
    have := byte_nat m 1
    rw [show ((1 : Nat) : Int) = 1 from rfl, Int.ediv_one] at this
    exact (by_e8 (m : Int) 7 (by omega)).trans this
  simp only [pre]
  rw [b0, b1, b2, b3, b4, b5, b6, b7, Nat.zero_mul, Nat.zero_add, show m / 72057594037927936 % 256 = m / 72057594037927936 by omega,
    step_nat m 281474976710656 72057594037927936 (by decide), step_nat m 1099511627776 281474976710656 (by decide), step_nat m 4294967296 1099511627776 (by decide),
    step_nat m 16777216 4294967296 (by decide), step_nat m 65536 16777216 (by decide), step_nat m 256 65536 (by decide), step_nat m 1 256 (by decide), Nat.div_one]
theorem vk_e8 (m : Nat) (h0 : 0 < m) (h1 : m < P) : vk (e8 (m : Int)) = true := by
  have h2 : m < 18446744073709551616 := Nat.lt_trans h1 (by decide +kernel)
  unfold vk
  rw [pre_e8 m h2, e8_size]
  simp [h1]
  omega

theorem sh_ky (a b : Nat) (ha : sec (a : Int) = true) (hb : sec (b : Int) = true) : shT (a : Int) (kyT (b : Int)) = e8 (((37 ^ b % P) ^ a % P : Nat) : Int) ∧ shE (a : Int) (kyT (b : Int)) = 0 ∧ vk (kyT (b : Int)) = true ∧ (kyT (b : Int)).size = 8 := by
  have hk : kyT (b : Int) = e8 ((37 ^ b % P : Nat) : Int) := by
    unfold kyT; rw [hb, if_pos rfl]; rfl
  have hp := pow_pos37 b
  have hl : 37 ^ b % P < P := Nat.mod_lt _ (by decide +kernel)
  have hv := vk_e8 (37 ^ b % P) hp hl
  have hpre := pre_e8 (37 ^ b % P) (pw_lt 37 b)
  rw [hk]
  refine ⟨?_, ?_, hv, e8_size _⟩
  · unfold shT
    rw [hv, ha, hpre]
    rfl
  · unfold shE
    rw [hv, ha]
    rfl

set_option maxHeartbeats 800000 in
theorem keys_long (a b : Int) (s : ByteArray) (w : World) (hz : s.size ≤ 140737488351232) (hl : 100 < s.size) :
    Calls Try.prog 3 #[.int .i64 a, .int .i64 b, .string s] w fun e w' => e = .returned (.bool true) ∧ Below w.heap.size w w' := by
  go_enter Try.func3, Try.ntmps3
  go_wp2_with fail
  refine (awake_any _).mono ?_
  rintro e w1 ⟨rfl, hb1⟩
  go_wp2
  go_ret
  exact ⟨rfl, hb1⟩

set_option maxRecDepth 100000 in
set_option maxHeartbeats 1600000 in
theorem keys_in (a b : Int) (s : ByteArray) (w : World) (hl : s.size ≤ 100) :
    Calls Try.prog 3 #[.int .i64 a, .int .i64 b, .string s] w fun e w' => e = .returned (.bool true) ∧ Below w.heap.size w w' := by
  have k1 := Lib.hid (Key_any a)
  have k2 := Lib.hid (RKey_any a)
  have k3 := Lib.hid (fun w => Shared_any b s w (by omega))
  have k4 := Lib.hid (fun w => RShared_any b s w (by omega))
  have k5 := Lib.hid (fun w => ValidKey_any s w (by omega))
  have k6 := Lib.hid (fun w => RValidKey_any s w (by omega))
  have k7 := Lib.hid (Key_any b)
  have kA := Lib.hid awake_any
  obtain ⟨t, ht⟩ : ∃ t, shT b s = t := ⟨_, rfl⟩
  obtain ⟨g, hg⟩ : ∃ g, shE b s = g := ⟨_, rfl⟩
  rw [ht, hg] at k3 k4
  generalize vk s = v at *
  clear ht hg
  cases ha : sec a
  · have ea : kyE a = 7 := by unfold kyE; rw [ha]; rfl
    rw [ea] at k1 k2
    generalize kyT a = x at *
    generalize kyT b = z at *
    generalize kyE b = i at *
    clear ha ea
    go_enter Try.func3, Try.ntmps3
    go_wp2_with fail
    refine (k1.out _).mono ?_
    rintro e w1 ⟨rfl, hb1⟩
    go_wp2_with fail
    refine (k2.out _).mono ?_
    rintro e w2 ⟨rfl, hb2⟩
    go_wp2_with fail
    refine (k3.out _).mono ?_
    rintro e w3 ⟨rfl, hb3⟩
    go_wp2_with fail
    refine (k4.out _).mono ?_
    rintro e w4 ⟨rfl, hb4⟩
    go_wp2_with fail
    refine (k5.out _).mono ?_
    rintro e w5 ⟨rfl, rfl⟩
    go_wp2_with fail
    refine (k6.out _).mono ?_
    rintro e w5 ⟨rfl, rfl⟩
    go_wp2_with fail
    refine (k7.out _).mono ?_
    rintro e w5 ⟨rfl, hb5⟩
    go_wp2_with fail
    refine (kA.out _).mono ?_
    rintro e w6 ⟨rfl, hb6⟩
    go_wp2
    go_ret
    exact ⟨rfl, blw (blw (blw (blw (blw hb1 hb2) hb3) hb4) hb5) hb6⟩
  · have ea : kyE a = 0 := by unfold kyE; rw [ha]; rfl
    rw [ea] at k1 k2
    cases hb : sec b
    · have eb : kyE b = 7 := by unfold kyE; rw [hb]; rfl
      rw [eb] at k7
      generalize kyT a = x at *
      generalize kyT b = z at *
      clear ha ea hb eb
      go_enter Try.func3, Try.ntmps3
      go_wp2_with fail
      refine (k1.out _).mono ?_
      rintro e w1 ⟨rfl, hb1⟩
      go_wp2_with fail
      refine (k2.out _).mono ?_
      rintro e w2 ⟨rfl, hb2⟩
      go_wp2_with fail
      refine (k3.out _).mono ?_
      rintro e w3 ⟨rfl, hb3⟩
      go_wp2_with fail
      refine (k4.out _).mono ?_
      rintro e w4 ⟨rfl, hb4⟩
      go_wp2_with fail
      refine (k5.out _).mono ?_
      rintro e w5 ⟨rfl, rfl⟩
      go_wp2_with fail
      refine (k6.out _).mono ?_
      rintro e w5 ⟨rfl, rfl⟩
      go_wp2_with fail
      refine (k7.out _).mono ?_
      rintro e w5 ⟨rfl, hb5⟩
      go_wp2_with fail
      refine (kA.out _).mono ?_
      rintro e w6 ⟨rfl, hb6⟩
      go_wp2
      go_ret
      exact ⟨rfl, blw (blw (blw (blw (blw hb1 hb2) hb3) hb4) hb5) hb6⟩
    · have eb : kyE b = 0 := by unfold kyE; rw [hb]; rfl
      rw [eb] at k7
      obtain ⟨m, rfl, _, _⟩ := sec_nat a ha
      obtain ⟨n, rfl, _, _⟩ := sec_nat b hb
      obtain ⟨p1, p2, p3, p4⟩ := sh_ky m n ha hb
      obtain ⟨q1, q2, q3, q4⟩ := sh_ky n m hb ha
      rw [pow_swap 37 m n, ← q1] at p1
      have k8 := Shared_any (m : Int) (kyT (n : Int))
      have k9 := Shared_any (n : Int) (kyT (m : Int))
      have k10 := ValidKey_any (kyT (m : Int))
      rw [p1, p2] at k8
      rw [q2] at k9
      rw [q3] at k10
      generalize shT (n : Int) (kyT (m : Int)) = r at *
      have K8 := Lib.hid (fun w => k8 w (by omega))
      have K9 := Lib.hid (fun w => k9 w (by omega))
      have K10 := Lib.hid (fun w => k10 w (by omega))
      generalize kyT (m : Int) = x at *
      generalize kyT (n : Int) = z at *
      clear ha ea hb eb p1 p2 p3 p4 q1 q2 q3 q4 k8 k9 k10
      go_enter Try.func3, Try.ntmps3
      go_wp2_with fail
      refine (k1.out _).mono ?_
      rintro e w1 ⟨rfl, hb1⟩
      go_wp2_with fail
      refine (k2.out _).mono ?_
      rintro e w2 ⟨rfl, hb2⟩
      go_wp2_with fail
      refine (k3.out _).mono ?_
      rintro e w3 ⟨rfl, hb3⟩
      go_wp2_with fail
      refine (k4.out _).mono ?_
      rintro e w4 ⟨rfl, hb4⟩
      go_wp2_with fail
      refine (k5.out _).mono ?_
      rintro e w5 ⟨rfl, rfl⟩
      go_wp2_with fail
      refine (k6.out _).mono ?_
      rintro e w5 ⟨rfl, rfl⟩
      go_wp2_with fail
      refine (k7.out _).mono ?_
      rintro e w5 ⟨rfl, hb5⟩
      go_wp2_with fail
      refine (K8.out _).mono ?_
      rintro e w6 ⟨rfl, hb6⟩
      go_wp2_with fail
      refine (K9.out _).mono ?_
      rintro e w7 ⟨rfl, hb7⟩
      go_wp2_with fail
      refine (K10.out _).mono ?_
      rintro e w8 ⟨rfl, rfl⟩
      go_wp2_with fail
      refine (kA.out _).mono ?_
      rintro e w9 ⟨rfl, hb9⟩
      go_wp2
      go_ret
      exact ⟨rfl, blw (blw (blw (blw (blw (blw (blw hb1 hb2) hb3) hb4) hb5) hb6) hb7) hb9⟩
end Go.Proofs.Ytdkfniijoamaoaa.Sg
