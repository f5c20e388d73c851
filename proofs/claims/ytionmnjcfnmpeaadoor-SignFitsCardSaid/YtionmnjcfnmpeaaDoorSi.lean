/-
  Key, ValidKey, Shared: the program's and the reference's.
-/
import Derived.Test.YtionmnjcfnmpeaaDoorSh
import Derived.Deep.RegionWith
namespace Go.Proofs.YtionmnjcfnmpeaaDoor.Sg
open Go Go.RowKit Go.Proofs.YtionmnjcfnmpeaaDoor.Hz

def vk (s : ByteArray) : Bool := decide (s.size = 8) && (decide (1 ≤ pre s 8) && decide (pre s 8 < P))
def sec (x : Int) : Bool := decide (1 ≤ x) && decide (x ≤ 2305843009213693949)
def kyT (x : Int) : ByteArray := if sec x then e8 ((37 ^ x.toNat % P : Nat) : Int) else ⟨#[]⟩
def kyE (x : Int) : Int := if sec x then 0 else 7
def shT (x : Int) (s : ByteArray) : ByteArray := if vk s && sec x then e8 ((pre s 8 ^ x.toNat % P : Nat) : Int) else ⟨#[]⟩
def shE (x : Int) (s : ByteArray) : Int := if vk s then (if sec x then 0 else 7) else 1
theorem sec_nat (x : Int) (h : sec x = true) : ∃ n : Nat, x = n ∧ 1 ≤ n ∧ n ≤ 2305843009213693949 := by
  unfold sec at h
  simp at h
  exact ⟨x.toNat, by omega, by omega, by omega⟩
theorem P_eq : P = 2305843009213693951 := by decide +kernel
theorem pw_lt (a n : Nat) : a ^ n % P < 18446744073709551616 := Nat.lt_trans (Nat.mod_lt _ (by decide +kernel)) (by decide +kernel)

set_option maxRecDepth 1000000 in
set_option maxHeartbeats 800000 in
theorem ValidKey_any (s : ByteArray) (w : World) (_ : s.size ≤ 140737488351232) :
    Calls Tryd.prog 42 #[.string s] w fun e w' => e = .returned (.bool (vk s)) ∧ w = w' := by
  by_cases h8 : s.size = 8
  · have hu := Lib.hid (unpack_any s w (by omega))
    have hp := pre_8 s
    by_cases h1 : 1 ≤ pre s 8
    · by_cases h2 : pre s 8 < P
      · have hv : vk s = true := by unfold vk; simp [h8, h1, h2]
        rw [hv]
        rw [P_eq] at h2
        have k1 : decide ((1 : Int) ≤ (pre s 8 : Int)) = true := by simp; omega
        have k2 : decide ((pre s 8 : Int) < 2305843009213693951) = true := by simp; omega
        have e8' : ((s.size : Int) != 8) = false := by rw [h8]; rfl
        clear h8 h1 h2 hp hv
        generalize pre s 8 = p at *
        go_enter Tryd.func42, Tryd.ntmps42
        go_wp2_with fail
        refine hu.out.mono ?_
        rintro e w1 ⟨rfl, rfl⟩
        go_wp2
        go_ret
        exact ⟨rfl, rfl⟩
      · have hv : vk s = false := by unfold vk; simp [h8, h1, h2]
        rw [hv]
        rw [P_eq] at h2
        have k1 : decide ((1 : Int) ≤ (pre s 8 : Int)) = true := by simp; omega
        have k2 : decide ((pre s 8 : Int) < 2305843009213693951) = false := by simp; omega
        have e8' : ((s.size : Int) != 8) = false := by rw [h8]; rfl
        clear h8 h1 h2 hp hv
        generalize pre s 8 = p at *
        go_enter Tryd.func42, Tryd.ntmps42
        go_wp2_with fail
        refine hu.out.mono ?_
        rintro e w1 ⟨rfl, rfl⟩
        go_wp2
        go_ret
        exact ⟨rfl, rfl⟩
    · have hv : vk s = false := by unfold vk; simp [h8]; omega
      rw [hv]
      have k1 : decide ((1 : Int) ≤ (pre s 8 : Int)) = false := by simp; omega
      have e8' : ((s.size : Int) != 8) = false := by rw [h8]; rfl
      clear h8 h1 hp hv
      generalize pre s 8 = p at *
      go_enter Tryd.func42, Tryd.ntmps42
      go_wp2_with fail
      refine hu.out.mono ?_
      rintro e w1 ⟨rfl, rfl⟩
      go_wp2
      go_ret
      exact ⟨rfl, rfl⟩
  · have hv : vk s = false := by unfold vk; simp [h8]
    rw [hv]
    have e8' : ((s.size : Int) != 8) = true := by simp; omega
    clear h8 hv
    go_enter Tryd.func42, Tryd.ntmps42
    go_wp2_with fail
    go_ret
    exact ⟨rfl, rfl⟩

set_option maxRecDepth 1000000 in
set_option maxHeartbeats 800000 in
theorem Rnumber_yes (s : ByteArray) (w : World) (hv : vk s = true) :
    Calls Tryd.prog 48 #[.string s, .int .i64 1, .int .i64 2305843009213693950] w fun e w' => e = .returned (.int .i64 (pre s 8 : Int)) ∧ w = w' := by
  unfold vk at hv
  simp at hv
  obtain ⟨h8, h1, h2⟩ := hv
  rw [P_eq] at h2
  have hu := Lib.hid (Eight_any s w (by omega))
  have k1 : decide ((pre s 8 : Int) < 1) = false := by simp; omega
  have k2 : decide (2305843009213693950 < (pre s 8 : Int)) = false := by simp; omega
  have e8' : ((s.size : Int) != 8) = false := by rw [h8]; rfl
  have b1 : (pre s 8 : Int) ≤ 2305843009213693950 := by omega
  clear h8 h1 h2
  generalize pre s 8 = p at *
  go_enter Tryd.func48, Tryd.ntmps48
  go_wp2_with fail
  refine hu.out.mono ?_
  rintro e w1 ⟨rfl, rfl⟩
  go_wp2
  go_ret
  exact ⟨rfl, rfl⟩

set_option maxRecDepth 1000000 in
set_option maxHeartbeats 800000 in
theorem Rnumber_no (s : ByteArray) (w : World) (hv : vk s = false) (_ : s.size ≤ 140737488351232) :
    Calls Tryd.prog 48 #[.string s, .int .i64 1, .int .i64 2305843009213693950] w fun e w' => e = .returned (.int .i64 (-1)) ∧ w = w' := by
  by_cases h8 : s.size = 8
  · have hu := Lib.hid (Eight_any s w (by omega))
    have e8' : ((s.size : Int) != 8) = false := by rw [h8]; rfl
    have hp := pre_8 s
    by_cases h1 : 1 ≤ pre s 8
    · have h2 : ¬ pre s 8 < 2305843009213693951 := by
        rw [← P_eq]; intro h2; unfold vk at hv; simp [h8, h1, h2] at hv
      have k1 : decide ((pre s 8 : Int) < 1) = false := by simp; omega
      have k2 : decide (2305843009213693950 < (pre s 8 : Int)) = true := by simp; omega
      clear h8 h1 h2 hv hp
      generalize pre s 8 = p at *
      go_enter Tryd.func48, Tryd.ntmps48
      go_wp2_with fail
      refine hu.out.mono ?_
      rintro e w1 ⟨rfl, rfl⟩
      go_wp2
      go_ret
      exact ⟨rfl, rfl⟩
    · have k1 : decide ((pre s 8 : Int) < 1) = true := by simp; omega
      clear h8 h1 hv hp
      generalize pre s 8 = p at *
      go_enter Tryd.func48, Tryd.ntmps48
      go_wp2_with fail
      refine hu.out.mono ?_
      rintro e w1 ⟨rfl, rfl⟩
      go_wp2
      go_ret
      exact ⟨rfl, rfl⟩
  · have e8' : ((s.size : Int) != 8) = true := by simp; omega
    clear h8 hv
    go_enter Tryd.func48, Tryd.ntmps48
    go_wp2_with fail
    go_ret
    exact ⟨rfl, rfl⟩

theorem RValidKey_any (s : ByteArray) (w : World) (hs : s.size ≤ 140737488351232) :
    Calls Tryd.prog 47 #[.string s] w fun e w' => e = .returned (.bool (vk s)) ∧ w = w' := by
  cases hv : vk s
  · have h := Lib.hid (Rnumber_no s w hv hs)
    clear hv
    go_enter Tryd.func47, Tryd.ntmps47
    go_wp2_with fail
    refine h.out.mono ?_
    rintro e w1 ⟨rfl, rfl⟩
    go_wp2
    go_ret
    exact ⟨rfl, rfl⟩
  · have h := Lib.hid (Rnumber_yes s w hv)
    clear hv
    generalize pre s 8 = p at *
    go_enter Tryd.func47, Tryd.ntmps47
    go_wp2_with fail
    refine h.out.mono ?_
    rintro e w1 ⟨rfl, rfl⟩
    go_wp2
    go_ret
    exact ⟨rfl, rfl⟩

set_option maxRecDepth 1000000 in
set_option maxHeartbeats 800000 in
theorem Rsecret_any (x : Int) (w : World) :
    Calls Tryd.prog 40 #[.int .i64 x] w fun e w' => e = .returned (.bool (sec x)) ∧ w = w' := by
  by_cases h1 : 1 ≤ x
  · by_cases h2 : x ≤ 2305843009213693949
    · have hv : sec x = true := by unfold sec; simp [h1, h2]
      rw [hv]
      clear hv
      go_enter Tryd.func40, Tryd.ntmps40
      go_wp2
      go_ret
      exact ⟨rfl, rfl⟩
    · have hv : sec x = false := by unfold sec; simp [h2]
      rw [hv]
      clear hv
      go_enter Tryd.func40, Tryd.ntmps40
      go_wp2
      go_ret
      exact ⟨rfl, rfl⟩
  · have hv : sec x = false := by unfold sec; simp [h1]
    rw [hv]
    clear hv
    go_enter Tryd.func40, Tryd.ntmps40
    go_wp2
    go_ret
    exact ⟨rfl, rfl⟩

set_option maxRecDepth 1000000 in
set_option maxHeartbeats 800000 in
theorem askSecret_yes (x : Int) (w : World) (h : sec x = true) :
    Calls Tryd.prog 38 #[.int .i64 x] w fun e w' => e = .returned (.tuple #[]) ∧ w = w' := by
  unfold sec at h
  simp at h
  obtain ⟨h1, h2⟩ := h
  have k1 : decide (x < 1) = false := by simp; omega
  have k2 : decide (2305843009213693949 < x) = false := by simp; omega
  clear h1 h2
  go_enter Tryd.func38, Tryd.ntmps38
  go_wp2_with fail
  refine (Sb.refuse_no _ _).mono ?_
  rintro e w1 ⟨rfl, rfl⟩
  go_wp2
  go_end0
  exact ⟨rfl, rfl⟩
set_option maxRecDepth 1000000 in
set_option maxHeartbeats 800000 in
theorem askSecret_no (x : Int) (w : World) (h : sec x = false) :
    Calls Tryd.prog 38 #[.int .i64 x] w fun e w' => e = .panicked [{ v := .iface 23 (.int .i64 7), recovered := false }] ∧ w = w' := by
  unfold sec at h
  by_cases h1 : 1 ≤ x
  · have h2 : 2305843009213693949 < x := by
      simp [h1] at h; exact h
    clear h
    go_enter Tryd.func38, Tryd.ntmps38
    go_wp2_with fail
    refine (Sb.refuse_yes _ _).mono ?_
    rintro e w1 ⟨rfl, rfl⟩
    go_wp2_with fail
    simp [bodyPost]
  · have h2 : x < 1 := by omega
    clear h h1
    go_enter Tryd.func38, Tryd.ntmps38
    go_wp2_with fail
    refine (Sb.refuse_yes _ _).mono ?_
    rintro e w1 ⟨rfl, rfl⟩
    go_wp2_with fail
    simp [bodyPost]

set_option maxRecDepth 1000000 in
set_option maxHeartbeats 800000 in
theorem key_any (n : Nat) (w : World) (h1 : 1 ≤ n) (h2 : n ≤ 2305843009213693949) :
    Calls Tryd.prog 53 #[.int .i64 n] w fun e w' => e = .returned (.string (e8 ((37 ^ n % P : Nat) : Int))) ∧ Below w.heap.size w w' := by
  have hp := power_any 37 n (by decide +kernel) (by omega) w
  have hq := pw_lt 37 n
  generalize 37 ^ n % P = p at *
  have HP := Lib.hid hp
  have hk := fun w => pack_any (p : Int) w (by omega) (by omega)
  have HK := Lib.hid hk
  clear hp hk hq
  go_enter Tryd.func53, Tryd.ntmps53
  go_wp2_with fail
  refine HP.out.mono ?_
  rintro e w1 ⟨rfl, hb1⟩
  go_wp2_with fail
  refine (HK.out _).mono ?_
  rintro e w2 ⟨rfl, hb2⟩
  go_wp2
  go_ret
  exact ⟨rfl, blw hb1 hb2⟩

theorem enterKey (args : Array Value) (w : World) : (callFunc 52 args).run Tryd.prog w = .ok (.enter 52 args) w := by kernel_rfl
set_option maxRecDepth 1000000 in
set_option maxHeartbeats 800000 in
theorem Key_any (x : Int) (w : World) :
    Calls Tryd.prog 11 #[.int .i64 x] w fun e w' => e = .returned (.tuple #[.string (kyT x), .int .i64 (kyE x)]) ∧ Below w.heap.size w w' := by
  have hmf : ∀ (fn : Fn) (first cap : Array Value) (w : World), (Instr.makeFunc fn first cap).run Tryd.prog w = .ok (.func fn first cap) w := fun _ _ _ _ => rfl
  unfold kyT kyE
  cases hs : sec x
  · have hF : ∀ w' : World, w'.cell? ⟨w.heap.size, 0, none⟩ = some (.int .i64 x) → Calls Tryd.prog 52 #[.pointer (some ⟨w.heap.size, 0, none⟩)] w' fun e w1 => e = .panicked [{ v := .iface 23 (.int .i64 7), recovered := false }] ∧ Below w'.heap.size w' w1 := by
      intro w' hc
      have HA := Lib.hid (askSecret_no x w' hs)
      clear hs hmf
      go_enter Tryd.func52, Tryd.ntmps52
      go_wp2_with fail
      refine HA.out.mono ?_
      rintro e w1 ⟨rfl, rfl⟩
      go_wp2_with fail
      simp [bodyPost]
      exact Below.refl _ _
    have HF := Lib.hid (Sb.attempt_err _ _ 7 _ enterKey (hF (Sb.aw (w.alloc (.cells #[.int .i64 x] 3))) (by simp [Sb.aw, go_sem])))
    clear hF hs
    go_enter Tryd.func11, Tryd.ntmps11
    go_wp2_with fail
    refine HF.out.mono ?_
    rintro e w1 ⟨rfl, hb1⟩
    go_wp2
    go_ret2
    exact ⟨rfl, below_alloc _ hb1⟩
  · obtain ⟨n, rfl, h1, h2⟩ := sec_nat x hs
    have hF : ∀ w' : World, w'.cell? ⟨w.heap.size, 0, none⟩ = some (.int .i64 (n : Int)) → Calls Tryd.prog 52 #[.pointer (some ⟨w.heap.size, 0, none⟩)] w' fun e w1 => e = .returned (.string (e8 ((37 ^ n % P : Nat) : Int))) ∧ Below w'.heap.size w' w1 := by
      intro w' hc
      have HA := Lib.hid (askSecret_yes (n : Int) w' hs)
      have HK := Lib.hid (key_any n w' h1 h2)
      generalize e8 ((37 ^ n % P : Nat) : Int) = t at *
      clear hs hmf h1 h2
      go_enter Tryd.func52, Tryd.ntmps52
      go_wp2_with fail
      refine HA.out.mono ?_
      rintro e w1 ⟨rfl, rfl⟩
      go_wp2_with fail
      refine HK.out.mono ?_
      rintro e w1 ⟨rfl, hb1⟩
      go_wp2
      go_ret
      exact ⟨rfl, hb1⟩
    have HF := Lib.hid (Sb.attempt_ret _ _ _ _ enterKey (hF (Sb.aw (w.alloc (.cells #[.int .i64 (n : Int)] 3))) (by simp [Sb.aw, go_sem])))
    have hn : (n : Int).toNat = n := by omega
    rw [hn]
    generalize e8 ((37 ^ n % P : Nat) : Int) = t at *
    clear hF hs hn h1 h2
    go_enter Tryd.func11, Tryd.ntmps11
    go_wp2_with fail
    refine HF.out.mono ?_
    rintro e w1 ⟨rfl, hb1⟩
    go_wp2
    go_ret2
    exact ⟨rfl, below_alloc _ hb1⟩

set_option maxRecDepth 1000000 in
set_option maxHeartbeats 800000 in
theorem Bytes_any (p : Nat) (w : World) (h : p < P) :
    Calls Tryd.prog 88 #[.int .i64 (p : Int)] w fun e w' => e = .returned (.string (e8 (p : Int))) ∧ Below w.heap.size w w' := by
  rw [P_eq] at h
  have HE := Lib.hid (eight_any (p : Int) w (by omega) (by omega))
  have hw : IntKind.u64.wrap (p : Int) = (p : Int) := by rw [IntKind.wrap_u64]; omega
  have h0 : (0 : Int) ≤ (p : Int) := by omega
  clear h
  go_enter Tryd.func88, Tryd.ntmps88
  go_wp2_with fail
  refine HE.out.mono ?_
  rintro e w1 ⟨rfl, hb1⟩
  go_wp2
  go_ret
  exact ⟨rfl, hb1⟩

end Go.Proofs.YtionmnjcfnmpeaaDoor.Sg
