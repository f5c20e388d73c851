/-
  Signatures: the specification's sign; Sign of both.
-/
import Derived.Test.YtionmnjcfnmpeaaDoorSq
namespace Go.Proofs.YtionmnjcfnmpeaaDoor.Sq
open Go Go.RowKit Go.Proofs.YtionmnjcfnmpeaaDoor.Hz Go.Proofs.YtionmnjcfnmpeaaDoor.Sg

theorem RMulO (a b : Nat) (ha : a < So.O) (hb : b ≤ 9223372036854775807) (w : World) :
    Calls Tryd.prog 51 #[.int .i64 a, .int .i64 b, .int .i64 2305843009213693950] w fun e w' => e = .returned (.int .i64 ((a * b % So.O : Nat) : Int)) ∧ w = w' := by
  rw [← castO]; exact RMul_any a b So.O (by rw [O_eq]; omega) ha hb w

set_option maxRecDepth 1000000 in
set_option maxHeartbeats 2000000 in
theorem Rsign_any (x : Nat) (t : ByteArray) (w : World) (h1 : 1 ≤ x) (h2 : x ≤ 2305843009213693949) (ht : t.size ≤ 65536) :
    Calls Tryd.prog 41 #[.int .i64 (x : Int), .string t] w fun e w' => e = .returned (.string (sg x t)) ∧ Below w.heap.size w w' := by
  have HI := Lib.hid (fun w => Hh.Decimal_all x (by omega) w)
  have zd := Hh.dec_size x (by omega)
  have htk : tK x t = ⟨#[107, 58]⟩ ++ Hh.dec x ++ ⟨#[58]⟩ ++ t := rfl
  obtain ⟨hk1, hk2⟩ := kk_lt x t
  have hkk : kk x t = 1 + dr (tK x t) K1 := rfl
  have hcc : cc x t = dr (rr x t ++ ky x ++ t) So.O := rfl
  have hcl : cc x t < So.O := dr_lt _ _ (by rw [O_eq]; omega)
  have hss : ss x t = (kk x t + cc x t * x % So.O) % So.O := rfl
  have hsl : ss x t < So.O := Nat.mod_lt _ (by rw [O_eq]; omega)
  have hsg : sg x t = rr x t ++ e8 (ss x t : Int) := rfl
  have zr : (rr x t).size = 8 := e8_size _
  have zk : (ky x).size = 8 := e8_size _
  have zz : ∀ a b : ByteArray, (a ++ b).size = a.size + b.size := fun a b => ByteArray.size_append
  have z1 : (⟨#[107, 58]⟩ : ByteArray).size = 2 := rfl
  have z2 : (⟨#[58]⟩ : ByteArray).size = 1 := rfl
  have hP : P = 2305843009213693951 := by decide +kernel
  have HD1 := Lib.hid (fun w => drawn_K (tK x t) w (by rw [htk, zz, zz, zz, z1, z2]; omega))
  have HD2 := Lib.hid (fun w => drawn_O (rr x t ++ ky x ++ t) w (by rw [zz, zz, zr, zk]; omega))
  rw [← hcc] at HD2
  have HPX := Lib.hid (fun w => RPow_any 37 x (by decide +kernel) (by omega) w)
  have HBX : Hid (∀ w, Calls Tryd.prog 88 #[.int .i64 ((37 ^ x % P : Nat) : Int)] w fun e w' => e = .returned (.string (ky x)) ∧ Below w.heap.size w w') := Lib.hid (fun w => Bytes_any _ w (Nat.mod_lt _ (by rw [hP]; omega)))
  have HPW := Lib.hid (fun w => RPow_any 37 (kk x t) (by decide +kernel) (by omega) w)
  have HPK : Hid (∀ w, Calls Tryd.prog 88 #[.int .i64 ((37 ^ kk x t % P : Nat) : Int)] w fun e w' => e = .returned (.string (rr x t)) ∧ Below w.heap.size w w') := Lib.hid (fun w => Bytes_any _ w (Nat.mod_lt _ (by rw [hP]; omega)))
  have HPR := Lib.hid (fun w => RMulO (cc x t) x hcl (by omega) w)
  have hml : cc x t * x % So.O < So.O := Nat.mod_lt _ (by rw [O_eq]; omega)
  have HPS := Lib.hid (fun w => Bytes_any (ss x t) w (by rw [hP]; rw [O_eq] at hsl; omega))
  rw [htk] at HD1 hkk
  obtain ⟨dx, hdx⟩ : ∃ dx, Hh.dec x = dx := ⟨_, rfl⟩
  simp only [hdx] at HI HD1 hkk zd
  obtain ⟨d1, hd1⟩ : ∃ d, dr (⟨#[107, 58]⟩ ++ dx ++ ⟨#[58]⟩ ++ t) K1 = d := ⟨_, rfl⟩
  rw [hd1] at HD1 hkk
  obtain ⟨k, hk⟩ : ∃ k, kk x t = k := ⟨_, rfl⟩
  obtain ⟨c, hc⟩ : ∃ c, cc x t = c := ⟨_, rfl⟩
  obtain ⟨s, hs⟩ : ∃ s, ss x t = s := ⟨_, rfl⟩
  obtain ⟨r, hr⟩ : ∃ r, rr x t = r := ⟨_, rfl⟩
  obtain ⟨y, hy⟩ : ∃ y, ky x = y := ⟨_, rfl⟩
  simp only [hk, hc, hs, hr, hy] at hk1 hk2 hkk hcc hcl hss hsl hsg zr zk HD2 HPW HPK HBX HPR HPS hml ⊢
  obtain ⟨m, hm⟩ : ∃ m, c * x % So.O = m := ⟨_, rfl⟩
  obtain ⟨pw, hpw⟩ : ∃ pw, 37 ^ k % P = pw := ⟨_, rfl⟩
  obtain ⟨px, hpx⟩ : ∃ px, 37 ^ x % P = px := ⟨_, rfl⟩
  simp only [hm, hpw, hpx] at hss HPW HPK HPR hml HPX HBX
  rw [hsg]
  obtain ⟨es, hes⟩ : ∃ es, e8 (s : Int) = es := ⟨_, rfl⟩
  simp only [hes] at HPS ⊢
  rw [O_eq] at hss hml hcl hsl
  have zes : es.size = 8 := by rw [← hes]; exact e8_size _
  have HX : Hid (∀ w, Calls Tryd.prog 50 #[.int .i64 37, .int .i64 (k : Int)] w fun e w' => e = .returned (.int .i64 (pw : Int)) ∧ w = w') := HPW
  have HX2 : Hid (∀ w, Calls Tryd.prog 50 #[.int .i64 37, .int .i64 (x : Int)] w fun e w' => e = .returned (.int .i64 (px : Int)) ∧ w = w') := HPX
  have hkd : 1 + (d1 : Int) = (k : Int) := by omega
  have hsI2 : ((k : Int) + (m : Int)).tmod 2305843009213693950 = (s : Int) := by rw [Int.tmod_eq_emod_of_nonneg (by omega)]; omega
  have hsI : ((k : Int) + (m : Int)) % 2305843009213693950 = (s : Int) := by omega
  have bk : (k : Int) ≤ 2305843009213693949 := by omega
  have bm : (m : Int) ≤ 2305843009213693949 := by omega
  have bd : (d1 : Int) ≤ 2305843009213693949 := by omega
  clear htk hdx hd1 hk hc hs hr hy hm hpw hes hss hkk hcc hsg HPW HPX zz hcl hml hsl hk1 hk2 hpx hP
  go_enter Tryd.func41, Tryd.ntmps41
  go_wp2_with fail
  refine (HX2.out _).mono ?_
  rintro e w0 ⟨rfl, rfl⟩
  go_wp2_with fail
  refine (HBX.out _).mono ?_
  rintro e w1 ⟨rfl, b1⟩
  have B1 := Lib.hid b1
  clear b1
  go_wp2_with fail
  refine (HI.out _).mono ?_
  rintro e w2 ⟨rfl, b⟩
  have B2 := Lib.hid (blw B1.out b)
  clear b B1
  go_wp2_with fail
  refine (HD1.out _).mono ?_
  rintro e w3 ⟨rfl, b⟩
  have B3 := Lib.hid (blw B2.out b)
  clear b B2
  go_wp2_with fail
  refine (HX.out _).mono ?_
  rintro e w4 ⟨rfl, rfl⟩
  go_wp2_with fail
  refine (HPK.out _).mono ?_
  rintro e w4 ⟨rfl, b⟩
  have B4 := Lib.hid (blw B3.out b)
  clear b B3
  go_wp2_with fail
  refine (HD2.out _).mono ?_
  rintro e w6 ⟨rfl, b⟩
  have B6 := Lib.hid (blw B4.out b)
  clear b B4
  go_wp2_with fail
  refine (HPR.out _).mono ?_
  rintro e w7 ⟨rfl, rfl⟩
  go_wp2_with fail
  refine (HPS.out _).mono ?_
  rintro e w8 ⟨rfl, b⟩
  have B8 := Lib.hid (blw B6.out b)
  clear b B6
  go_wp2
  go_ret
  exact ⟨rfl, B8.out⟩

/-- Sign's answer -/
def siE (x : Int) (t : ByteArray) : Int := if 65536 < t.size then 3 else if sec x = true then 0 else 7
def siV (x : Int) (t : ByteArray) : ByteArray := if siE x t = 0 then sg x.toNat t else ⟨#[]⟩
set_option maxRecDepth 1000000 in
set_option maxHeartbeats 1000000 in
theorem RSign_any (x : Int) (t : ByteArray) (w : World) (hz : t.size ≤ 140737488351232) :
    Calls Tryd.prog 8 #[.int .i64 x, .string t] w fun e w' => e = .returned (.tuple #[.string (siV x t), .int .i64 (siE x t)]) ∧ Below w.heap.size w w' := by
  by_cases hl : 65536 < t.size
  · have e : siE x t = 3 := if_pos hl
    rw [siV, e, if_neg (by decide)]
    have hl' : (65536 : Int) < (t.size : Int) := by omega
    clear hl e
    go_enter Tryd.func8, Tryd.ntmps8
    go_wp2
    go_ret2
    exact ⟨rfl, Below.refl _ _⟩
  · have hl' : ¬ (65536 : Int) < (t.size : Int) := by omega
    have HS := Lib.hid (fun w => Rsecret_any x w)
    cases hs : sec x
    · have e : siE x t = 7 := by unfold siE; rw [if_neg hl, if_neg (by rw [hs]; decide)]
      rw [siV, e, if_neg (by decide)]
      rw [hs] at HS
      clear hl e hs
      go_enter Tryd.func8, Tryd.ntmps8
      go_wp2_with fail
      refine (HS.out _).mono ?_
      rintro e w1 ⟨rfl, rfl⟩
      go_wp2
      go_ret2
      exact ⟨rfl, Below.refl _ _⟩
    · have e : siE x t = 0 := by unfold siE; rw [if_neg hl, if_pos hs]
      rw [siV, e, if_pos rfl]
      rw [hs] at HS
      obtain ⟨n, rfl, h1, h2⟩ := sec_nat x hs
      rw [Int.toNat_natCast]
      have HG := Lib.hid (fun w => Rsign_any n t w h1 h2 (by omega))
      obtain ⟨v, hv⟩ : ∃ v, sg n t = v := ⟨_, rfl⟩
      rw [hv] at HG ⊢
      clear hl e hs hv h1 h2
      go_enter Tryd.func8, Tryd.ntmps8
      go_wp2_with fail
      refine (HS.out _).mono ?_
      rintro e w1 ⟨rfl, rfl⟩
      go_wp2_with fail
      refine (HG.out _).mono ?_
      rintro e w1 ⟨rfl, b⟩
      go_wp2
      go_ret2
      exact ⟨rfl, b⟩

set_option maxRecDepth 1000000 in
set_option maxHeartbeats 1000000 in
theorem SignF_long (pt px : Nat) (x : Int) (t : ByteArray) (w : World) (h : 65536 < t.size) (ct : w.cell? ⟨pt, 0, none⟩ = some (.string t)) :
    Calls Tryd.prog 36 #[.pointer (some ⟨pt, 0, none⟩), .pointer (some ⟨px, 0, none⟩)] w fun e w' => e = .panicked [{ v := .iface 23 (.int .i64 3), recovered := false }] ∧ Below w.heap.size w w' := by
  have d : decide ((65536 : Int) < (t.size : Int)) = true := by simp; omega
  clear h
  go_enter Tryd.func36, Tryd.ntmps36
  go_wp2_with fail
  refine (Sb.refuse_yes _ _).mono ?_
  rintro e w1 ⟨rfl, rfl⟩
  exact ⟨rfl, rfl, Below.refl _ _⟩
set_option maxRecDepth 1000000 in
set_option maxHeartbeats 1000000 in
theorem SignF_no (pt px : Nat) (x : Int) (t : ByteArray) (w : World) (h : t.size ≤ 65536) (hs : sec x = false) (ct : w.cell? ⟨pt, 0, none⟩ = some (.string t)) (cx : w.cell? ⟨px, 0, none⟩ = some (.int .i64 x)) :
    Calls Tryd.prog 36 #[.pointer (some ⟨pt, 0, none⟩), .pointer (some ⟨px, 0, none⟩)] w fun e w' => e = .panicked [{ v := .iface 23 (.int .i64 7), recovered := false }] ∧ Below w.heap.size w w' := by
  have d : decide ((65536 : Int) < (t.size : Int)) = false := by simp; omega
  have HA := Lib.hid (fun w => askSecret_no x w hs)
  clear h hs
  go_enter Tryd.func36, Tryd.ntmps36
  go_wp2_with fail
  refine (Sb.refuse_no _ _).mono ?_
  rintro e w1 ⟨rfl, rfl⟩
  go_wp2_with fail
  refine (HA.out _).mono ?_
  rintro e w1 ⟨rfl, rfl⟩
  exact ⟨rfl, rfl, Below.refl _ _⟩
set_option maxRecDepth 1000000 in
set_option maxHeartbeats 1000000 in
theorem SignF_yes (pt px : Nat) (x : Nat) (t : ByteArray) (w : World) (h : t.size ≤ 65536) (hs : sec (x : Int) = true) (h1 : 1 ≤ x) (h2 : x ≤ 2305843009213693949) (hT : Hh.Tab w) (ct : w.cell? ⟨pt, 0, none⟩ = some (.string t)) (cx : w.cell? ⟨px, 0, none⟩ = some (.int .i64 (x : Int))) :
    Calls Tryd.prog 36 #[.pointer (some ⟨pt, 0, none⟩), .pointer (some ⟨px, 0, none⟩)] w fun e w' => e = .returned (.string (sg x t)) ∧ Below w.heap.size w w' := by
  have d : decide ((65536 : Int) < (t.size : Int)) = false := by simp; omega
  have HA := Lib.hid (fun w => askSecret_yes (x : Int) w hs)
  have HG := Lib.hid (sign_any x t w h1 h2 h hT)
  obtain ⟨v, hv⟩ : ∃ v, sg x t = v := ⟨_, rfl⟩
  rw [hv] at HG ⊢
  clear h hs hv hT h1 h2
  go_enter Tryd.func36, Tryd.ntmps36
  go_wp2_with fail
  refine (Sb.refuse_no _ _).mono ?_
  rintro e w1 ⟨rfl, rfl⟩
  go_wp2_with fail
  refine (HA.out _).mono ?_
  rintro e w1 ⟨rfl, rfl⟩
  go_wp2_with fail
  refine HG.out.mono ?_
  rintro e w1 ⟨rfl, b⟩
  go_wp2
  go_ret
  exact ⟨rfl, b⟩
theorem enterSign (args : Array Value) (w : World) : (callFunc 36 args).run Tryd.prog w = .ok (.enter 36 args) w := by kernel_rfl
set_option maxRecDepth 1000000 in
set_option maxHeartbeats 1000000 in
theorem Sign_any (x : Int) (t : ByteArray) (w : World) (hT : Hh.Tab w) :
    Calls Tryd.prog 7 #[.int .i64 x, .string t] w fun e w' => e = .returned (.tuple #[.string (siV x t), .int .i64 (siE x t)]) ∧ Below w.heap.size w w' := by
  have hmf : ∀ (fn : Fn) (first cap : Array Value) (w : World), (Instr.makeFunc fn first cap).run Tryd.prog w = .ok (.func fn first cap) w := fun _ _ _ _ => rfl
  have cx : (Sb.aw ((w.alloc (.cells #[.int .i64 x] 3)).alloc (.cells #[.string t] 9))).cell? ⟨w.heap.size, 0, none⟩ = some (.int .i64 x) := by simp [Sb.aw, go_sem]
  have ct : (Sb.aw ((w.alloc (.cells #[.int .i64 x] 3)).alloc (.cells #[.string t] 9))).cell? ⟨w.heap.size + 1, 0, none⟩ = some (.string t) := by simp [Sb.aw, go_sem]
  have hT2 : Hh.Tab (Sb.aw ((w.alloc (.cells #[.int .i64 x] 3)).alloc (.cells #[.string t] 9))) := hT.below (by unfold Sb.aw; exact blw_alloc (blw_alloc (blw_alloc (blw_alloc (Below.refl _ _)))))
  have H : Hid (Calls Tryd.prog 35 #[.func (Fn.func 36) #[] #[.pointer (some ⟨w.heap.size + 1, 0, none⟩), .pointer (some ⟨w.heap.size, 0, none⟩)]] ((w.alloc (.cells #[.int .i64 x] 3)).alloc (.cells #[.string t] 9)) fun e w' => e = .returned (.tuple #[.string (siV x t), .int .i64 (siE x t)]) ∧ Below ((w.alloc (.cells #[.int .i64 x] 3)).alloc (.cells #[.string t] 9)).heap.size ((w.alloc (.cells #[.int .i64 x] 3)).alloc (.cells #[.string t] 9)) w') := by
    refine Lib.hid ?_
    by_cases hl : 65536 < t.size
    · have e : siE x t = 3 := if_pos hl
      rw [siV, e, if_neg (by decide)]
      exact Sb.attempt_err _ _ 3 _ enterSign (SignF_long _ _ x t _ hl ct)
    · cases hs : sec x
      · have e : siE x t = 7 := by unfold siE; rw [if_neg hl, if_neg (by rw [hs]; decide)]
        rw [siV, e, if_neg (by decide)]
        exact Sb.attempt_err _ _ 7 _ enterSign (SignF_no _ _ x t _ (by omega) hs ct cx)
      · have e : siE x t = 0 := by unfold siE; rw [if_neg hl, if_pos hs]
        rw [siV, e, if_pos rfl]
        obtain ⟨n, rfl, h1, h2⟩ := sec_nat x hs
        rw [Int.toNat_natCast]
        exact Sb.attempt_ret _ _ _ _ enterSign (SignF_yes _ _ n t _ (by omega) hs h1 h2 hT2 ct cx)
  obtain ⟨v, hv⟩ : ∃ v, siV x t = v := ⟨_, rfl⟩
  obtain ⟨q, hq⟩ : ∃ q, siE x t = q := ⟨_, rfl⟩
  rw [hv, hq] at H ⊢
  clear hv hq cx ct hT hT2
  go_enter Tryd.func7, Tryd.ntmps7
  go_wp2_with fail
  refine H.out.mono ?_
  rintro e w1 ⟨rfl, hb1⟩
  go_wp2
  go_ret2
  exact ⟨rfl, below_alloc _ (below_alloc _ hb1)⟩
end Go.Proofs.YtionmnjcfnmpeaaDoor.Sq
