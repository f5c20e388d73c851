/-
  Signatures: draws, and sign of both.
-/
import Derived.Test.YtionmnjcfnmpeaaDoorSk
import Derived.Test.YtionmnjcfnmpeaaDoorSp
import Derived.Test.YtionmnjcfnmpeaaDoorDn
import Derived.Test.YtionmnjcfnmpeaaDoorDi
import Derived.Test.YtionmnjcfnmpeaaDoorHe
import Derived.Test.YtionmnjcfnmpeaaDoorHr
namespace Go.Proofs.YtionmnjcfnmpeaaDoor.Sq
open Go Go.RowKit Go.Proofs.YtionmnjcfnmpeaaDoor.Hz Go.Proofs.YtionmnjcfnmpeaaDoor.Sg

def K1 : Nat := 2305843009213693949
theorem castK : ((K1 : Nat) : Int) = 2305843009213693949 := by decide +kernel
theorem castO : ((So.O : Nat) : Int) = 2305843009213693950 := by decide +kernel
theorem K1_eq : K1 = 2305843009213693949 := by decide +kernel
theorem O_eq : So.O = 2305843009213693950 := by decide +kernel
/-- the number that a text draws -/
def dr (s : ByteArray) (n : Nat) : Nat := Hi.pre (Dg.sum s.data.toList) 8 % n
theorem dr_lt (s : ByteArray) (n : Nat) (h : 1 ≤ n) : dr s n < n := Nat.mod_lt _ h
theorem nb_sum (s : ByteArray) (n : Nat) (h : 1 ≤ n) : Hi.nb (Dg.sum s.data.toList) n = ((dr s n : Int), 0) := by
  unfold Hi.nb
  rw [if_neg (by rw [Dg.sum_size]; omega), if_neg (by omega)]
  rfl

theorem below_drewN {w w1 : World} (q : Nat) (h : Below w.heap.size w w1) : Below w.heap.size w (w1.drewN q) := h.trans ⟨rfl, rfl, rfl, Nat.le_refl _, fun _ _ => rfl⟩
set_option maxRecDepth 1000000 in
set_option maxHeartbeats 1000000 in
theorem draw_any (s : ByteArray) (n : Nat) (w : World) (hs : s.size ≤ 1000000) (h1 : 1 ≤ n) (h2 : n ≤ 2305843009213693950) :
    Calls Tryd.prog 44 #[.string s, .int .i64 (n : Int)] w fun e w' => e = .returned (.int .u64 (dr s n : Int)) ∧ Below w.heap.size w w' := by
  have HS := Lib.hid (fun w => Hh.Sum_any s w (by unfold maxLen; omega))
  have HN := Lib.hid (fun w => Hi.Number_any (Dg.sum s.data.toList) n w (by omega))
  rw [nb_sum s n h1] at HN
  have hlt := dr_lt s n h1
  obtain ⟨k, hk⟩ : ∃ k, dr s n = k := ⟨_, rfl⟩
  rw [hk] at HN hlt ⊢
  obtain ⟨D, hD⟩ : ∃ D, Dg.sum s.data.toList = D := ⟨_, rfl⟩
  rw [hD] at HS HN
  have hw : IntKind.u64.wrap (k : Int) = (k : Int) := by rw [IntKind.wrap_u64]; omega
  clear hk hD hlt h1 h2
  go_enter Tryd.func44, Tryd.ntmps44
  go_wp2_with fail
  refine (HS.out _).mono ?_
  rintro e w1 ⟨rfl, b1⟩
  have B1 := Lib.hid b1
  clear b1
  go_wp2_with fail
  refine (HN.out _).mono ?_
  rintro e w2 ⟨rfl, b2⟩
  have B2 := Lib.hid (blw B1.out b2)
  clear b2
  go_wp2_with fail
  refine (Sb.refuse_no _ _).mono ?_
  rintro e w3 ⟨rfl, rfl⟩
  go_wp2
  go_ret
  exact ⟨rfl, B2.out⟩
set_option maxRecDepth 1000000 in
set_option maxHeartbeats 1000000 in
theorem drawn_any (s : ByteArray) (n : Nat) (w : World) (hs : s.size ≤ 1000000) (h1 : 1 ≤ n) (h2 : n ≤ 2305843009213693950) :
    Calls Tryd.prog 49 #[.string s, .int .i64 (n : Int)] w fun e w' => e = .returned (.int .i64 (dr s n : Int)) ∧ Below w.heap.size w w' := by
  have HS := Lib.hid (fun w => Hh.RSum_any s w (by unfold maxLen; omega))
  have HN := Lib.hid (fun w => Hi.RNumber_any (Dg.sum s.data.toList) n w (by omega) (by omega))
  rw [nb_sum s n h1] at HN
  obtain ⟨k, hk⟩ : ∃ k, dr s n = k := ⟨_, rfl⟩
  rw [hk] at HN ⊢
  obtain ⟨D, hD⟩ : ∃ D, Dg.sum s.data.toList = D := ⟨_, rfl⟩
  rw [hD] at HS HN
  clear hk hD h1 h2
  go_enter Tryd.func49, Tryd.ntmps49
  go_wp2_with fail
  refine (HS.out _).mono ?_
  rintro e w1 ⟨rfl, b1⟩
  have B1 := Lib.hid b1
  clear b1
  go_wp2_with fail
  refine (HN.out _).mono ?_
  rintro e w2 ⟨rfl, b2⟩
  have B2 := Lib.hid (blw B1.out b2)
  clear b2
  go_wp2
  go_ret
  exact ⟨rfl, B2.out⟩
theorem draw_K (s : ByteArray) (w : World) (hs : s.size ≤ 1000000) : Calls Tryd.prog 44 #[.string s, .int .i64 2305843009213693949] w fun e w' => e = .returned (.int .u64 (dr s K1 : Int)) ∧ Below w.heap.size w w' := by
  rw [← castK]; exact draw_any s K1 w hs (by rw [K1_eq]; omega) (by rw [K1_eq]; omega)
theorem draw_O (s : ByteArray) (w : World) (hs : s.size ≤ 1000000) : Calls Tryd.prog 44 #[.string s, .int .i64 2305843009213693950] w fun e w' => e = .returned (.int .u64 (dr s So.O : Int)) ∧ Below w.heap.size w w' := by
  rw [← castO]; exact draw_any s So.O w hs (by rw [O_eq]; omega) (by rw [O_eq]; omega)
theorem drawn_K (s : ByteArray) (w : World) (hs : s.size ≤ 1000000) : Calls Tryd.prog 49 #[.string s, .int .i64 2305843009213693949] w fun e w' => e = .returned (.int .i64 (dr s K1 : Int)) ∧ Below w.heap.size w w' := by
  rw [← castK]; exact drawn_any s K1 w hs (by rw [K1_eq]; omega) (by rw [K1_eq]; omega)
theorem drawn_O (s : ByteArray) (w : World) (hs : s.size ≤ 1000000) : Calls Tryd.prog 49 #[.string s, .int .i64 2305843009213693950] w fun e w' => e = .returned (.int .i64 (dr s So.O : Int)) ∧ Below w.heap.size w w' := by
  rw [← castO]; exact drawn_any s So.O w hs (by rw [O_eq]; omega) (by rw [O_eq]; omega)
theorem prodO (a b : Nat) (ha : a < So.O) (hb : b < So.O) (w : World) :
    Calls Tryd.prog 46 #[.int .u64 a, .int .u64 b, .int .u64 2305843009213693950] w fun e w' => e = .returned (.int .u64 ((a * b % So.O : Nat) : Int)) ∧ ∃ n, w' = w.drewN n := by
  rw [← castO]; exact So.product_anyO So.O a b rfl ha hb w

/-- what sign writes -/
def tK (x : Nat) (t : ByteArray) : ByteArray := ⟨#[107, 58]⟩ ++ Hh.dec x ++ ⟨#[58]⟩ ++ t
def kk (x : Nat) (t : ByteArray) : Nat := 1 + dr (tK x t) K1
def rr (x : Nat) (t : ByteArray) : ByteArray := e8 ((37 ^ kk x t % P : Nat) : Int)
def ky (x : Nat) : ByteArray := e8 ((37 ^ x % P : Nat) : Int)
def cc (x : Nat) (t : ByteArray) : Nat := dr (rr x t ++ ky x ++ t) So.O
def ss (x : Nat) (t : ByteArray) : Nat := (kk x t + cc x t * x % So.O) % So.O
def sg (x : Nat) (t : ByteArray) : ByteArray := rr x t ++ e8 (ss x t : Int)
theorem kk_lt (x : Nat) (t : ByteArray) : 1 ≤ kk x t ∧ kk x t ≤ 2305843009213693949 := by
  have := dr_lt (tK x t) K1 (by rw [K1_eq]; omega)
  rw [K1_eq] at this
  unfold kk
  rw [K1_eq]
  omega

set_option maxRecDepth 1000000 in
set_option maxHeartbeats 2000000 in
theorem sign_any (x : Nat) (t : ByteArray) (w : World) (h1 : 1 ≤ x) (h2 : x ≤ 2305843009213693949) (ht : t.size ≤ 65536) (hT : Hh.Tab w) :
    Calls Tryd.prog 39 #[.int .i64 (x : Int), .string t] w fun e w' => e = .returned (.string (sg x t)) ∧ Below w.heap.size w w' := by
  have HI := Lib.hid (Hh.Itoa_any x (by omega) w hT)
  have zd := Hh.dec_size x (by omega)
  have htk : tK x t = ⟨#[107, 58]⟩ ++ Hh.dec x ++ ⟨#[58]⟩ ++ t := rfl
  obtain ⟨hk1, hk2⟩ := kk_lt x t
  have hkk : kk x t = 1 + dr (tK x t) K1 := rfl
  have hcc : cc x t = dr (rr x t ++ ky x ++ t) So.O := rfl
  have hcl : cc x t < So.O := dr_lt _ _ (by rw [O_eq]; omega)
  have hss : ss x t = (kk x t + cc x t * x % So.O) % So.O := rfl
  have hsl : ss x t < So.O := Nat.mod_lt _ (by rw [O_eq]; omega)
  have hsg : sg x t = rr x t ++ e8 (ss x t : Int) := rfl
  have zr : (rr x t).size = 8 := e8_size _
  have zk : (ky x).size = 8 := e8_size _
  have zz : ∀ a b : ByteArray, (a ++ b).size = a.size + b.size := fun a b => ByteArray.size_append
  have z1 : (⟨#[107, 58]⟩ : ByteArray).size = 2 := rfl
  have z2 : (⟨#[58]⟩ : ByteArray).size = 1 := rfl
  have HD1 := Lib.hid (fun w => draw_K (tK x t) w (by rw [htk, zz, zz, zz, z1, z2]; omega))
  have HD2 := Lib.hid (fun w => draw_O (rr x t ++ ky x ++ t) w (by rw [zz, zz, zr, zk]; omega))
  rw [← hcc] at HD2
  have HPW := Lib.hid (fun w => power_any 37 (kk x t) (by decide +kernel) (by omega) w)
  have HPK : Hid (∀ w, Calls Tryd.prog 87 #[.int .u64 ((37 ^ kk x t % P : Nat) : Int)] w fun e w' => e = .returned (.string (rr x t)) ∧ Below w.heap.size w w') := Lib.hid (fun w => pack_any _ w (by omega) (by have := pw_lt 37 (kk x t); omega))
  have HKY := Lib.hid (fun w => key_any x w h1 h2)
  rw [show e8 ((37 ^ x % P : Nat) : Int) = ky x from rfl] at HKY
  have HPR := Lib.hid (fun w => prodO (cc x t) x hcl (by rw [O_eq]; omega) w)
  have hml : cc x t * x % So.O < So.O := Nat.mod_lt _ (by rw [O_eq]; omega)
  have HPS := Lib.hid (fun w => pack_any (ss x t : Int) w (by omega) (by rw [O_eq] at hsl; omega))
  rw [htk] at HD1 hkk
  obtain ⟨dx, hdx⟩ : ∃ dx, Hh.dec x = dx := ⟨_, rfl⟩
  rw [hdx] at HI HD1 hkk zd
  obtain ⟨d1, hd1⟩ : ∃ d, dr (⟨#[107, 58]⟩ ++ dx ++ ⟨#[58]⟩ ++ t) K1 = d := ⟨_, rfl⟩
  rw [hd1] at HD1 hkk
  obtain ⟨k, hk⟩ : ∃ k, kk x t = k := ⟨_, rfl⟩
  obtain ⟨c, hc⟩ : ∃ c, cc x t = c := ⟨_, rfl⟩
  obtain ⟨s, hs⟩ : ∃ s, ss x t = s := ⟨_, rfl⟩
  obtain ⟨r, hr⟩ : ∃ r, rr x t = r := ⟨_, rfl⟩
  obtain ⟨y, hy⟩ : ∃ y, ky x = y := ⟨_, rfl⟩
  simp only [hk, hc, hs, hr, hy] at hk1 hk2 hkk hcc hcl hss hsl hsg zr zk HD2 HPW HPK HKY HPR HPS hml ⊢
  obtain ⟨m, hm⟩ : ∃ m, c * x % So.O = m := ⟨_, rfl⟩
  obtain ⟨pw, hpw⟩ : ∃ pw, 37 ^ k % P = pw := ⟨_, rfl⟩
  simp only [hm, hpw] at hss HPW HPK HPR hml
  rw [hsg]
  obtain ⟨es, hes⟩ : ∃ es, e8 (s : Int) = es := ⟨_, rfl⟩
  simp only [hes] at HPS ⊢
  rw [O_eq] at hss hml hcl hsl
  have wk : IntKind.u64.wrap (1 + (d1 : Int)) = (k : Int) := by rw [IntKind.wrap_u64, hkk]; omega
  have zes : es.size = 8 := by rw [← hes]; exact e8_size _
  have HX : Hid (∀ w, Calls Tryd.prog 45 #[.int .u64 37, .int .u64 (k : Int)] w fun e w' => e = .returned (.int .u64 (pw : Int)) ∧ Below w.heap.size w w') := HPW
  have wx : IntKind.u64.wrap (x : Int) = (x : Int) := by rw [IntKind.wrap_u64]; omega
  have hkm : (k : Int) % 2305843009213693950 = (k : Int) := by omega
  have hsI : ((k : Int) + (m : Int)) % 2305843009213693950 = (s : Int) := by omega
  have bk : (k : Int) ≤ 2305843009213693949 := by omega
  have bm : (m : Int) ≤ 2305843009213693949 := by omega
  have hkm2 : (k : Int).tmod 2305843009213693950 = (k : Int) := by rw [Int.tmod_eq_emod_of_nonneg (by omega)]; omega
  have hsI2 : ((k : Int) + (m : Int)).tmod 2305843009213693950 = (s : Int) := by rw [Int.tmod_eq_emod_of_nonneg (by omega)]; omega
  have wkm : IntKind.u64.wrap ((k : Int) + (m : Int)) = (k : Int) + (m : Int) := by rw [IntKind.wrap_u64]; omega
  clear htk hdx hd1 hk hc hs hr hy hm hpw hes hss hkk hcc hsg HPW zz hcl hml hsl hk1 hk2 hT
  go_enter Tryd.func39, Tryd.ntmps39
  go_wp2_with fail
  refine HI.out.mono ?_
  rintro e w1 ⟨rfl, b1⟩
  have B1 := Lib.hid b1
  clear b1
  go_wp2_with fail
  refine (HD1.out _).mono ?_
  rintro e w2 ⟨rfl, b⟩
  have B2 := Lib.hid (blw B1.out b)
  clear b B1
  go_wp2_with fail
  refine (HX.out _).mono ?_
  rintro e w3 ⟨rfl, b⟩
  have B3 := Lib.hid (blw B2.out b)
  clear b B2
  go_wp2_with fail
  refine (HPK.out _).mono ?_
  rintro e w4 ⟨rfl, b⟩
  have B4 := Lib.hid (blw B3.out b)
  clear b B3
  go_wp2_with fail
  refine (HKY.out _).mono ?_
  rintro e w5 ⟨rfl, b⟩
  have B5 := Lib.hid (blw B4.out b)
  clear b B4
  go_wp2_with fail
  refine (HD2.out _).mono ?_
  rintro e w6 ⟨rfl, b⟩
  have B6 := Lib.hid (blw B5.out b)
  clear b B5
  go_wp2_with fail
  refine (HPR.out _).mono ?_
  rintro e w7 ⟨rfl, q, rfl⟩
  go_wp2_with fail
  refine (HPS.out _).mono ?_
  rintro e w8 ⟨rfl, b⟩
  have B8 := Lib.hid (blw (below_drewN q B6.out) b)
  clear b B6
  go_wp2
  go_ret
  exact ⟨rfl, B8.out⟩
end Go.Proofs.YtionmnjcfnmpeaaDoor.Sq
