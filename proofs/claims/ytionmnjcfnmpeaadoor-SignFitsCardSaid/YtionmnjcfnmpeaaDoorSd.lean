/-
  math/bits off the shelf: Mul64, Len64; LeadingZeros64 and Div64 by the prime.
-/
import Derived.Test.YtionmnjcfnmpeaaDoorSa
import Derived.Shelf.Bits.Mul64
import Derived.Shelf.Strconv.Itoa0
import Derived.Shelf.Lay
import Derived.Ground.NamesProg
import Derived.WalkKit
import Derived.WalkSpells
import Derived.WalkLawsBesides
import Derived.LoopTactic
import Derived.Outline
import Derived.Deep.QuietTactic
import Derived.BigQuiet
import Derived.BigRegion
import Derived.RegionTactic
import Derived.Lib.Hide
namespace Go.Proofs
open Go.Shelf
shelf_lay Lays.n264 Nm 264 at Tryd as Tryd.laysMul64
shelf_lay Lays.n129 Nm 129 at Tryd as Tryd.laysLen64
end Go.Proofs
namespace Go.Proofs.YtionmnjcfnmpeaaDoor.Sg
open Go Go.RowKit

theorem Mul64_any (x y : Nat) (hx : x < 18446744073709551616) (hy : y < 18446744073709551616) (w : World) :
    Calls Tryd.prog 93 #[.int .u64 x, .int .u64 y] w fun e w' => e = .returned (.tuple #[.int .u64 ((x * y / 18446744073709551616 : Nat) : Int), .int .u64 ((x * y % 18446744073709551616 : Nat) : Int)]) ∧ w = w' :=
  (Any.bits_Mul64 Tryd.laysMul64 x y hx hy w).mono fun _ _ ⟨h, k⟩ => ⟨h, k.symm⟩
theorem Len64_any (x : Nat) (hx : x < 18446744073709551616) (w : World) :
    Calls Tryd.prog 117 #[.int .u64 (x : Int)] w fun e w' => e = .returned (.int .i64 (Lib.bitLen x)) ∧ w = w' :=
  (Any.bits_Len64 Tryd.laysLen64 (x : Int) w (by omega) (by omega)).mono fun _ _ ⟨h, k⟩ => ⟨by simpa using h, k.symm⟩
theorem lenP : Lib.bitLen 2305843009213693951 = 61 := by decide +kernel

theorem LeadP (m : Nat) (hm : m = P) (w : World) :
    Calls Tryd.prog 118 #[.int .u64 (m : Int)] w fun e w' => e = .returned (.int .i64 3) ∧ w = w' := by
  have h := Len64_any m (by rw [hm]; decide +kernel) w
  rw [hm, show Lib.bitLen P = 61 from lenP, ← hm] at h
  have H := Lib.hid h
  clear h hm
  go_enter Tryd.func118, Tryd.ntmps118
  go_wp2_with fail
  refine H.out.mono ?_
  rintro e w1 ⟨rfl, rfl⟩
  go_wp2
  go_ret
  exact ⟨rfl, rfl⟩

theorem orN (a b : Nat) (ha : a < 2305843009213693952) (hb : b < 8) : bits .or .u64 ((a : Int) * 8) (b : Int) = ((a * 8 + b : Nat) : Int) := by
  have h := bits_or_u64_nat (a * 8) b (by omega) (by omega)
  have e : a * 8 ||| b = a * 8 + b := by
    have := Nat.two_pow_add_eq_or_of_lt (i := 3) (b := b) (by omega) a
    rw [Nat.mul_comm] at this
    exact this.symm
  rw [e] at h
  rw [← h]
  congr 1

/-- what the search for a digit keeps -/
def Dg (U T q r : Nat) : Prop := r + q * 4294967295 = U ∧ r ≤ 4294967295 ∧ U * 4294967296 + T < (q + 1) * 18446744073709551608
/-- a digit that is right -/
def Dr (U T q : Nat) : Prop := q * 18446744073709551608 ≤ U * 4294967296 + T ∧ U * 4294967296 + T < (q + 1) * 18446744073709551608
theorem dg_start (U T : Nat) (_ : U ≤ 18446744073709551607) (hT : T ≤ 4294967295) : Dg U T (U / 4294967295) (U - U / 4294967295 * 4294967295) := by
  unfold Dg; omega
theorem dg_more {U T q r : Nat} (h : Dg U T q r) (hU : U ≤ 18446744073709551607) (hT : T ≤ 4294967295) (ht : 4294967296 ≤ q ∨ 4294967296 * r + T < q * 4294967288) : 1 ≤ q ∧ U * 4294967296 + T < q * 18446744073709551608 := by
  unfold Dg at h; omega
theorem dg_done {U T q r : Nat} (h : Dg U T q r) (_ : q < 4294967296) (h2 : q * 4294967288 ≤ 4294967296 * r + T) : Dr U T q := by
  unfold Dg at h; unfold Dr; omega
theorem dg_step {U T q r : Nat} (h : Dg U T q r) (hU : U ≤ 18446744073709551607) (hT : T ≤ 4294967295) (ht : 4294967296 ≤ q ∨ 4294967296 * r + T < q * 4294967288) (hr : r + 4294967295 < 4294967296) : Dg U T (q - 1) (r + 4294967295) := by
  have := dg_more h hU hT ht
  unfold Dg at h ⊢; omega
theorem dg_break {U T q r : Nat} (h : Dg U T q r) (hU : U ≤ 18446744073709551607) (hT : T ≤ 4294967295) (ht : 4294967296 ≤ q ∨ 4294967296 * r + T < q * 4294967288) (hr : ¬ r + 4294967295 < 4294967296) : Dr U T (q - 1) := by
  have := dg_more h hU hT ht
  unfold Dg at h; unfold Dr; omega

/-- the rest is right -/
theorem rest_of (hi lo U T T1 T0 q u q0 : Nat) (hU : hi * 8 + lo / 2305843009213693952 = U) (hT : lo * 8 % 18446744073709551616 = T) (hT1 : T / 4294967296 = T1) (hT0 : T % 4294967296 = T0)
    (hu : u + q * 18446744073709551608 = U * 4294967296 + T1) (d2 : Dr u T0 q0) :
    (u * 4294967296 + T0 - q0 * 18446744073709551608) / 8 = (hi * 18446744073709551616 + lo) % P := by
  have e : hi * 18446744073709551616 + lo = (q * 4294967296 + q0) * 2305843009213693951 + (u * 4294967296 + T0 - q0 * 18446744073709551608) / 8 := by
    unfold Dr at d2; omega
  have hlt : (u * 4294967296 + T0 - q0 * 18446744073709551608) / 8 < 2305843009213693951 := by
    unfold Dr at d2; omega
  have hP : P = 2305843009213693951 := by decide +kernel
  rw [e, hP, Nat.mul_comm (q * 4294967296 + q0), Nat.mul_add_mod, Nat.mod_eq_of_lt hlt]

theorem wu (U T q m u : Nat) (hm : m = P) (h : Dr U T q) (hu : u + q * 18446744073709551608 = U * 4294967296 + T) :
    IntKind.u64.wrap (IntKind.u64.wrap (IntKind.u64.wrap ((U : Int) * 4294967296) + (T : Int)) - IntKind.u64.wrap ((q : Int) * ((m : Int) * 8))) = (u : Int) := by
  have e : (q : Int) * ((m : Int) * 8) = (q : Int) * 18446744073709551608 := by
    rw [hm, show (P : Int) * 8 = 18446744073709551608 by decide +kernel]
  have hb : u < 18446744073709551608 := by unfold Dr at h; omega
  rw [e]
  simp only [IntKind.wrap_u64]
  rw [Int.emod_add_emod, ← Int.sub_emod]
  have e2 : (U : Int) * 4294967296 + (T : Int) - (q : Int) * 18446744073709551608 = u := by omega
  rw [e2]
  omega
theorem wz {m hi lo U T T1 T0 q u q0 : Nat} (hm : m = P) (hU : hi * 8 + lo / 2305843009213693952 = U) (hT : lo * 8 % 18446744073709551616 = T) (hT1 : T / 4294967296 = T1) (hT0 : T % 4294967296 = T0)
    (hu : u + q * 18446744073709551608 = U * 4294967296 + T1) (d2 : Dr u T0 q0) :
    IntKind.u64.wrap (IntKind.u64.wrap (IntKind.u64.wrap ((u : Int) * 4294967296) + (T0 : Int)) - IntKind.u64.wrap ((q0 : Int) * ((m : Int) * 8))) / 8 = (((hi * 18446744073709551616 + lo) % P : Nat) : Int) := by
  have hz : (u * 4294967296 + T0 - q0 * 18446744073709551608) + q0 * 18446744073709551608 = u * 4294967296 + T0 := by
    unfold Dr at d2; omega
  rw [wu u T0 q0 m _ hm d2 hz, ← rest_of hi lo U T T1 T0 q u q0 hU hT hT1 hT0 hu d2]
  omega

set_option maxRecDepth 1000000 in
set_option maxHeartbeats 1000000 in
theorem Div64_hi (m hi lo : Nat) (hm : m = P) (h1 : 1 ≤ hi) (hh : hi < m) (hl : lo < 18446744073709551616) (w : World) :
    Calls Tryd.prog 94 #[.int .u64 hi, .int .u64 lo, .int .u64 (m : Int)] w fun e w' => (∃ q : Int, e = .returned (.tuple #[.int .u64 q, .int .u64 (((hi * 18446744073709551616 + lo) % P : Nat) : Int)])) ∧ w = w' := by
  have H := Lib.hid (LeadP m hm w)
  have hma : m ≤ 2305843009213693951 := by rw [hm]; decide +kernel
  have hmb : 2305843009213693951 ≤ m := by rw [hm]; decide +kernel
  have HM := Lib.hid hm
  clear hm
  have hor := orN hi (lo / 2305843009213693952) (by omega) (by omega)
  rw [show ((lo / 2305843009213693952 : Nat) : Int) = (lo : Int) / 2305843009213693952 from rfl] at hor
  obtain ⟨U, hU⟩ : ∃ U : Nat, hi * 8 + lo / 2305843009213693952 = U := ⟨_, rfl⟩
  obtain ⟨T, hT⟩ : ∃ T : Nat, lo * 8 % 18446744073709551616 = T := ⟨_, rfl⟩
  obtain ⟨T1, hT1⟩ : ∃ T1 : Nat, T / 4294967296 = T1 := ⟨_, rfl⟩
  obtain ⟨T0, hT0⟩ : ∃ T0 : Nat, T % 4294967296 = T0 := ⟨_, rfl⟩
  have wT : IntKind.u64.wrap ((lo : Int) * 8) = (T : Int) := by rw [IntKind.wrap_u64]; omega
  have wT1 : (T : Int) / 4294967296 = (T1 : Int) := by omega
  have wT0 : bits .and .u64 (T : Int) 4294967295 = (T0 : Int) := by rw [Mul64.maskN T (by omega), hT0]
  have y1 : (m : Int) * 8 / 4294967296 = 4294967295 := by omega
  have y0 : bits .and .u64 ((m : Int) * 8) 4294967295 = 4294967288 := by
    have := Mul64.maskN (m * 8) (by omega)
    rw [show ((m * 8 : Nat) : Int) = (m : Int) * 8 by omega] at this
    rw [this]; omega
  rw [hU] at hor
  have bU : U ≤ 18446744073709551607 := by omega
  have bT1 : T1 ≤ 4294967295 := by omega
  have bT0 : T0 ≤ 4294967295 := by omega
  have HU := Lib.hid hU
  have HT := Lib.hid hT
  have HT1 := Lib.hid hT1
  have HT0 := Lib.hid hT0
  clear hU hT hT1 hT0
  go_enter Tryd.func94, Tryd.ntmps94
  go_wp2_with fail
  refine H.out.mono ?_
  rintro e w1 ⟨rfl, rfl⟩
  go_wp2_with fail
  go_loop [15, 16] (fun a b => ∃ q r : Nat, a = .int .u64 q ∧ b = .int .u64 r ∧ Dg U T1 q r) (fun a _ => (intOf a).toNat)
  case atStart => exact ⟨U / 4294967295, U - U / 4294967295 * 4294967295, by first | rfl | (congr 1; omega), by first | rfl | (congr 1; omega), dg_start U T1 bU bT1⟩
  case round =>
    obtain ⟨q, r, rfl, rfl, hd⟩ := hrel
    have hq : q ≤ 4294967296 := by unfold Dg at hd; omega
    have hr : r ≤ 4294967295 := by unfold Dg at hd; omega
    have HB := Lib.hid (And.intro bU (And.intro hma (And.intro hmb (And.intro hh hl))))
    have HD := Lib.hid hd
    clear bU hma hmb hh hl hd
    have HQ := Lib.hid hq
    have BT := Lib.hid (And.intro bT1 bT0)
    have hq2 : (q : Int) ≤ 4294967296 := by omega
    have hr2 : (r : Int) ≤ 4294967295 := by omega
    have b4 : 4294967296 * (r : Int) + (T1 : Int) ≤ 18446744073709551615 := by omega
    by_cases ct : 4294967296 ≤ q ∨ 4294967296 * r + T1 < q * 4294967288
    · have hq1 : 1 ≤ q := by omega
      have CT := Lib.hid ct
      by_cases c2 : r + 4294967295 < 4294967296
      · have E1 := Lib.hid (show Value.int .u64 ((q : Int) - 1) = Value.int .u64 ((q - 1 : Nat) : Int) by rw [show ((q - 1 : Nat) : Int) = (q : Int) - 1 by omega])
        have M1 := Lib.hid (show q - 1 < q by omega)
        have k2 : decide (4294967296 ≤ (r : Int) + 4294967295) = false := by simp; omega
        have C2 := Lib.hid c2
        by_cases c1 : 4294967296 ≤ q
        · have k1 : decide (4294967296 ≤ (q : Int)) = true := by simp; omega
          have hq3 : (4294967296 : Int) ≤ q := by omega
          clear c1 c2 ct hq hr bT1 bT0 hq1
          go_wp2_with fail
          exact ⟨⟨q - 1, r + 4294967295, E1.out, rfl, dg_step HD.out HB.out.1 BT.out.1 CT.out C2.out⟩, by simp [intOf]; have := M1.out; omega⟩
        · have k1 : decide (4294967296 ≤ (q : Int)) = false := by simp; omega
          have k3 : decide (4294967296 * (r : Int) + (T1 : Int) < (q : Int) * 4294967288) = true := by simp; omega
          have b3 : (q : Int) * 4294967288 ≤ 18446744039349813248 := by omega
          have hq3 : (1 : Int) ≤ q := by omega
          clear c1 c2 ct hq hr bT1 bT0 hq1
          go_wp2_with fail
          exact ⟨⟨q - 1, r + 4294967295, E1.out, rfl, dg_step HD.out HB.out.1 BT.out.1 CT.out C2.out⟩, by simp [intOf]; have := M1.out; omega⟩
      · have DR' := dg_break HD.out HB.out.1 BT.out.1 CT.out c2
        obtain ⟨q', rfl⟩ : ∃ q', q = q' + 1 := ⟨q - 1, by omega⟩
        rw [Nat.add_sub_cancel] at DR'
        have DR := Lib.hid DR'
        clear DR'
        have k2 : decide (4294967296 ≤ (r : Int) + 4294967295) = true := by simp; omega
        have C2 := Lib.hid c2
        by_cases c1 : 4294967296 ≤ q' + 1
        · have k1 : decide (4294967296 ≤ (q' : Int) + 1) = true := by simp; omega
          have hq3 : (4294967296 : Int) ≤ q' + 1 := by omega
          clear c1 c2 ct hq1
          obtain ⟨u, hv⟩ : ∃ u : Nat, u + q' * 18446744073709551608 = U * 4294967296 + T1 := ⟨U * 4294967296 + T1 - q' * 18446744073709551608, by have := DR.out; unfold Dr at this; omega⟩
          have hu := wu U T1 q' m u HM.out DR.out hv
          have bu : u ≤ 18446744073709551607 := by have := DR.out; unfold Dr at this; omega
          have bu2 : (u : Int) ≤ 18446744073709551607 := by omega
          have HV := Lib.hid hv
          have BU := Lib.hid bu
          clear hv bu bT1 bT0 hq hr
          go_wp2_with fail
          clear hu
          go_loop [18, 16] (fun a b => ∃ q r : Nat, a = .int .u64 q ∧ b = .int .u64 r ∧ Dg u T0 q r) (fun a _ => (intOf a).toNat)
          case atStart => exact ⟨u / 4294967295, u - u / 4294967295 * 4294967295, rfl, congrArg (Value.int IntKind.u64) (by have := BU.out; omega), dg_start u T0 BU.out BT.out.2⟩
          case round =>
            obtain ⟨q0, r0, rfl, rfl, hd⟩ := hrel
            have hq : q0 ≤ 4294967296 := by have := BU.out; unfold Dg at hd; omega
            have hr : r0 ≤ 4294967295 := by unfold Dg at hd; omega
            have HD2 := Lib.hid hd
            have bT := BT.out.2
            have bi1 : (q0 : Int) ≤ 4294967296 := by omega
            have bi2 : (r0 : Int) ≤ 4294967295 := by omega
            have bi3 : 4294967296 * (r0 : Int) + (T0 : Int) ≤ 18446744073709551615 := by omega
            clear hd
            by_cases ct : 4294967296 ≤ q0 ∨ 4294967296 * r0 + T0 < q0 * 4294967288
            · have hq1 : 1 ≤ q0 := by omega
              have CT := Lib.hid ct
              by_cases c2 : r0 + 4294967295 < 4294967296
              · have E1 := Lib.hid (show Value.int .u64 ((q0 : Int) - 1) = Value.int .u64 ((q0 - 1 : Nat) : Int) by rw [show ((q0 - 1 : Nat) : Int) = (q0 : Int) - 1 by omega])
                have M1 := Lib.hid (show q0 - 1 < q0 by omega)
                have k2 : decide (4294967296 ≤ (r0 : Int) + 4294967295) = false := by simp; omega
                have C2 := Lib.hid c2
                by_cases c1 : 4294967296 ≤ q0
                · have k1 : decide (4294967296 ≤ (q0 : Int)) = true := by simp; omega
                  have bi4 : (4294967296 : Int) ≤ q0 := by omega
                  clear c1 c2 ct hq hr bT hq1
                  go_wp2_with fail
                  exact ⟨⟨q0 - 1, r0 + 4294967295, E1.out, rfl, dg_step HD2.out BU.out BT.out.2 CT.out C2.out⟩, by simp [intOf]; have := M1.out; omega⟩
                · have k1 : decide (4294967296 ≤ (q0 : Int)) = false := by simp; omega
                  have k3 : decide (4294967296 * (r0 : Int) + (T0 : Int) < (q0 : Int) * 4294967288) = true := by simp; omega
                  have bi4 : (q0 : Int) * 4294967288 ≤ 18446744039349813248 := by omega
                  have bi5 : (1 : Int) ≤ q0 := by omega
                  clear c1 c2 ct hq hr bT hq1
                  go_wp2_with fail
                  exact ⟨⟨q0 - 1, r0 + 4294967295, E1.out, rfl, dg_step HD2.out BU.out BT.out.2 CT.out C2.out⟩, by simp [intOf]; have := M1.out; omega⟩
              · have D2 := Lib.hid (dg_break HD2.out BU.out BT.out.2 CT.out c2)
                have k2 : decide (4294967296 ≤ (r0 : Int) + 4294967295) = true := by simp; omega
                have WZ : IntKind.u64.wrap (IntKind.u64.wrap (IntKind.u64.wrap ((u : Int) * 4294967296) + (T0 : Int)) - IntKind.u64.wrap (((q0 : Int) - 1) * ((m : Int) * 8))) / 8 = (((hi * 18446744073709551616 + lo) % P : Nat) : Int) := by
                  have h := wz (U := U) (T := T) (T1 := T1) (q := q') HM.out HU.out HT.out HT1.out HT0.out HV.out D2.out
                  rwa [show ((q0 - 1 : Nat) : Int) = (q0 : Int) - 1 by omega] at h
                have C2 := Lib.hid c2
                by_cases c1 : 4294967296 ≤ q0
                · have k1 : decide (4294967296 ≤ (q0 : Int)) = true := by simp; omega
                  have bi4 : (4294967296 : Int) ≤ q0 := by omega
                  clear c1 c2 ct hq hr bT hq1
                  go_wp2_with fail
                  go_ret2
                  exact ⟨⟨_, rfl⟩, rfl⟩
                · have k1 : decide (4294967296 ≤ (q0 : Int)) = false := by simp; omega
                  have k3 : decide (4294967296 * (r0 : Int) + (T0 : Int) < (q0 : Int) * 4294967288) = true := by simp; omega
                  have bi4 : (q0 : Int) * 4294967288 ≤ 18446744039349813248 := by omega
                  have bi5 : (1 : Int) ≤ q0 := by omega
                  clear c1 c2 ct hq hr bT hq1
                  go_wp2_with fail
                  go_ret2
                  exact ⟨⟨_, rfl⟩, rfl⟩
            · have D2 := Lib.hid (dg_done HD2.out (by omega) (by omega))
              have WZ := wz (U := U) (T := T) (T1 := T1) (q := q') HM.out HU.out HT.out HT1.out HT0.out HV.out D2.out
              have k1 : decide (4294967296 ≤ (q0 : Int)) = false := by simp; omega
              have k3 : decide (4294967296 * (r0 : Int) + (T0 : Int) < (q0 : Int) * 4294967288) = false := by simp; omega
              have bi4 : (q0 : Int) * 4294967288 ≤ 18446744039349813248 := by omega
              have bi5 : (q0 : Int) < 4294967296 := by omega
              clear ct hq hr bT
              go_wp2_with fail
              go_ret2
              exact ⟨⟨_, rfl⟩, rfl⟩
        · have k1 : decide (4294967296 ≤ (q' : Int) + 1) = false := by simp; omega
          have k3 : decide (4294967296 * (r : Int) + (T1 : Int) < ((q' : Int) + 1) * 4294967288) = true := by simp; omega
          have b3 : ((q' : Int) + 1) * 4294967288 ≤ 18446744039349813248 := by omega
          clear c1 c2 ct hq1
          obtain ⟨u, hv⟩ : ∃ u : Nat, u + q' * 18446744073709551608 = U * 4294967296 + T1 := ⟨U * 4294967296 + T1 - q' * 18446744073709551608, by have := DR.out; unfold Dr at this; omega⟩
          have hu := wu U T1 q' m u HM.out DR.out hv
          have bu : u ≤ 18446744073709551607 := by have := DR.out; unfold Dr at this; omega
          have bu2 : (u : Int) ≤ 18446744073709551607 := by omega
          have HV := Lib.hid hv
          have BU := Lib.hid bu
          clear hv bu bT1 bT0 hq hr
          go_wp2_with fail
          clear hu
          go_loop [18, 16] (fun a b => ∃ q r : Nat, a = .int .u64 q ∧ b = .int .u64 r ∧ Dg u T0 q r) (fun a _ => (intOf a).toNat)
          case atStart => exact ⟨u / 4294967295, u - u / 4294967295 * 4294967295, rfl, congrArg (Value.int IntKind.u64) (by have := BU.out; omega), dg_start u T0 BU.out BT.out.2⟩
          case round =>
            obtain ⟨q0, r0, rfl, rfl, hd⟩ := hrel
            have hq : q0 ≤ 4294967296 := by have := BU.out; unfold Dg at hd; omega
            have hr : r0 ≤ 4294967295 := by unfold Dg at hd; omega
            have HD2 := Lib.hid hd
            have bT := BT.out.2
            have bi1 : (q0 : Int) ≤ 4294967296 := by omega
            have bi2 : (r0 : Int) ≤ 4294967295 := by omega
            have bi3 : 4294967296 * (r0 : Int) + (T0 : Int) ≤ 18446744073709551615 := by omega
            clear hd
            by_cases ct : 4294967296 ≤ q0 ∨ 4294967296 * r0 + T0 < q0 * 4294967288
            · have hq1 : 1 ≤ q0 := by omega
              have CT := Lib.hid ct
              by_cases c2 : r0 + 4294967295 < 4294967296
              · have E1 := Lib.hid (show Value.int .u64 ((q0 : Int) - 1) = Value.int .u64 ((q0 - 1 : Nat) : Int) by rw [show ((q0 - 1 : Nat) : Int) = (q0 : Int) - 1 by omega])
                have M1 := Lib.hid (show q0 - 1 < q0 by omega)
                have k2 : decide (4294967296 ≤ (r0 : Int) + 4294967295) = false := by simp; omega
                have C2 := Lib.hid c2
                by_cases c1 : 4294967296 ≤ q0
                · have k1 : decide (4294967296 ≤ (q0 : Int)) = true := by simp; omega
                  have bi4 : (4294967296 : Int) ≤ q0 := by omega
                  clear c1 c2 ct hq hr bT hq1
                  go_wp2_with fail
                  exact ⟨⟨q0 - 1, r0 + 4294967295, E1.out, rfl, dg_step HD2.out BU.out BT.out.2 CT.out C2.out⟩, by simp [intOf]; have := M1.out; omega⟩
                · have k1 : decide (4294967296 ≤ (q0 : Int)) = false := by simp; omega
                  have k3 : decide (4294967296 * (r0 : Int) + (T0 : Int) < (q0 : Int) * 4294967288) = true := by simp; omega
                  have bi4 : (q0 : Int) * 4294967288 ≤ 18446744039349813248 := by omega
                  have bi5 : (1 : Int) ≤ q0 := by omega
                  clear c1 c2 ct hq hr bT hq1
                  go_wp2_with fail
                  exact ⟨⟨q0 - 1, r0 + 4294967295, E1.out, rfl, dg_step HD2.out BU.out BT.out.2 CT.out C2.out⟩, by simp [intOf]; have := M1.out; omega⟩
              · have D2 := Lib.hid (dg_break HD2.out BU.out BT.out.2 CT.out c2)
                have k2 : decide (4294967296 ≤ (r0 : Int) + 4294967295) = true := by simp; omega
                have WZ : IntKind.u64.wrap (IntKind.u64.wrap (IntKind.u64.wrap ((u : Int) * 4294967296) + (T0 : Int)) - IntKind.u64.wrap (((q0 : Int) - 1) * ((m : Int) * 8))) / 8 = (((hi * 18446744073709551616 + lo) % P : Nat) : Int) := by
                  have h := wz (U := U) (T := T) (T1 := T1) (q := q') HM.out HU.out HT.out HT1.out HT0.out HV.out D2.out
                  rwa [show ((q0 - 1 : Nat) : Int) = (q0 : Int) - 1 by omega] at h
                have C2 := Lib.hid c2
                by_cases c1 : 4294967296 ≤ q0
                · have k1 : decide (4294967296 ≤ (q0 : Int)) = true := by simp; omega
                  have bi4 : (4294967296 : Int) ≤ q0 := by omega
                  clear c1 c2 ct hq hr bT hq1
                  go_wp2_with fail
                  go_ret2
                  exact ⟨⟨_, rfl⟩, rfl⟩
                · have k1 : decide (4294967296 ≤ (q0 : Int)) = false := by simp; omega
                  have k3 : decide (4294967296 * (r0 : Int) + (T0 : Int) < (q0 : Int) * 4294967288) = true := by simp; omega
                  have bi4 : (q0 : Int) * 4294967288 ≤ 18446744039349813248 := by omega
                  have bi5 : (1 : Int) ≤ q0 := by omega
                  clear c1 c2 ct hq hr bT hq1
                  go_wp2_with fail
                  go_ret2
                  exact ⟨⟨_, rfl⟩, rfl⟩
            · have D2 := Lib.hid (dg_done HD2.out (by omega) (by omega))
              have WZ := wz (U := U) (T := T) (T1 := T1) (q := q') HM.out HU.out HT.out HT1.out HT0.out HV.out D2.out
              have k1 : decide (4294967296 ≤ (q0 : Int)) = false := by simp; omega
              have k3 : decide (4294967296 * (r0 : Int) + (T0 : Int) < (q0 : Int) * 4294967288) = false := by simp; omega
              have bi4 : (q0 : Int) * 4294967288 ≤ 18446744039349813248 := by omega
              have bi5 : (q0 : Int) < 4294967296 := by omega
              clear ct hq hr bT
              go_wp2_with fail
              go_ret2
              exact ⟨⟨_, rfl⟩, rfl⟩
    · have k1 : decide (4294967296 ≤ (q : Int)) = false := by simp; omega
      have k3 : decide (4294967296 * (r : Int) + (T1 : Int) < (q : Int) * 4294967288) = false := by simp; omega
      have b3 : (q : Int) * 4294967288 ≤ 18446744039349813248 := by omega
      have hq3 : (q : Int) < 4294967296 := by omega
      have DR := Lib.hid (dg_done HD.out (by omega) (by omega))
      clear ct
      obtain ⟨u, hv⟩ : ∃ u : Nat, u + q * 18446744073709551608 = U * 4294967296 + T1 := ⟨U * 4294967296 + T1 - q * 18446744073709551608, by have := DR.out; unfold Dr at this; omega⟩
      have hu := wu U T1 q m u HM.out DR.out hv
      have bu : u ≤ 18446744073709551607 := by have := DR.out; unfold Dr at this; omega
      have bu2 : (u : Int) ≤ 18446744073709551607 := by omega
      have HV := Lib.hid hv
      have BU := Lib.hid bu
      clear hv bu bT1 bT0 hq hr
      go_wp2_with fail
      clear hu
      go_loop [18, 16] (fun a b => ∃ q r : Nat, a = .int .u64 q ∧ b = .int .u64 r ∧ Dg u T0 q r) (fun a _ => (intOf a).toNat)
      case atStart => exact ⟨u / 4294967295, u - u / 4294967295 * 4294967295, rfl, congrArg (Value.int IntKind.u64) (by have := BU.out; omega), dg_start u T0 BU.out BT.out.2⟩
      case round =>
        obtain ⟨q0, r0, rfl, rfl, hd⟩ := hrel
        have hq : q0 ≤ 4294967296 := by have := BU.out; unfold Dg at hd; omega
        have hr : r0 ≤ 4294967295 := by unfold Dg at hd; omega
        have HD2 := Lib.hid hd
        have bT := BT.out.2
        have bi1 : (q0 : Int) ≤ 4294967296 := by omega
        have bi2 : (r0 : Int) ≤ 4294967295 := by omega
        have bi3 : 4294967296 * (r0 : Int) + (T0 : Int) ≤ 18446744073709551615 := by omega
        clear hd
        by_cases ct : 4294967296 ≤ q0 ∨ 4294967296 * r0 + T0 < q0 * 4294967288
        · have hq1 : 1 ≤ q0 := by omega
          have CT := Lib.hid ct
          by_cases c2 : r0 + 4294967295 < 4294967296
          · have E1 := Lib.hid (show Value.int .u64 ((q0 : Int) - 1) = Value.int .u64 ((q0 - 1 : Nat) : Int) by rw [show ((q0 - 1 : Nat) : Int) = (q0 : Int) - 1 by omega])
            have M1 := Lib.hid (show q0 - 1 < q0 by omega)
            have k2 : decide (4294967296 ≤ (r0 : Int) + 4294967295) = false := by simp; omega
            have C2 := Lib.hid c2
            by_cases c1 : 4294967296 ≤ q0
            · have k1 : decide (4294967296 ≤ (q0 : Int)) = true := by simp; omega
              have bi4 : (4294967296 : Int) ≤ q0 := by omega
              clear c1 c2 ct hq hr bT hq1
              go_wp2_with fail
              exact ⟨⟨q0 - 1, r0 + 4294967295, E1.out, rfl, dg_step HD2.out BU.out BT.out.2 CT.out C2.out⟩, by simp [intOf]; have := M1.out; omega⟩
            · have k1 : decide (4294967296 ≤ (q0 : Int)) = false := by simp; omega
              have k3 : decide (4294967296 * (r0 : Int) + (T0 : Int) < (q0 : Int) * 4294967288) = true := by simp; omega
              have bi4 : (q0 : Int) * 4294967288 ≤ 18446744039349813248 := by omega
              have bi5 : (1 : Int) ≤ q0 := by omega
              clear c1 c2 ct hq hr bT hq1
              go_wp2_with fail
              exact ⟨⟨q0 - 1, r0 + 4294967295, E1.out, rfl, dg_step HD2.out BU.out BT.out.2 CT.out C2.out⟩, by simp [intOf]; have := M1.out; omega⟩
          · have D2 := Lib.hid (dg_break HD2.out BU.out BT.out.2 CT.out c2)
            have k2 : decide (4294967296 ≤ (r0 : Int) + 4294967295) = true := by simp; omega
            have WZ : IntKind.u64.wrap (IntKind.u64.wrap (IntKind.u64.wrap ((u : Int) * 4294967296) + (T0 : Int)) - IntKind.u64.wrap (((q0 : Int) - 1) * ((m : Int) * 8))) / 8 = (((hi * 18446744073709551616 + lo) % P : Nat) : Int) := by
              have h := wz (U := U) (T := T) (T1 := T1) (q := q) HM.out HU.out HT.out HT1.out HT0.out HV.out D2.out
              rwa [show ((q0 - 1 : Nat) : Int) = (q0 : Int) - 1 by omega] at h
            have C2 := Lib.hid c2
            by_cases c1 : 4294967296 ≤ q0
            · have k1 : decide (4294967296 ≤ (q0 : Int)) = true := by simp; omega
              have bi4 : (4294967296 : Int) ≤ q0 := by omega
              clear c1 c2 ct hq hr bT hq1
              go_wp2_with fail
              go_ret2
              exact ⟨⟨_, rfl⟩, rfl⟩
            · have k1 : decide (4294967296 ≤ (q0 : Int)) = false := by simp; omega
              have k3 : decide (4294967296 * (r0 : Int) + (T0 : Int) < (q0 : Int) * 4294967288) = true := by simp; omega
              have bi4 : (q0 : Int) * 4294967288 ≤ 18446744039349813248 := by omega
              have bi5 : (1 : Int) ≤ q0 := by omega
              clear c1 c2 ct hq hr bT hq1
              go_wp2_with fail
              go_ret2
              exact ⟨⟨_, rfl⟩, rfl⟩
        · have D2 := Lib.hid (dg_done HD2.out (by omega) (by omega))
          have WZ := wz (U := U) (T := T) (T1 := T1) (q := q) HM.out HU.out HT.out HT1.out HT0.out HV.out D2.out
          have k1 : decide (4294967296 ≤ (q0 : Int)) = false := by simp; omega
          have k3 : decide (4294967296 * (r0 : Int) + (T0 : Int) < (q0 : Int) * 4294967288) = false := by simp; omega
          have bi4 : (q0 : Int) * 4294967288 ≤ 18446744039349813248 := by omega
          have bi5 : (q0 : Int) < 4294967296 := by omega
          clear ct hq hr bT
          go_wp2_with fail
          go_ret2
          exact ⟨⟨_, rfl⟩, rfl⟩
end Go.Proofs.YtionmnjcfnmpeaaDoor.Sg
