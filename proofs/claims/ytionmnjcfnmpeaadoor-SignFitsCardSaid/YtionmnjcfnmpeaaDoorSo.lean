/-
  Div64 by the order (the prime less one). (made by mk_so.py)
-/
import Derived.Test.YtionmnjcfnmpeaaDoorSd
import Derived.Test.YtionmnjcfnmpeaaDoorSe
import Derived.Shelf.Bits.Mul64
import Derived.Shelf.Strconv.Itoa0
import Derived.Shelf.Lay
import Derived.Ground.NamesProg
import Derived.WalkKit
import Derived.WalkSpells
import Derived.WalkLawsBesides
import Derived.LoopTactic
import Derived.Outline
import Derived.Deep.QuietTactic
import Derived.BigQuiet
import Derived.BigRegion
import Derived.RegionTactic
import Derived.Lib.Hide
namespace Go.Proofs.YtionmnjcfnmpeaaDoor.So
open Go Go.RowKit Go.Proofs.YtionmnjcfnmpeaaDoor.Sg
open Go.Proofs.YtionmnjcfnmpeaaDoor.Sg (Mul64_any Len64_any orN)
/-- the order -/
def O : Nat := 2305843009213693950
theorem lenO : Lib.bitLen 2305843009213693950 = 61 := by decide +kernel

theorem LeadO (m : Nat) (hm : m = O) (w : World) :
    Calls Tryd.prog 118 #[.int .u64 (m : Int)] w fun e w' => e = .returned (.int .i64 3) ∧ w = w' := by
  have h := Len64_any m (by rw [hm]; decide +kernel) w
  rw [hm, show Lib.bitLen O = 61 from lenO, ← hm] at h
  have H := Lib.hid h
  clear h hm
  go_enter Tryd.func118, Tryd.ntmps118
  go_wp2_with fail
  refine H.out.mono ?_
  rintro e w1 ⟨rfl, rfl⟩
  go_wp2
  go_ret
  exact ⟨rfl, rfl⟩

/-- what the search for a digit keeps -/
def DgO (U T q r : Nat) : Prop := r + q * 4294967295 = U ∧ r ≤ 4294967295 ∧ U * 4294967296 + T < (q + 1) * 18446744073709551600
/-- a digit that is right -/
def DrO (U T q : Nat) : Prop := q * 18446744073709551600 ≤ U * 4294967296 + T ∧ U * 4294967296 + T < (q + 1) * 18446744073709551600
theorem dg_startO (U T : Nat) (_ : U ≤ 18446744073709551599) (hT : T ≤ 4294967295) : DgO U T (U / 4294967295) (U - U / 4294967295 * 4294967295) := by
  unfold DgO; omega
theorem dg_moreO {U T q r : Nat} (h : DgO U T q r) (hU : U ≤ 18446744073709551599) (hT : T ≤ 4294967295) (ht : 4294967296 ≤ q ∨ 4294967296 * r + T < q * 4294967280) : 1 ≤ q ∧ U * 4294967296 + T < q * 18446744073709551600 := by
  unfold DgO at h; omega
theorem dg_doneO {U T q r : Nat} (h : DgO U T q r) (_ : q < 4294967296) (h2 : q * 4294967280 ≤ 4294967296 * r + T) : DrO U T q := by
  unfold DgO at h; unfold DrO; omega
theorem dg_stepO {U T q r : Nat} (h : DgO U T q r) (hU : U ≤ 18446744073709551599) (hT : T ≤ 4294967295) (ht : 4294967296 ≤ q ∨ 4294967296 * r + T < q * 4294967280) (hr : r + 4294967295 < 4294967296) : DgO U T (q - 1) (r + 4294967295) := by
  have := dg_moreO h hU hT ht
  unfold DgO at h ⊢; omega
theorem dg_breakO {U T q r : Nat} (h : DgO U T q r) (hU : U ≤ 18446744073709551599) (hT : T ≤ 4294967295) (ht : 4294967296 ≤ q ∨ 4294967296 * r + T < q * 4294967280) (hr : ¬ r + 4294967295 < 4294967296) : DrO U T (q - 1) := by
  have := dg_moreO h hU hT ht
  unfold DgO at h; unfold DrO; omega

/-- the rest is right -/
theorem rest_ofO (hi lo U T T1 T0 q u q0 : Nat) (hU : hi * 8 + lo / 2305843009213693952 = U) (hT : lo * 8 % 18446744073709551616 = T) (hT1 : T / 4294967296 = T1) (hT0 : T % 4294967296 = T0)
    (hu : u + q * 18446744073709551600 = U * 4294967296 + T1) (d2 : DrO u T0 q0) :
    (u * 4294967296 + T0 - q0 * 18446744073709551600) / 8 = (hi * 18446744073709551616 + lo) % O := by
  have e : hi * 18446744073709551616 + lo = (q * 4294967296 + q0) * 2305843009213693950 + (u * 4294967296 + T0 - q0 * 18446744073709551600) / 8 := by
    unfold DrO at d2; omega
  have hlt : (u * 4294967296 + T0 - q0 * 18446744073709551600) / 8 < 2305843009213693950 := by
    unfold DrO at d2; omega
  have hP : O = 2305843009213693950 := by decide +kernel
  rw [e, hP, Nat.mul_comm (q * 4294967296 + q0), Nat.mul_add_mod, Nat.mod_eq_of_lt hlt]

theorem wuO (U T q m u : Nat) (hm : m = O) (h : DrO U T q) (hu : u + q * 18446744073709551600 = U * 4294967296 + T) :
    IntKind.u64.wrap (IntKind.u64.wrap (IntKind.u64.wrap ((U : Int) * 4294967296) + (T : Int)) - IntKind.u64.wrap ((q : Int) * ((m : Int) * 8))) = (u : Int) := by
  have e : (q : Int) * ((m : Int) * 8) = (q : Int) * 18446744073709551600 := by
    rw [hm, show (O : Int) * 8 = 18446744073709551600 by decide +kernel]
  have hb : u < 18446744073709551600 := by unfold DrO at h; omega
  rw [e]
  simp only [IntKind.wrap_u64]
  rw [Int.emod_add_emod, ← Int.sub_emod]
  have e2 : (U : Int) * 4294967296 + (T : Int) - (q : Int) * 18446744073709551600 = u := by omega
  rw [e2]
  omega
theorem wzO {m hi lo U T T1 T0 q u q0 : Nat} (hm : m = O) (hU : hi * 8 + lo / 2305843009213693952 = U) (hT : lo * 8 % 18446744073709551616 = T) (hT1 : T / 4294967296 = T1) (hT0 : T % 4294967296 = T0)
    (hu : u + q * 18446744073709551600 = U * 4294967296 + T1) (d2 : DrO u T0 q0) :
    IntKind.u64.wrap (IntKind.u64.wrap (IntKind.u64.wrap ((u : Int) * 4294967296) + (T0 : Int)) - IntKind.u64.wrap ((q0 : Int) * ((m : Int) * 8))) / 8 = (((hi * 18446744073709551616 + lo) % O : Nat) : Int) := by
  have hz : (u * 4294967296 + T0 - q0 * 18446744073709551600) + q0 * 18446744073709551600 = u * 4294967296 + T0 := by
    unfold DrO at d2; omega
  rw [wuO u T0 q0 m _ hm d2 hz, ← rest_ofO hi lo U T T1 T0 q u q0 hU hT hT1 hT0 hu d2]
  omega

set_option maxRecDepth 1000000 in
set_option maxHeartbeats 1000000 in
theorem Div64_hiO (m hi lo : Nat) (hm : m = O) (h1 : 1 ≤ hi) (hh : hi < m) (hl : lo < 18446744073709551616) (w : World) :
    Calls Tryd.prog 94 #[.int .u64 hi, .int .u64 lo, .int .u64 (m : Int)] w fun e w' => (∃ q : Int, e = .returned (.tuple #[.int .u64 q, .int .u64 (((hi * 18446744073709551616 + lo) % O : Nat) : Int)])) ∧ w = w' := by
  have H := Lib.hid (LeadO m hm w)
  have hma : m ≤ 2305843009213693950 := by rw [hm]; decide +kernel
  have hmb : 2305843009213693950 ≤ m := by rw [hm]; decide +kernel
  have HM := Lib.hid hm
  clear hm
  have hor := orN hi (lo / 2305843009213693952) (by omega) (by omega)
  rw [show ((lo / 2305843009213693952 : Nat) : Int) = (lo : Int) / 2305843009213693952 from rfl] at hor
  obtain ⟨U, hU⟩ : ∃ U : Nat, hi * 8 + lo / 2305843009213693952 = U := ⟨_, rfl⟩
  obtain ⟨T, hT⟩ : ∃ T : Nat, lo * 8 % 18446744073709551616 = T := ⟨_, rfl⟩
  obtain ⟨T1, hT1⟩ : ∃ T1 : Nat, T / 4294967296 = T1 := ⟨_, rfl⟩
  obtain ⟨T0, hT0⟩ : ∃ T0 : Nat, T % 4294967296 = T0 := ⟨_, rfl⟩
  have wT : IntKind.u64.wrap ((lo : Int) * 8) = (T : Int) := by rw [IntKind.wrap_u64]; omega
  have wT1 : (T : Int) / 4294967296 = (T1 : Int) := by omega
  have wT0 : bits .and .u64 (T : Int) 4294967295 = (T0 : Int) := by rw [Mul64.maskN T (by omega), hT0]
  have y1 : (m : Int) * 8 / 4294967296 = 4294967295 := by omega
  have y0 : bits .and .u64 ((m : Int) * 8) 4294967295 = 4294967280 := by
    have := Mul64.maskN (m * 8) (by omega)
    rw [show ((m * 8 : Nat) : Int) = (m : Int) * 8 by omega] at this
    rw [this]; omega
  rw [hU] at hor
  have bU : U ≤ 18446744073709551599 := by omega
  have bT1 : T1 ≤ 4294967295 := by omega
  have bT0 : T0 ≤ 4294967295 := by omega
  have HU := Lib.hid hU
  have HT := Lib.hid hT
  have HT1 := Lib.hid hT1
  have HT0 := Lib.hid hT0
  clear hU hT hT1 hT0
  go_enter Tryd.func94, Tryd.ntmps94
  go_wp2_with fail
  refine H.out.mono ?_
  rintro e w1 ⟨rfl, rfl⟩
  go_wp2_with fail
  go_loop [15, 16] (fun a b => ∃ q r : Nat, a = .int .u64 q ∧ b = .int .u64 r ∧ DgO U T1 q r) (fun a _ => (intOf a).toNat)
  case atStart => exact ⟨U / 4294967295, U - U / 4294967295 * 4294967295, by first | rfl | (congr 1; omega), by first | rfl | (congr 1; omega), dg_startO U T1 bU bT1⟩
  case round =>
    obtain ⟨q, r, rfl, rfl, hd⟩ := hrel
    have hq : q ≤ 4294967296 := by unfold DgO at hd; omega
    have hr : r ≤ 4294967295 := by unfold DgO at hd; omega
    have HB := Lib.hid (And.intro bU (And.intro hma (And.intro hmb (And.intro hh hl))))
    have HD := Lib.hid hd
    clear bU hma hmb hh hl hd
    have HQ := Lib.hid hq
    have BT := Lib.hid (And.intro bT1 bT0)
    have hq2 : (q : Int) ≤ 4294967296 := by omega
    have hr2 : (r : Int) ≤ 4294967295 := by omega
    have b4 : 4294967296 * (r : Int) + (T1 : Int) ≤ 18446744073709551615 := by omega
    by_cases ct : 4294967296 ≤ q ∨ 4294967296 * r + T1 < q * 4294967280
    · have hq1 : 1 ≤ q := by omega
      have CT := Lib.hid ct
      by_cases c2 : r + 4294967295 < 4294967296
      · have E1 := Lib.hid (show Value.int .u64 ((q : Int) - 1) = Value.int .u64 ((q - 1 : Nat) : Int) by rw [show ((q - 1 : Nat) : Int) = (q : Int) - 1 by omega])
        have M1 := Lib.hid (show q - 1 < q by omega)
        have k2 : decide (4294967296 ≤ (r : Int) + 4294967295) = false := by simp; omega
        have C2 := Lib.hid c2
        by_cases c1 : 4294967296 ≤ q
        · have k1 : decide (4294967296 ≤ (q : Int)) = true := by simp; omega
          have hq3 : (4294967296 : Int) ≤ q := by omega
          clear c1 c2 ct hq hr bT1 bT0 hq1
          go_wp2_with fail
          exact ⟨⟨q - 1, r + 4294967295, E1.out, rfl, dg_stepO HD.out HB.out.1 BT.out.1 CT.out C2.out⟩, by simp [intOf]; have := M1.out; omega⟩
        · have k1 : decide (4294967296 ≤ (q : Int)) = false := by simp; omega
          have k3 : decide (4294967296 * (r : Int) + (T1 : Int) < (q : Int) * 4294967280) = true := by simp; omega
          have b3 : (q : Int) * 4294967280 ≤ 18446744004990074880 := by omega
          have hq3 : (1 : Int) ≤ q := by omega
          clear c1 c2 ct hq hr bT1 bT0 hq1
          go_wp2_with fail
          exact ⟨⟨q - 1, r + 4294967295, E1.out, rfl, dg_stepO HD.out HB.out.1 BT.out.1 CT.out C2.out⟩, by simp [intOf]; have := M1.out; omega⟩
      · have DR' := dg_breakO HD.out HB.out.1 BT.out.1 CT.out c2
        obtain ⟨q', rfl⟩ : ∃ q', q = q' + 1 := ⟨q - 1, by omega⟩
        rw [Nat.add_sub_cancel] at DR'
        have DR := Lib.hid DR'
        clear DR'
        have k2 : decide (4294967296 ≤ (r : Int) + 4294967295) = true := by simp; omega
        have C2 := Lib.hid c2
        by_cases c1 : 4294967296 ≤ q' + 1
        · have k1 : decide (4294967296 ≤ (q' : Int) + 1) = true := by simp; omega
          have hq3 : (4294967296 : Int) ≤ q' + 1 := by omega
          clear c1 c2 ct hq1
          obtain ⟨u, hv⟩ : ∃ u : Nat, u + q' * 18446744073709551600 = U * 4294967296 + T1 := ⟨U * 4294967296 + T1 - q' * 18446744073709551600, by have := DR.out; unfold DrO at this; omega⟩
          have hu := wuO U T1 q' m u HM.out DR.out hv
          have bu : u ≤ 18446744073709551599 := by have := DR.out; unfold DrO at this; omega
          have bu2 : (u : Int) ≤ 18446744073709551599 := by omega
          have HV := Lib.hid hv
          have BU := Lib.hid bu
          clear hv bu bT1 bT0 hq hr
          go_wp2_with fail
          clear hu
          go_loop [18, 16] (fun a b => ∃ q r : Nat, a = .int .u64 q ∧ b = .int .u64 r ∧ DgO u T0 q r) (fun a _ => (intOf a).toNat)
          case atStart => exact ⟨u / 4294967295, u - u / 4294967295 * 4294967295, rfl, congrArg (Value.int IntKind.u64) (by have := BU.out; omega), dg_startO u T0 BU.out BT.out.2⟩
          case round =>
            obtain ⟨q0, r0, rfl, rfl, hd⟩ := hrel
            have hq : q0 ≤ 4294967296 := by have := BU.out; unfold DgO at hd; omega
            have hr : r0 ≤ 4294967295 := by unfold DgO at hd; omega
            have HD2 := Lib.hid hd
            have bT := BT.out.2
            have bi1 : (q0 : Int) ≤ 4294967296 := by omega
            have bi2 : (r0 : Int) ≤ 4294967295 := by omega
            have bi3 : 4294967296 * (r0 : Int) + (T0 : Int) ≤ 18446744073709551615 := by omega
            clear hd
            by_cases ct : 4294967296 ≤ q0 ∨ 4294967296 * r0 + T0 < q0 * 4294967280
            · have hq1 : 1 ≤ q0 := by omega
              have CT := Lib.hid ct
              by_cases c2 : r0 + 4294967295 < 4294967296
              · have E1 := Lib.hid (show Value.int .u64 ((q0 : Int) - 1) = Value.int .u64 ((q0 - 1 : Nat) : Int) by rw [show ((q0 - 1 : Nat) : Int) = (q0 : Int) - 1 by omega])
                have M1 := Lib.hid (show q0 - 1 < q0 by omega)
                have k2 : decide (4294967296 ≤ (r0 : Int) + 4294967295) = false := by simp; omega
                have C2 := Lib.hid c2
                by_cases c1 : 4294967296 ≤ q0
                · have k1 : decide (4294967296 ≤ (q0 : Int)) = true := by simp; omega
                  have bi4 : (4294967296 : Int) ≤ q0 := by omega
                  clear c1 c2 ct hq hr bT hq1
                  go_wp2_with fail
                  exact ⟨⟨q0 - 1, r0 + 4294967295, E1.out, rfl, dg_stepO HD2.out BU.out BT.out.2 CT.out C2.out⟩, by simp [intOf]; have := M1.out; omega⟩
                · have k1 : decide (4294967296 ≤ (q0 : Int)) = false := by simp; omega
                  have k3 : decide (4294967296 * (r0 : Int) + (T0 : Int) < (q0 : Int) * 4294967280) = true := by simp; omega
                  have bi4 : (q0 : Int) * 4294967280 ≤ 18446744004990074880 := by omega
                  have bi5 : (1 : Int) ≤ q0 := by omega
                  clear c1 c2 ct hq hr bT hq1
                  go_wp2_with fail
                  exact ⟨⟨q0 - 1, r0 + 4294967295, E1.out, rfl, dg_stepO HD2.out BU.out BT.out.2 CT.out C2.out⟩, by simp [intOf]; have := M1.out; omega⟩
              · have D2 := Lib.hid (dg_breakO HD2.out BU.out BT.out.2 CT.out c2)
                have k2 : decide (4294967296 ≤ (r0 : Int) + 4294967295) = true := by simp; omega
                have WZ : IntKind.u64.wrap (IntKind.u64.wrap (IntKind.u64.wrap ((u : Int) * 4294967296) + (T0 : Int)) - IntKind.u64.wrap (((q0 : Int) - 1) * ((m : Int) * 8))) / 8 = (((hi * 18446744073709551616 + lo) % O : Nat) : Int) := by
                  have h := wzO (U := U) (T := T) (T1 := T1) (q := q') HM.out HU.out HT.out HT1.out HT0.out HV.out D2.out
                  rwa [show ((q0 - 1 : Nat) : Int) = (q0 : Int) - 1 by omega] at h
                have C2 := Lib.hid c2
                by_cases c1 : 4294967296 ≤ q0
                · have k1 : decide (4294967296 ≤ (q0 : Int)) = true := by simp; omega
                  have bi4 : (4294967296 : Int) ≤ q0 := by omega
                  clear c1 c2 ct hq hr bT hq1
                  go_wp2_with fail
                  go_ret2
                  exact ⟨⟨_, rfl⟩, rfl⟩
                · have k1 : decide (4294967296 ≤ (q0 : Int)) = false := by simp; omega
                  have k3 : decide (4294967296 * (r0 : Int) + (T0 : Int) < (q0 : Int) * 4294967280) = true := by simp; omega
                  have bi4 : (q0 : Int) * 4294967280 ≤ 18446744004990074880 := by omega
                  have bi5 : (1 : Int) ≤ q0 := by omega
                  clear c1 c2 ct hq hr bT hq1
                  go_wp2_with fail
                  go_ret2
                  exact ⟨⟨_, rfl⟩, rfl⟩
            · have D2 := Lib.hid (dg_doneO HD2.out (by omega) (by omega))
              have WZ := wzO (U := U) (T := T) (T1 := T1) (q := q') HM.out HU.out HT.out HT1.out HT0.out HV.out D2.out
              have k1 : decide (4294967296 ≤ (q0 : Int)) = false := by simp; omega
              have k3 : decide (4294967296 * (r0 : Int) + (T0 : Int) < (q0 : Int) * 4294967280) = false := by simp; omega
              have bi4 : (q0 : Int) * 4294967280 ≤ 18446744004990074880 := by omega
              have bi5 : (q0 : Int) < 4294967296 := by omega
              clear ct hq hr bT
              go_wp2_with fail
              go_ret2
              exact ⟨⟨_, rfl⟩, rfl⟩
        · have k1 : decide (4294967296 ≤ (q' : Int) + 1) = false := by simp; omega
          have k3 : decide (4294967296 * (r : Int) + (T1 : Int) < ((q' : Int) + 1) * 4294967280) = true := by simp; omega
          have b3 : ((q' : Int) + 1) * 4294967280 ≤ 18446744004990074880 := by omega
          clear c1 c2 ct hq1
          obtain ⟨u, hv⟩ : ∃ u : Nat, u + q' * 18446744073709551600 = U * 4294967296 + T1 := ⟨U * 4294967296 + T1 - q' * 18446744073709551600, by have := DR.out; unfold DrO at this; omega⟩
          have hu := wuO U T1 q' m u HM.out DR.out hv
          have bu : u ≤ 18446744073709551599 := by have := DR.out; unfold DrO at this; omega
          have bu2 : (u : Int) ≤ 18446744073709551599 := by omega
          have HV := Lib.hid hv
          have BU := Lib.hid bu
          clear hv bu bT1 bT0 hq hr
          go_wp2_with fail
          clear hu
          go_loop [18, 16] (fun a b => ∃ q r : Nat, a = .int .u64 q ∧ b = .int .u64 r ∧ DgO u T0 q r) (fun a _ => (intOf a).toNat)
          case atStart => exact ⟨u / 4294967295, u - u / 4294967295 * 4294967295, rfl, congrArg (Value.int IntKind.u64) (by have := BU.out; omega), dg_startO u T0 BU.out BT.out.2⟩
          case round =>
            obtain ⟨q0, r0, rfl, rfl, hd⟩ := hrel
            have hq : q0 ≤ 4294967296 := by have := BU.out; unfold DgO at hd; omega
            have hr : r0 ≤ 4294967295 := by unfold DgO at hd; omega
            have HD2 := Lib.hid hd
            have bT := BT.out.2
            have bi1 : (q0 : Int) ≤ 4294967296 := by omega
            have bi2 : (r0 : Int) ≤ 4294967295 := by omega
            have bi3 : 4294967296 * (r0 : Int) + (T0 : Int) ≤ 18446744073709551615 := by omega
            clear hd
            by_cases ct : 4294967296 ≤ q0 ∨ 4294967296 * r0 + T0 < q0 * 4294967280
            · have hq1 : 1 ≤ q0 := by omega
              have CT := Lib.hid ct
              by_cases c2 : r0 + 4294967295 < 4294967296
              · have E1 := Lib.hid (show Value.int .u64 ((q0 : Int) - 1) = Value.int .u64 ((q0 - 1 : Nat) : Int) by rw [show ((q0 - 1 : Nat) : Int) = (q0 : Int) - 1 by omega])
                have M1 := Lib.hid (show q0 - 1 < q0 by omega)
                have k2 : decide (4294967296 ≤ (r0 : Int) + 4294967295) = false := by simp; omega
                have C2 := Lib.hid c2
                by_cases c1 : 4294967296 ≤ q0
                · have k1 : decide (4294967296 ≤ (q0 : Int)) = true := by simp; omega
                  have bi4 : (4294967296 : Int) ≤ q0 := by omega
                  clear c1 c2 ct hq hr bT hq1
                  go_wp2_with fail
                  exact ⟨⟨q0 - 1, r0 + 4294967295, E1.out, rfl, dg_stepO HD2.out BU.out BT.out.2 CT.out C2.out⟩, by simp [intOf]; have := M1.out; omega⟩
                · have k1 : decide (4294967296 ≤ (q0 : Int)) = false := by simp; omega
                  have k3 : decide (4294967296 * (r0 : Int) + (T0 : Int) < (q0 : Int) * 4294967280) = true := by simp; omega
                  have bi4 : (q0 : Int) * 4294967280 ≤ 18446744004990074880 := by omega
                  have bi5 : (1 : Int) ≤ q0 := by omega
                  clear c1 c2 ct hq hr bT hq1
                  go_wp2_with fail
                  exact ⟨⟨q0 - 1, r0 + 4294967295, E1.out, rfl, dg_stepO HD2.out BU.out BT.out.2 CT.out C2.out⟩, by simp [intOf]; have := M1.out; omega⟩
              · have D2 := Lib.hid (dg_breakO HD2.out BU.out BT.out.2 CT.out c2)
                have k2 : decide (4294967296 ≤ (r0 : Int) + 4294967295) = true := by simp; omega
                have WZ : IntKind.u64.wrap (IntKind.u64.wrap (IntKind.u64.wrap ((u : Int) * 4294967296) + (T0 : Int)) - IntKind.u64.wrap (((q0 : Int) - 1) * ((m : Int) * 8))) / 8 = (((hi * 18446744073709551616 + lo) % O : Nat) : Int) := by
                  have h := wzO (U := U) (T := T) (T1 := T1) (q := q') HM.out HU.out HT.out HT1.out HT0.out HV.out D2.out
                  rwa [show ((q0 - 1 : Nat) : Int) = (q0 : Int) - 1 by omega] at h
                have C2 := Lib.hid c2
                by_cases c1 : 4294967296 ≤ q0
                · have k1 : decide (4294967296 ≤ (q0 : Int)) = true := by simp; omega
                  have bi4 : (4294967296 : Int) ≤ q0 := by omega
                  clear c1 c2 ct hq hr bT hq1
                  go_wp2_with fail
                  go_ret2
                  exact ⟨⟨_, rfl⟩, rfl⟩
                · have k1 : decide (4294967296 ≤ (q0 : Int)) = false := by simp; omega
                  have k3 : decide (4294967296 * (r0 : Int) + (T0 : Int) < (q0 : Int) * 4294967280) = true := by simp; omega
                  have bi4 : (q0 : Int) * 4294967280 ≤ 18446744004990074880 := by omega
                  have bi5 : (1 : Int) ≤ q0 := by omega
                  clear c1 c2 ct hq hr bT hq1
                  go_wp2_with fail
                  go_ret2
                  exact ⟨⟨_, rfl⟩, rfl⟩
            · have D2 := Lib.hid (dg_doneO HD2.out (by omega) (by omega))
              have WZ := wzO (U := U) (T := T) (T1 := T1) (q := q') HM.out HU.out HT.out HT1.out HT0.out HV.out D2.out
              have k1 : decide (4294967296 ≤ (q0 : Int)) = false := by simp; omega
              have k3 : decide (4294967296 * (r0 : Int) + (T0 : Int) < (q0 : Int) * 4294967280) = false := by simp; omega
              have bi4 : (q0 : Int) * 4294967280 ≤ 18446744004990074880 := by omega
              have bi5 : (q0 : Int) < 4294967296 := by omega
              clear ct hq hr bT
              go_wp2_with fail
              go_ret2
              exact ⟨⟨_, rfl⟩, rfl⟩
    · have k1 : decide (4294967296 ≤ (q : Int)) = false := by simp; omega
      have k3 : decide (4294967296 * (r : Int) + (T1 : Int) < (q : Int) * 4294967280) = false := by simp; omega
      have b3 : (q : Int) * 4294967280 ≤ 18446744004990074880 := by omega
      have hq3 : (q : Int) < 4294967296 := by omega
      have DR := Lib.hid (dg_doneO HD.out (by omega) (by omega))
      clear ct
      obtain ⟨u, hv⟩ : ∃ u : Nat, u + q * 18446744073709551600 = U * 4294967296 + T1 := ⟨U * 4294967296 + T1 - q * 18446744073709551600, by have := DR.out; unfold DrO at this; omega⟩
      have hu := wuO U T1 q m u HM.out DR.out hv
      have bu : u ≤ 18446744073709551599 := by have := DR.out; unfold DrO at this; omega
      have bu2 : (u : Int) ≤ 18446744073709551599 := by omega
      have HV := Lib.hid hv
      have BU := Lib.hid bu
      clear hv bu bT1 bT0 hq hr
      go_wp2_with fail
      clear hu
      go_loop [18, 16] (fun a b => ∃ q r : Nat, a = .int .u64 q ∧ b = .int .u64 r ∧ DgO u T0 q r) (fun a _ => (intOf a).toNat)
      case atStart => exact ⟨u / 4294967295, u - u / 4294967295 * 4294967295, rfl, congrArg (Value.int IntKind.u64) (by have := BU.out; omega), dg_startO u T0 BU.out BT.out.2⟩
      case round =>
        obtain ⟨q0, r0, rfl, rfl, hd⟩ := hrel
        have hq : q0 ≤ 4294967296 := by have := BU.out; unfold DgO at hd; omega
        have hr : r0 ≤ 4294967295 := by unfold DgO at hd; omega
        have HD2 := Lib.hid hd
        have bT := BT.out.2
        have bi1 : (q0 : Int) ≤ 4294967296 := by omega
        have bi2 : (r0 : Int) ≤ 4294967295 := by omega
        have bi3 : 4294967296 * (r0 : Int) + (T0 : Int) ≤ 18446744073709551615 := by omega
        clear hd
        by_cases ct : 4294967296 ≤ q0 ∨ 4294967296 * r0 + T0 < q0 * 4294967280
        · have hq1 : 1 ≤ q0 := by omega
          have CT := Lib.hid ct
          by_cases c2 : r0 + 4294967295 < 4294967296
          · have E1 := Lib.hid (show Value.int .u64 ((q0 : Int) - 1) = Value.int .u64 ((q0 - 1 : Nat) : Int) by rw [show ((q0 - 1 : Nat) : Int) = (q0 : Int) - 1 by omega])
            have M1 := Lib.hid (show q0 - 1 < q0 by omega)
            have k2 : decide (4294967296 ≤ (r0 : Int) + 4294967295) = false := by simp; omega
            have C2 := Lib.hid c2
            by_cases c1 : 4294967296 ≤ q0
            · have k1 : decide (4294967296 ≤ (q0 : Int)) = true := by simp; omega
              have bi4 : (4294967296 : Int) ≤ q0 := by omega
              clear c1 c2 ct hq hr bT hq1
              go_wp2_with fail
              exact ⟨⟨q0 - 1, r0 + 4294967295, E1.out, rfl, dg_stepO HD2.out BU.out BT.out.2 CT.out C2.out⟩, by simp [intOf]; have := M1.out; omega⟩
            · have k1 : decide (4294967296 ≤ (q0 : Int)) = false := by simp; omega
              have k3 : decide (4294967296 * (r0 : Int) + (T0 : Int) < (q0 : Int) * 4294967280) = true := by simp; omega
              have bi4 : (q0 : Int) * 4294967280 ≤ 18446744004990074880 := by omega
              have bi5 : (1 : Int) ≤ q0 := by omega
              clear c1 c2 ct hq hr bT hq1
              go_wp2_with fail
              exact ⟨⟨q0 - 1, r0 + 4294967295, E1.out, rfl, dg_stepO HD2.out BU.out BT.out.2 CT.out C2.out⟩, by simp [intOf]; have := M1.out; omega⟩
          · have D2 := Lib.hid (dg_breakO HD2.out BU.out BT.out.2 CT.out c2)
            have k2 : decide (4294967296 ≤ (r0 : Int) + 4294967295) = true := by simp; omega
            have WZ : IntKind.u64.wrap (IntKind.u64.wrap (IntKind.u64.wrap ((u : Int) * 4294967296) + (T0 : Int)) - IntKind.u64.wrap (((q0 : Int) - 1) * ((m : Int) * 8))) / 8 = (((hi * 18446744073709551616 + lo) % O : Nat) : Int) := by
              have h := wzO (U := U) (T := T) (T1 := T1) (q := q) HM.out HU.out HT.out HT1.out HT0.out HV.out D2.out
              rwa [show ((q0 - 1 : Nat) : Int) = (q0 : Int) - 1 by omega] at h
            have C2 := Lib.hid c2
            by_cases c1 : 4294967296 ≤ q0
            · have k1 : decide (4294967296 ≤ (q0 : Int)) = true := by simp; omega
              have bi4 : (4294967296 : Int) ≤ q0 := by omega
              clear c1 c2 ct hq hr bT hq1
              go_wp2_with fail
              go_ret2
              exact ⟨⟨_, rfl⟩, rfl⟩
            · have k1 : decide (4294967296 ≤ (q0 : Int)) = false := by simp; omega
              have k3 : decide (4294967296 * (r0 : Int) + (T0 : Int) < (q0 : Int) * 4294967280) = true := by simp; omega
              have bi4 : (q0 : Int) * 4294967280 ≤ 18446744004990074880 := by omega
              have bi5 : (1 : Int) ≤ q0 := by omega
              clear c1 c2 ct hq hr bT hq1
              go_wp2_with fail
              go_ret2
              exact ⟨⟨_, rfl⟩, rfl⟩
        · have D2 := Lib.hid (dg_doneO HD2.out (by omega) (by omega))
          have WZ := wzO (U := U) (T := T) (T1 := T1) (q := q) HM.out HU.out HT.out HT1.out HT0.out HV.out D2.out
          have k1 : decide (4294967296 ≤ (q0 : Int)) = false := by simp; omega
          have k3 : decide (4294967296 * (r0 : Int) + (T0 : Int) < (q0 : Int) * 4294967280) = false := by simp; omega
          have bi4 : (q0 : Int) * 4294967280 ≤ 18446744004990074880 := by omega
          have bi5 : (q0 : Int) < 4294967296 := by omega
          clear ct hq hr bT
          go_wp2_with fail
          go_ret2
          exact ⟨⟨_, rfl⟩, rfl⟩
end Go.Proofs.YtionmnjcfnmpeaaDoor.So
