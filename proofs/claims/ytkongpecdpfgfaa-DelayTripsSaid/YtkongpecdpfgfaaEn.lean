/-
  DelayTrips: the walk.
-/
import Derived.Test.YtkongpecdpfgfaaEm
import Derived.Test.YtkongpecdpfgfaaRw
namespace Go.Proofs.Ytkongpecdpfgfaa.Ee
open Go Go.RowKit Go.Proofs.Ytkongpecdpfgfaa.Ec

theorem gb_refl (w : World) (r : Option Nat) : w.grownBy w r := ⟨rfl, rfl, rfl, Nat.le_refl _, fun _ _ _ => rfl⟩
theorem gb_to_below {B b : Nat} {w0 w w' : World} (hB : Below B w0 w) (hBw : B ≤ w.heap.size) (g : w.grownBy w' (some b)) (hb : B ≤ b) : Below B w0 w' :=
  hB.trans ⟨g.os, g.tape, g.output, g.size, fun k hk => g.block k (by omega) (fun e => by have := Option.some.inj e; omega)⟩

theorem adds (sm : Bool) (m s n : Int) (m0 : 0 ≤ m) (m1 : m ≤ 60000) (s0 : 0 ≤ s) (s1 : s ≤ 60000) : ∃ (c : Int) (sm' : Bool) (m' s' : Int), 0 ≤ m' ∧ m' ≤ 60000 ∧ 0 ≤ s' ∧ s' ≤ 60000 ∧
    (∀ (b : Nat) (w : World), Tp 98 w b sm m s → Calls Try.prog 23 #[.pointer (some ⟨b, 0, none⟩), .int .i64 n] w fun e w' => e = .returned (.int .i64 c) ∧ Tp 98 w' b sm' m' s' ∧ w.grownBy w' (some b)) ∧
    (∀ (b : Nat) (w : World), Tp 50 w b sm m s → Calls Try.prog 24 #[.pointer (some ⟨b, 0, none⟩), .int .i64 n] w fun e w' => e = .returned (.int .i64 c) ∧ Tp 50 w' b sm' m' s' ∧ w.grownBy w' (some b)) := by
  by_cases h : 0 ≤ n ∧ n ≤ 60000
  · cases sm
    · exact ⟨0, true, n, n / 2, h.1, h.2, by omega, by omega, fun b w t => DAdd_one b m s n w h.1 h.2 t, fun b w t => RAdd_one b m s n w h.1 h.2 t⟩
    · exact ⟨0, true, (7 * m + n) / 8, (3 * s + max (m - n) (n - m)) / 4, by omega, by omega, by omega, by omega, fun b w t => DAdd_more b m s n w h.1 h.2 m0 m1 s0 s1 t, fun b w t => RAdd_more b m s n w h.1 h.2 m0 m1 s0 s1 t⟩
  · exact ⟨7, sm, m, s, m0, m1, s0, s1, fun b w t => (DAdd_no b n w h).mono fun e w' k => ⟨k.1, k.2 ▸ t, k.2 ▸ gb_refl w _⟩, fun b w t => (RAdd_no b n w h).mono fun e w' k => ⟨k.1, k.2 ▸ t, k.2 ▸ gb_refl w _⟩⟩

theorem outs (sm : Bool) (m s : Int) (m0 : 0 ≤ m) (m1 : m ≤ 60000) (s0 : 0 ≤ s) (s1 : s ≤ 60000) : ∃ v : Int,
    (∀ (b : Nat) (w : World), Tp 98 w b sm m s → Calls Try.prog 27 #[.pointer (some ⟨b, 0, none⟩)] w fun e w' => e = .returned (.int .i64 v) ∧ Below w.heap.size w w') ∧
    (∀ (b : Nat) (w : World), Tp 50 w b sm m s → Calls Try.prog 28 #[.pointer (some ⟨b, 0, none⟩)] w fun e w' => e = .returned (.int .i64 v) ∧ Below w.heap.size w w') := by
  cases sm
  · exact ⟨1000, fun b w t => DOut_no b m s w t, fun b w t => ROut_no b m s w t⟩
  · exact ⟨_, fun b w t => DOut_yes b m s w m0 m1 s0 s1 t, fun b w t => ROut_yes b m s w m0 m1 s0 s1 t⟩

set_option maxRecDepth 100000 in
set_option maxHeartbeats 4000000 in
theorem trips_any (a : Option Addr) (len cap : Nat) (zs : List Int) (w : World) (hR : Rw.IntRow .i64 w a len cap zs) :
    Calls Try.prog 6 #[.slice a len cap] w fun e w' => e = .returned (.bool true) ∧ Below w.heap.size w w' := by
  by_cases h1 : (100 : Int) < (len : Int)
  · go_enter Try.func6, Try.ntmps6
    go_wp2_with (go_at_call 12; refine (awake_any _).mono ?_; rintro e w1 ⟨rfl, hb1⟩)
    go_ret
    exact ⟨rfl, hb1⟩
  · have HR := Lib.hid hR
    clear hR
    go_enter Try.func6, Try.ntmps6
    go_wp2
    have hT1 : Tp 98 ((w.alloc (.cells #[.bool false, .int .i64 0, .int .i64 0] 98)).alloc (.cells #[.bool false, .int .i64 0, .int .i64 0] 50)) w.heap.size false 0 0 :=
      (show Tp 98 (w.alloc (.cells #[.bool false, .int .i64 0, .int .i64 0] 98)) w.heap.size false 0 0 from World.alloc_heap_new _ _).kept (World.grownBy_alloc _ _ none) (by simp)
    have hT2 : Tp 50 ((w.alloc (.cells #[.bool false, .int .i64 0, .int .i64 0] 98)).alloc (.cells #[.bool false, .int .i64 0, .int .i64 0] 50)) (w.heap.size + 1) false 0 0 := by
      have := World.alloc_heap_new (w.alloc (.cells #[.bool false, .int .i64 0, .int .i64 0] 98)) (.cells #[.bool false, .int .i64 0, .int .i64 0] 50)
      rwa [World.size_alloc] at this
    go_loopw [6, 7, 8, 9, 10, 22] (fun _ _ _ _ _ i wr => ∃ (k : Nat) (sm : Bool) (m s : Int), k ≤ len ∧ i = .int .i64 k ∧ Tp 98 wr w.heap.size sm m s ∧ Tp 50 wr (w.heap.size + 1) sm m s ∧ 0 ≤ m ∧ m ≤ 60000 ∧ 0 ≤ s ∧ s ≤ 60000 ∧ Below w.heap.size w wr) (fun _ _ _ _ _ i _ => len - (intOf i).toNat)
    case atStart => exact ⟨0, false, 0, 0, Nat.zero_le _, rfl, hT1, hT2, by decide, by decide, by decide, by decide, ((Below.refl _ _).alloc (Nat.le_refl _) _).alloc (by simp) _⟩
    case round =>
      obtain ⟨k, sm, m, s, hk, rfl, t1, t2, m0, m1, s0, s1, hB⟩ := hrel
      have hBw := hB.size
      by_cases hlt : k < len
      · obtain ⟨b, off, ha, hb, hcell⟩ := HR.out.2.2.2 (by omega)
        subst ha
        have hc := (hB.cell (p := ⟨b, off + k, none⟩) hb).trans (hcell k hlt)
        generalize zs.getD k 0 = z at hc
        obtain ⟨c, sm', m', s', q0, q1, r0, r1, hA1, hA2⟩ := adds sm m s z m0 m1 s0 s1
        obtain ⟨v, hO1, hO2⟩ := outs sm' m' s' q0 q1 r0 r1
        have HA1 := Lib.hid hA1
        have HA2 := Lib.hid hA2
        have HO1 := Lib.hid hO1
        have HO2 := Lib.hid hO2
        have HT1 := Lib.hid t1
        have HT2 := Lib.hid t2
        have HB := Lib.hid hB
        clear hA1 hA2 hO1 hO2 t1 t2 hB hT1 hT2 hcell
        go_wp2_with fail
        refine (HA1.out _ _ HT1.out).mono ?_
        rintro e w1 ⟨rfl, t1, g1⟩
        have hb1 := gb_to_below HB.out hBw g1 (Nat.le_refl _)
        have u2 := HT2.out.kept g1 (by simp)
        have U1 := Lib.hid t1
        have U2 := Lib.hid u2
        have B1 := Lib.hid hb1
        clear t1 u2 hb1 g1 hc
        go_wp2_with fail
        refine (HA2.out _ _ U2.out).mono ?_
        rintro e w2 ⟨rfl, t2, g2⟩
        have hb2 := gb_to_below B1.out B1.out.size g2 (by omega)
        have u1 := U1.out.kept g2 (by simp)
        have V1 := Lib.hid u1
        have V2 := Lib.hid t2
        have B2 := Lib.hid hb2
        clear u1 t2 hb2 g2
        go_wp2_with fail
        refine (DTime_any _ _ _ _ _ V1.out).mono ?_
        rintro e w3 ⟨rfl, hb3⟩
        have X1 := Lib.hid (V1.out.kept (gb_below hb3 none) (by simp))
        have X2 := Lib.hid (V2.out.kept (gb_below hb3 none) (by simp))
        have B3 := Lib.hid (blw B2.out hb3)
        clear hb3
        go_wp2_with fail
        refine (RTime_any _ _ _ _ _ X2.out).mono ?_
        rintro e w4 ⟨rfl, hb4⟩
        have Y1 := Lib.hid (X1.out.kept (gb_below hb4 none) (by simp))
        have Y2 := Lib.hid (X2.out.kept (gb_below hb4 none) (by simp))
        have B4 := Lib.hid (blw B3.out hb4)
        clear hb4
        go_wp2_with fail
        refine (HO1.out _ _ Y1.out).mono ?_
        rintro e w5 ⟨rfl, hb5⟩
        have Z1 := Lib.hid (Y1.out.kept (gb_below hb5 none) (by simp))
        have Z2 := Lib.hid (Y2.out.kept (gb_below hb5 none) (by simp))
        have B5 := Lib.hid (blw B4.out hb5)
        clear hb5
        go_wp2_with fail
        refine (HO2.out _ _ Z2.out).mono ?_
        rintro e w6 ⟨rfl, hb6⟩
        have W1 := Lib.hid (Z1.out.kept (gb_below hb6 none) (by simp))
        have W2 := Lib.hid (Z2.out.kept (gb_below hb6 none) (by simp))
        have B6 := Lib.hid (blw B5.out hb6)
        clear hb6
        go_wp2_with fail
        exact ⟨⟨k + 1, sm', m', s', by omega, by go_num, W1.out, W2.out, q0, q1, r0, r1, B6.out⟩, by simp [intOf]; omega⟩
      · have hk' : k = len := by omega
        subst hk'
        obtain ⟨v, hO1, hO2⟩ := outs sm m s m0 m1 s0 s1
        have HO1 := Lib.hid hO1
        have HO2 := Lib.hid hO2
        have HT1 := Lib.hid t1
        have HT2 := Lib.hid t2
        have HB := Lib.hid hB
        clear hO1 hO2 t1 t2 hB hT1 hT2
        go_wp2_with fail
        refine (HO1.out _ _ HT1.out).mono ?_
        rintro e w5 ⟨rfl, hb5⟩
        have Z2 := Lib.hid (HT2.out.kept (gb_below hb5 none) (by simp))
        have B5 := Lib.hid (blw HB.out hb5)
        clear hb5
        go_wp2_with fail
        refine (HO2.out _ _ Z2.out).mono ?_
        rintro e w6 ⟨rfl, hb6⟩
        have B6 := Lib.hid (blw B5.out hb6)
        clear hb6
        go_wp2_with fail
        refine (awake_any _).mono ?_
        rintro e w7 ⟨rfl, hb7⟩
        go_wp2
        go_ret
        exact ⟨rfl, blw B6.out hb7⟩

end Go.Proofs.Ytkongpecdpfgfaa.Ee
