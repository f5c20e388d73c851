/-
  DelayOrdinary: the walk.
-/
import Derived.Test.YtdkfniijoamaoadEx
import Derived.Test.YtdkfniijoamaoadEj
namespace Go.Proofs.Ytdkfniijoamaoad.Ew
open Go Go.RowKit Go.Proofs.Ytdkfniijoamaoad.Ee Go.Proofs.Ytdkfniijoamaoad.Hz

theorem losses (n a l th now tr : Int) (hv : Bool) (hI : In n a l th) : ∃ (r : Bool) (k n' a' l' th' : Int) (hv' : Bool), In n' a' l' th' ∧
    (∀ (c : Nat) (w : World), Ob w c n hv a l th → Calls Try.prog 16 #[.pointer (some ⟨c, 0, none⟩), .int .i64 now, .int .i64 tr] w fun e w' => e = .returned (.tuple #[.bool r, .int .i64 k]) ∧ Ob w' c n' hv' a' l' th' ∧ w.grownBy w' (some c)) ∧
    (∀ (c : Nat) (w : World), Rb w c n hv a l th → Calls Try.prog 17 #[.pointer (some ⟨c, 0, none⟩), .int .i64 now, .int .i64 tr] w fun e w' => e = .returned (.tuple #[.bool r, .int .i64 k]) ∧ Rb w' c n' hv' a' l' th' ∧ w.grownBy w' (some c)) := by
  cases hk : lossOk n now tr
  · refine ⟨false, 7, n, a, l, th, hv, hI, fun c w h => ?_, fun c w h => ?_⟩
    · have := Loss_any c n a l th now tr hv w h hI false n a l th hv (fun h => by rw [hk] at h; cases h) (fun _ => ⟨rfl, rfl, rfl, rfl, rfl, rfl⟩) (fun h => by rw [hk] at h; cases h) (fun h => by rw [hk] at h; cases h)
      rw [if_neg (by rw [hk]; decide)] at this
      exact this
    · exact (RLoss_no c n a l th now tr hv w h hk).mono fun e w' q => ⟨q.1, q.2 ▸ h, q.2 ▸ gb_drew w 0 _⟩
  · have hk2 : wn now n 1000000000 = true ∧ wn tr 0 60000 = true := by unfold lossOk at hk; simpa using hk
    obtain ⟨j1, j2⟩ := wn_in hk2.1
    have hI0 := hI
    obtain ⟨i1, i2, i3, i4, i5, i6, i7, i8⟩ := hI0
    cases hs : soon a now tr hv
    · have hh := hl_in l i5 i6
      refine ⟨true, 0, now, now, hl l, hl l, true, ⟨by omega, by omega, by omega, by omega, by omega, by omega, by omega, by omega⟩, fun c w h => ?_, fun c w h => RLoss_late c n a l th now tr hv w h hI hk2.1 hk2.2 hs⟩
      have := Loss_any c n a l th now tr hv w h hI true now now (hl l) (hl l) true (fun _ => by rw [hs]; rfl) (fun h => by rw [hk] at h; cases h) (fun _ h => by rw [hs] at h; cases h) (fun _ _ => ⟨rfl, rfl, rfl, rfl, rfl⟩)
      rw [if_pos hk] at this
      exact this
    · refine ⟨false, 0, now, a, l, th, hv, ⟨by omega, by omega, i3, i4, i5, i6, i7, i8⟩, fun c w h => ?_, fun c w h => RLoss_soon c n a l th now tr hv w h hI hk2.1 hk2.2 hs⟩
      have := Loss_any c n a l th now tr hv w h hI false now a l th hv (fun _ => by rw [hs]; rfl) (fun h => by rw [hk] at h; cases h) (fun _ _ => ⟨rfl, rfl, rfl, rfl, rfl⟩) (fun _ h => by rw [hs] at h; cases h)
      rw [if_pos hk] at this
      exact this

theorem ackeds (n a l th b : Int) (hv : Bool) (hI : In n a l th) : ∃ (k l' : Int), In n a l' th ∧
    (∀ (c : Nat) (w : World), Ob w c n hv a l th → Calls Try.prog 20 #[.pointer (some ⟨c, 0, none⟩), .int .i64 b] w fun e w' => e = .returned (.int .i64 k) ∧ Ob w' c n hv a l' th ∧ w.grownBy w' (some c)) ∧
    (∀ (c : Nat) (w : World), Rb w c n hv a l th → Calls Try.prog 21 #[.pointer (some ⟨c, 0, none⟩), .int .i64 b] w fun e w' => e = .returned (.int .i64 k) ∧ Rb w' c n hv a l' th ∧ w.grownBy w' (some c)) := by
  have hI0 := hI
  obtain ⟨i1, i2, i3, i4, i5, i6, i7, i8⟩ := hI0
  refine ⟨ackE b, ackL l th b, ?_, fun c w h => Acked_any c n a l th b hv w h hI, fun c w h => ?_⟩
  · unfold ackL
    split
    · rename_i hb
      obtain ⟨h1, h2⟩ := ak_in (th := th) i5 i6 (wn_in hb).1
      exact ⟨i1, i2, i3, i4, h1, h2, i7, i8⟩
    · exact hI
  · unfold ackE ackL
    cases hb : wn b 0 1000000
    · rw [if_neg (by decide), if_neg (by decide)]
      exact (RAcked_no c b w hb).mono fun e w' q => ⟨q.1, q.2 ▸ h, q.2 ▸ gb_drew w 0 _⟩
    · rw [if_pos rfl, if_pos rfl]
      exact RAcked_yes c n a l th b hv w h i5 i6 hb

theorem gb_to_below {B b : Nat} {w0 w w' : World} (hB : Below B w0 w) (hBw : B ≤ w.heap.size) (g : w.grownBy w' (some b)) (hb : B ≤ b) : Below B w0 w' :=
  hB.trans ⟨g.os, g.tape, g.output, g.size, fun k hk => g.block k (by omega) (fun e => by have := Option.some.inj e; omega)⟩

theorem gtb {B b : Nat} {w0 w w' : World} (hB : Below B w0 w) (hBs : B ≤ w0.heap.size) (g : w.grownBy w' (some b)) (hb : B ≤ b) : Below B w0 w' := gb_to_below hB (Nat.le_trans hBs hB.size) g hb
theorem gb_drew1 (w : World) (r : Option Nat) : w.grownBy w.drew r := gb_drew w 1 r

set_option maxRecDepth 100000 in
set_option maxHeartbeats 8000000 in
theorem ordinary_any (a : Option Addr) (len cap : Nat) (w : World) (hR : Sr.Cells w a len 6) :
    Calls Try.prog 5 #[.slice a len cap] w fun e w' => e = .returned (.bool true) ∧ Below w.heap.size w w' := by
  have HL := Lib.hid (light_any a len cap w hR)
  have HR := Lib.hid hR
  clear hR
  go_enter Try.func5, Try.ntmps5
  go_wp2_with fail
  refine HL.out.mono ?_
  rintro e w1 ⟨hB1, rfl | ⟨rfl, hlen, hlat⟩⟩
  · go_wp2_with fail
    refine (awake_any _).mono ?_
    rintro e w2 ⟨rfl, hb2⟩
    go_wp2
    go_ret
    exact ⟨rfl, Hz.blw hB1 hb2⟩
  · have HLat := Lib.hid hlat
    clear hlat HL
    go_wp2_with fail
    refine (NewOrdinary_any _).mono ?_
    rintro e w2 ⟨rfl, hO, g2⟩
    go_wp2_with fail
    refine (RNew_any _).mono ?_
    rintro e w3 ⟨rfl, hRb, g3⟩
    have hs1 := hB1.size
    have hs2 := hO.lt
    have hs3 := hRb.lt
    have hO3 := hO.kept g3 (by simp)
    have hB2 : Below w.heap.size w w2 := hB1.trans ⟨g2.os, g2.tape, g2.output, g2.size, fun k hk => g2.block k (by omega) (by simp)⟩
    have hB3 : Below w.heap.size w w3 := hB2.trans ⟨g3.os, g3.tape, g3.output, g3.size, fun k hk => g3.block k (by omega) (by simp)⟩
    obtain ⟨c1, hc1⟩ : ∃ c1, w1.heap.size = c1 := ⟨_, rfl⟩
    obtain ⟨c2, hc2⟩ : ∃ c2, w2.heap.size = c2 := ⟨_, rfl⟩
    rw [hc1] at hO3 hs1 hs2
    rw [hc2] at hRb hs2 hs3
    rw [hc1, hc2]
    have HO3 := Lib.hid hO3
    have HRb := Lib.hid hRb
    have HB3 := Lib.hid hB3
    have hcc : c1 ≠ c2 := by omega
    have hc1w : w.heap.size ≤ c1 := hs1
    have hc2w : w.heap.size ≤ c2 := by omega
    clear hO hO3 hRb g2 g3 hB1 hB2 hB3 hs1 hs2 hs3 hc1 hc2
    go_wp2_with fail
    go_loopw [5, 7, 8, 9, 10, 11, 22] (fun t _ _ _ _ _ i wr => ∃ (k : Nat) (t' n a' l th : Int) (hv : Bool), k ≤ len ∧ i = .int .i64 k ∧ t = .int .i64 t' ∧ 0 ≤ t' ∧ t' ≤ k * 1000000 ∧ In n a' l th ∧ Ob wr c1 n hv a' l th ∧ Rb wr c2 n hv a' l th ∧ Below w.heap.size w wr) (fun _ _ _ _ _ _ i _ => len - (intOf i).toNat)
    case atStart => exact ⟨0, 0, 0, 0, 3000, 1000000, false, Nat.zero_le _, rfl, rfl, by omega, by omega, ⟨by omega, by omega, by omega, by omega, by omega, by omega, by omega, by omega⟩, HO3.out, HRb.out, HB3.out⟩
    case round =>
      obtain ⟨k, t', n, a', l, th, hv, hk, rfl, rfl, ht0, ht1, hI, hO, hRb, hB⟩ := hrel
      have hBw := hB.size
      by_cases hlt : k < len
      · obtain ⟨b, off, ha, hb, hcell⟩ := HR.out.2 (by omega)
        subst ha
        obtain ⟨z0, w0', e0⟩ := hcell (k * 6 + 0) (by omega)
        have d0 : wr.cell? ⟨b, off + k * 6, none⟩ = some (.int .i64 z0) := (hB.cell (p := ⟨b, off + (k * 6 + 0), none⟩) hb).trans e0
        obtain ⟨z1, w1', e1⟩ := hcell (k * 6 + 1) (by omega)
        have d1 : wr.cell? ⟨b, off + k * 6 + 1, none⟩ = some (.int .i64 z1) := (hB.cell (p := ⟨b, off + (k * 6 + 1), none⟩) hb).trans e1
        obtain ⟨z2, w2', e2⟩ := hcell (k * 6 + 2) (by omega)
        have d2 : wr.cell? ⟨b, off + k * 6 + 2, none⟩ = some (.int .i64 z2) := (hB.cell (p := ⟨b, off + (k * 6 + 2), none⟩) hb).trans e2
        obtain ⟨z3, w3', e3⟩ := hcell (k * 6 + 3) (by omega)
        have d3 : wr.cell? ⟨b, off + k * 6 + 3, none⟩ = some (.int .i64 z3) := (hB.cell (p := ⟨b, off + (k * 6 + 3), none⟩) hb).trans e3
        obtain ⟨z4, w4', e4⟩ := hcell (k * 6 + 4) (by omega)
        have d4 : wr.cell? ⟨b, off + k * 6 + 4, none⟩ = some (.int .i64 z4) := (hB.cell (p := ⟨b, off + (k * 6 + 4), none⟩) hb).trans e4
        obtain ⟨z5, w5', e5⟩ := hcell (k * 6 + 5) (by omega)
        have d5 : wr.cell? ⟨b, off + k * 6 + 5, none⟩ = some (.int .i64 z5) := (hB.cell (p := ⟨b, off + (k * 6 + 5), none⟩) hb).trans e5
        obtain ⟨hz1, hz2⟩ := HLat.out b off rfl k hlt z1 e1
        have hk80 : k < 80 := by omega
        have g0 : wr.grownBy (wr.alloc (.cells #[.int .i64 z0, .int .i64 z1, .int .i64 z2, .int .i64 z3, .int .i64 z4, .int .i64 z5] 30)) none := World.grownBy_alloc _ _ _
        have hx : (wr.alloc (.cells #[.int .i64 z0, .int .i64 z1, .int .i64 z2, .int .i64 z3, .int .i64 z4, .int .i64 z5] 30)).heap[wr.heap.size]? = some (.cells #[.int .i64 z0, .int .i64 z1, .int .i64 z2, .int .i64 z3, .int .i64 z4, .int .i64 z5] 30) := World.alloc_heap_new _ _
        have HX1 := Lib.hid (show (wr.alloc (.cells #[.int .i64 z0, .int .i64 z1, .int .i64 z2, .int .i64 z3, .int .i64 z4, .int .i64 z5] 30)).cell? ⟨wr.heap.size, 1, none⟩ = some (.int .i64 z1) by simp [go_sem])
        have HX2 := Lib.hid (show (wr.alloc (.cells #[.int .i64 z0, .int .i64 z1, .int .i64 z2, .int .i64 z3, .int .i64 z4, .int .i64 z5] 30)).cell? ⟨wr.heap.size, 2, none⟩ = some (.int .i64 z2) by simp [go_sem])
        have HX5 := Lib.hid (show (wr.alloc (.cells #[.int .i64 z0, .int .i64 z1, .int .i64 z2, .int .i64 z3, .int .i64 z4, .int .i64 z5] 30)).cell? ⟨wr.heap.size, 5, none⟩ = some (.int .i64 z5) by simp [go_sem])
        have HO := Lib.hid (hO.kept g0 (by simp))
        have HRx := Lib.hid (hRb.kept g0 (by simp))
        have HB := Lib.hid (hB.trans ⟨g0.os, g0.tape, g0.output, g0.size, fun k hk => g0.block k (by omega) (by simp)⟩)
        have hlt1 : c1 < wr.heap.size := hO.lt
        have hlt2 : c2 < wr.heap.size := hRb.lt
        clear e0 e1 e2 e3 e4 e5 g0 hx hO hRb hB hcell
        by_cases q5 : z0 = 5
        · subst q5
          obtain ⟨r, c, n', a'', l', th', hv', hI', hA1, hA2⟩ := losses n a' l th (t' + z1) z5 hv hI
          have HA1 := Lib.hid hA1
          have HA2 := Lib.hid hA2
          clear hA1 hA2
          go_wp2_with fail
          refine (HA1.out _ _ HO.out).mono ?_
          rintro e w4 ⟨rfl, hO4, g4⟩
          have x41 : w4.cell? ⟨wr.heap.size, 1, none⟩ = some (.int .i64 z1) := gb_cell g4 HX1.out (by show wr.heap.size ≠ c1; omega)
          have x45 : w4.cell? ⟨wr.heap.size, 5, none⟩ = some (.int .i64 z5) := gb_cell g4 HX5.out (by show wr.heap.size ≠ c1; omega)
          have HR4 := Lib.hid (HRx.out.kept g4 (fun e => hcc (Option.some.inj e).symm))
          have HO4 := Lib.hid hO4
          have HB4 := Lib.hid (gb_to_below HB.out HB.out.size g4 hc1w)
          clear hO4 g4 d0 d1 d2 d3 d4 d5
          go_wp2_with fail
          refine (HA2.out _ _ HR4.out).mono ?_
          rintro e w5 ⟨rfl, hR5, g5⟩
          have x51 : w5.cell? ⟨wr.heap.size, 1, none⟩ = some (.int .i64 z1) := gb_cell g5 x41 (by show wr.heap.size ≠ c2; omega)
          have HO5 := Lib.hid (HO4.out.kept g5 (fun e => hcc (Option.some.inj e)))
          have HR5 := Lib.hid hR5
          have HB5 := Lib.hid (gb_to_below HB4.out HB4.out.size g5 hc2w)
          clear hR5 g5 x41 x45
          go_wp2_with fail
          all_goals
            refine (Limit_any _ _ _ _ _ _ _ HO5.out).mono ?_
            rintro e w6 ⟨rfl, rfl⟩
            go_wp2_with fail
            refine (RLimit_any _ _ _ _ _ _ _ HR5.out).mono ?_
            rintro e w6 ⟨rfl, rfl⟩
            go_wp2_with fail
            exact ⟨⟨k + 1, _, n', a'', l', th', hv', by omega, by go_num, rfl, by omega, by omega, hI', HO5.out, HR5.out, HB5.out⟩, by simp [intOf]; omega⟩
        · by_cases q6 : z0 = 6
          · subst q6
            obtain ⟨h1, h2⟩ := hl_in l hI.2.2.2.2.1 hI.2.2.2.2.2.1
            have hI' : In n a' 1500 (hl l) := ⟨hI.1, hI.2.1, hI.2.2.1, hI.2.2.2.1, by omega, by omega, h1, h2⟩
            go_wp2_with fail
            refine (Out_any _ _ _ _ _ _ _ HO.out hI).mono ?_
            rintro e w4 ⟨rfl, hO4, g4⟩
            have HR4 := Lib.hid (HRx.out.kept g4 (fun e => hcc (Option.some.inj e).symm))
            have HO4 := Lib.hid hO4
            have HB4 := Lib.hid (gb_to_below HB.out HB.out.size g4 hc1w)
            clear hO4 g4 d0 d1 d2 d3 d4 d5
            go_wp2_with fail
            refine (ROut_any _ _ _ _ _ _ _ HR4.out hI.2.2.2.2.1 hI.2.2.2.2.2.1).mono ?_
            rintro e w5 ⟨rfl, hR5, g5⟩
            have HO5 := Lib.hid (HO4.out.kept g5 (fun e => hcc (Option.some.inj e)))
            have HR5 := Lib.hid hR5
            have HB5 := Lib.hid (gb_to_below HB4.out HB4.out.size g5 hc2w)
            clear hR5 g5
            go_wp2_with fail
            all_goals
              refine (Limit_any _ _ _ _ _ _ _ HO5.out).mono ?_
              rintro e w6 ⟨rfl, rfl⟩
              go_wp2_with fail
              refine (RLimit_any _ _ _ _ _ _ _ HR5.out).mono ?_
              rintro e w6 ⟨rfl, rfl⟩
              go_wp2_with fail
              exact ⟨⟨k + 1, _, n, a', 1500, (hl l), hv, by omega, by go_num, rfl, by omega, by omega, hI', HO5.out, HR5.out, HB5.out⟩, by simp [intOf]; omega⟩
          · obtain ⟨c, l', hI', hA1, hA2⟩ := ackeds n a' l th z2 hv hI
            have HA1 := Lib.hid hA1
            have HA2 := Lib.hid hA2
            clear hA1 hA2
            go_wp2_with fail
            clear d0 d1 d2 d3 d4 d5
            go_region_with (first
              | (go_at_call 20
                 refine (HA1.out _ _ (by first | exact HO.out.kept (gb_trans (gb_drew1 _ _) gR) (fun e => hcc (Option.some.inj e)) | exact HO.out)).mono ?_
                 rintro e wq ⟨rfl, hO, gO⟩
                 have xq : wq.cell? ⟨wr.heap.size, 2, none⟩ = some (.int .i64 z2) := gb_cell gO (by first | exact xq | exact HX2.out) (by show wr.heap.size ≠ c1; omega))
              | (go_at_call 21
                 refine (HA2.out _ _ (by first | exact HRx.out.kept (gb_trans (gb_drew1 _ _) gO) (fun e => hcc (Option.some.inj e).symm) | exact HRx.out)).mono ?_
                 rintro e wq ⟨rfl, hR, gR⟩
                 have xq : wq.cell? ⟨wr.heap.size, 2, none⟩ = some (.int .i64 z2) := gb_cell gR (by first | exact xq | exact HX2.out) (by show wr.heap.size ≠ c2; omega)))
            all_goals
              have HOq : Hid (Ob wq c1 n hv a' l' th) := Lib.hid (by first | exact hO | exact hO.kept gR (fun e => hcc (Option.some.inj e)))
              have HRq : Hid (Rb wq c2 n hv a' l' th) := Lib.hid (by first | exact hR | exact hR.kept gO (fun e => hcc (Option.some.inj e).symm))
              have HBq : Hid (Below w.heap.size w wq) := Lib.hid (by first
                | exact gtb (gtb (below_drewN HB.out 1) (Nat.le_refl _) gO hc1w) (Nat.le_refl _) gR hc2w
                | exact gtb (gtb (below_drewN HB.out 1) (Nat.le_refl _) gR hc2w) (Nat.le_refl _) gO hc1w)
              clear gO gR hO hR xq
              go_wp2_with fail
              refine (Limit_any _ _ _ _ _ _ _ HOq.out).mono ?_
              rintro e w6 ⟨rfl, rfl⟩
              go_wp2_with fail
              refine (RLimit_any _ _ _ _ _ _ _ HRq.out).mono ?_
              rintro e w6 ⟨rfl, rfl⟩
              go_wp2_with fail
              exact ⟨⟨k + 1, _, n, a', l', th, hv, by omega, by go_num, rfl, by omega, by omega, hI', HOq.out, HRq.out, HBq.out⟩, by simp [intOf]; omega⟩
      · have hk' : k = len := by omega
        subst hk'
        have HB := Lib.hid hB
        clear hB hO hRb
        go_wp2_with fail
        refine (awake_any _).mono ?_
        rintro e w7 ⟨rfl, hb7⟩
        go_wp2
        go_ret
        exact ⟨rfl, Hz.blw HB.out hb7⟩
end Go.Proofs.Ytdkfniijoamaoad.Ew
