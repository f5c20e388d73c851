/-
  Fields of bits: BitsRuns' walk.
-/
import Derived.Test.YtbeaohnjifcgaaaDoorCq
import Derived.Test.YtbeaohnjifcgaaaDoorCr
import Derived.Test.YtbeaohnjifcgaaaDoorCs
import Derived.Test.YtbeaohnjifcgaaaDoorSr
namespace Go.Proofs.YtbeaohnjifcgaaaDoor.Bh
open Go Go.RowKit Go.Shelf Go.Proofs.YtbeaohnjifcgaaaDoor.Sx Go.Proofs.YtbeaohnjifcgaaaDoor.Na Go.Proofs.YtbeaohnjifcgaaaDoor.Ba

theorem rl_of {w : World} {a : Option Addr} {len : Nat} (h : Sr.Cells w a len 2) : ∃ l : List (Int × Int), l.length = len ∧ RL w a l := by
  by_cases h0 : 0 < len
  · obtain ⟨b, off, e, _, hc⟩ := h.2 h0
    have hf : ∃ f : Nat → Int, ∀ k, k < len * 2 → w.cell? ⟨b, off + k, none⟩ = some (.int .i64 (f k)) := by
      refine ⟨fun k => match w.cell? ⟨b, off + k, none⟩ with | some (.int _ z) => z | _ => 0, fun k hk => ?_⟩
      obtain ⟨z, _, hz⟩ := hc k hk
      simp only [hz]
    obtain ⟨f, hf⟩ := hf
    refine ⟨(List.range len).map fun i => (f (i * 2), f (i * 2 + 1)), by simp, fun _ => ⟨b, off, e, fun i hi => ?_⟩⟩
    have hi : i < len := by simpa using hi
    have e1 : ((List.range len).map fun i => (f (i * 2), f (i * 2 + 1))).getD i (0, 0) = (f (i * 2), f (i * 2 + 1)) := by simp [List.getD, hi]
    rw [e1, Nat.add_assoc]
    exact ⟨hf _ (by omega), hf _ (by omega)⟩
  · exact ⟨[], by simp; omega, fun h => absurd h (by decide)⟩

set_option maxRecDepth 1000000 in
set_option maxHeartbeats 4000000 in
theorem runs_walk (n : Int) (s : ByteArray) (zs : List (Int × Int)) (b : Option Addr) (bcap : Nat) (w : World) (hil : RL w b zs) (hzm : zs.length ≤ maxLen) (hs : s.size ≤ 140737488351232) (ht : Hh.Tab w) :
    Calls Tryd.prog 8 #[.int .i64 n, .string s, .slice b zs.length bcap] w fun e w' => e = .returned (.bool true) ∧ Below w.heap.size w w' := by
  suffices H : Calls Tryd.prog 8 #[.int .i64 n, .string s, .slice b zs.length bcap] w fun e w' => e = .returned (.bool true) ∧ w.grownBy w' none from H.mono fun e w' h => ⟨h.1, below_of h.2⟩
  have HA : Hid (∀ w', w.grownBy w' none → Calls Tryd.prog 11 #[] w' fun e w2 => e = .returned (.bool true) ∧ w'.grownBy w2 none) := Lib.hid (fun w' hg => awake_any w' (ht.below (below_of hg)))
  clear ht
  have hln := hzm
  unfold maxLen at hln
  cases hl : lgt n s
  · have HL := Lib.hid (fun w => Light_w n s w _ hl)
    obtain ⟨len, hlen⟩ : ∃ len, zs.length = len := ⟨_, rfl⟩
    rw [hlen] at hln ⊢
    clear hl hil hlen hzm
    go_enter Tryd.func8, Tryd.ntmps8
    go_wp2_with fail
    refine (HL.out _).mono ?_
    rintro e w1 ⟨rfl, rfl⟩
    go_wp2_with fail
    refine (HA.out _ (gb_refl _ _)).mono ?_
    rintro e w1 ⟨rfl, hg⟩
    go_wp2
    go_ret
    exact ⟨rfl, hg⟩
  · have HL := Lib.hid (fun w => Light_w n s w _ hl)
    by_cases h3 : 300 < zs.length
    · obtain ⟨len, hlen⟩ : ∃ len, zs.length = len := ⟨_, rfl⟩
      rw [hlen] at hln h3 ⊢
      have h3' : (300 : Int) < (len : Int) := by omega
      clear hl hil hlen hzm
      go_enter Tryd.func8, Tryd.ntmps8
      go_wp2_with fail
      refine (HL.out _).mono ?_
      rintro e w1 ⟨rfl, rfl⟩
      go_wp2_with fail
      refine (HA.out _ (gb_refl _ _)).mono ?_
      rintro e w1 ⟨rfl, hg⟩
      go_wp2
      go_ret
      exact ⟨rfl, hg⟩
    · have HO := Lib.hid (fun w (h : RL w b zs) => FromRuns_any n zs b bcap w h hzm)
      have HOr := Lib.hid (fun w (h : RL w b zs) => RFromRuns_any n zs b bcap w h (by omega))
      have HLi := Lib.hid (fun w => Runs_any n s w hs)
      have HLr := Lib.hid (fun w => RRuns_any n s w hs)
      have HOb : Hid (chk n s = 0 → ∀ a cap w, RL w a (RI (ruL n s)) → Calls Tryd.prog 44 #[.int .i64 n, .slice a (ruL n s).length cap] w fun e w' => e = .returned (.tuple #[.string s, .int .i64 0]) ∧ w.grownBy w' none) := Lib.hid (fun hc a cap w h => by
        have := FromRuns_any n (RI (ruL n s)) a cap w h (by have := ruL_len n s; rw [RI_len]; unfold maxLen; omega)
        rwa [RI_len, (fr_runs hc).1, (fr_runs hc).2] at this)
      have HIn : Hid (∀ a b ca cb w, RL w a (RI (ruL n s)) → RL w b (RI (ruL n s)) → Calls Tryd.prog 46 #[.slice a (ruL n s).length ca, .slice b (ruL n s).length cb] w fun e w' => e = .returned (.bool true) ∧ w.grownBy w' none) := Lib.hid (fun a b ca cb w h1 h2 => by
        have := LRuns_any a b ca cb _ w h1 h2 (by rw [RI_len]; have := ruL_len n s; omega)
        rwa [RI_len] at this)
      have hll := ruL_len n s
      obtain ⟨len, hlen⟩ : ∃ len, zs.length = len := ⟨_, rfl⟩
      obtain ⟨v1, e1⟩ : ∃ v, frS n zs = v := ⟨_, rfl⟩
      obtain ⟨v2, e2⟩ : ∃ v, frE n zs = v := ⟨_, rfl⟩
      obtain ⟨l, e5⟩ : ∃ v, ruL n s = v := ⟨_, rfl⟩
      obtain ⟨v6, e6⟩ : ∃ v, chk n s = v := ⟨_, rfl⟩
      simp only [hlen, e1, e2, e5, e6] at HO HOr HLi HLr HOb HIn hll hln h3 ⊢
      have h3' : (len : Int) ≤ 300 := by omega
      have HIL := Lib.hid hil
      obtain ⟨ln, hlen⟩ : ∃ ln, l.length = ln := ⟨_, rfl⟩
      simp only [hlen] at HLi HLr HIn HOb hll
      clear e1 e2 e5 e6 hl hs hil hlen hzm
      go_enter Tryd.func8, Tryd.ntmps8
      go_wp2_with fail
      refine (HL.out _).mono ?_
      rintro e w1 ⟨rfl, rfl⟩
      go_wp2_with fail
      refine (HLi.out _).mono ?_
      rintro e w1 ⟨a, ca, rfl, hia, g1⟩
      have HIA := Lib.hid hia
      have G1 := Lib.hid g1
      clear g1 hia
      go_wp2_with fail
      refine (HLr.out _).mono ?_
      rintro e w2 ⟨c, cc, rfl, hic, g2⟩
      have HIC := Lib.hid hic
      have HIA2 := Lib.hid (HIA.out.kept g2)
      have G2 := Lib.hid (gb_trans G1.out g2)
      clear g2 G1 hic HIA
      go_wp2_with fail
      refine (HO.out _ (HIL.out.kept G2.out)).mono ?_
      rintro e w3 ⟨rfl, g2⟩
      have HIA3 := Lib.hid (HIA2.out.kept g2)
      have HIC3 := Lib.hid (HIC.out.kept g2)
      have G3 := Lib.hid (gb_trans G2.out g2)
      clear g2 G2 HIA2 HIC
      go_wp2_with fail
      refine (HOr.out _ (HIL.out.kept G3.out)).mono ?_
      rintro e w4 ⟨rfl, g2⟩
      have HIA5 := Lib.hid (HIA3.out.kept g2)
      have HIC5 := Lib.hid (HIC3.out.kept g2)
      have G5 := Lib.hid (gb_trans G3.out g2)
      clear g2 G3 HIA3 HIC3
      go_wp2_with fail
      refine (HIn.out _ _ _ _ _ HIA5.out HIC5.out).mono ?_
      rintro e w6 ⟨rfl, g2⟩
      have HIA6 := Lib.hid (HIA5.out.kept g2)
      have G6 := Lib.hid (gb_trans G5.out g2)
      clear g2 G5 HIA5
      by_cases he : v6 = 0
      · subst he
        have HOb' := Lib.hid (HOb.out rfl)
        clear HOb
        go_wp2_with fail
        refine (HOb'.out _ _ _ HIA6.out).mono ?_
        rintro e w7 ⟨rfl, g2⟩
        have G7 := Lib.hid (gb_trans G6.out g2)
        clear g2 G6
        go_wp2_with fail
        refine (HA.out _ G7.out).mono ?_
        rintro e w9 ⟨rfl, g2⟩
        have G9 := Lib.hid (gb_trans G7.out g2)
        clear g2 G7
        go_wp2
        go_ret
        exact ⟨rfl, G9.out⟩
      · have d0 : (v6 == 0) = false := by simpa using he
        clear HOb
        go_wp2_with fail
        refine (HA.out _ G6.out).mono ?_
        rintro e w9 ⟨rfl, g2⟩
        have G9 := Lib.hid (gb_trans G6.out g2)
        clear g2 G6
        go_wp2
        go_ret
        exact ⟨rfl, G9.out⟩
end Go.Proofs.YtbeaohnjifcgaaaDoor.Bh
