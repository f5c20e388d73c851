/-
  Fields of bits: BitsLists' walk.
-/
import Derived.Test.YtbeaohnjifcgaaaDoorCn
import Derived.Test.YtbeaohnjifcgaaaDoorCj
namespace Go.Proofs.YtbeaohnjifcgaaaDoor.Bh
open Go Go.RowKit Go.Shelf Go.Proofs.YtbeaohnjifcgaaaDoor.Sx Go.Proofs.YtbeaohnjifcgaaaDoor.Na Go.Proofs.YtbeaohnjifcgaaaDoor.Ba

theorem OR.il_ {w : World} {base : Nat} {a : Option Addr} {len cap : Nat} {zs : List Int} (h : Or.OR w base (.slice a len cap) zs) : len = zs.length ∧ IL w a zs := by
  obtain ⟨a', cap', e, hil⟩ := OR.il h
  cases e
  exact ⟨rfl, hil⟩

theorem liL_len2 (n : Int) (s : ByteArray) : (liL n s).length ≤ 4096 := by
  by_cases hc : chk n s = 0
  · rw [liL, if_pos hc]
    obtain ⟨N, rfl, h1, _⟩ := vd_t (chk_t hc)
    have := nbl_len (bt s) N
    rw [Int.toNat_natCast]; omega
  · rw [liL, if_neg hc]; simp

set_option maxRecDepth 1000000 in
set_option maxHeartbeats 4000000 in
theorem lists_walk (n : Int) (zs : List Int) (b : Option Addr) (bcap : Nat) (s : ByteArray) (w : World) (hil : IL w b zs) (hzm : zs.length ≤ maxLen) (hs : s.size ≤ 140737488351232) (ht : Hh.Tab w) :
    Calls Tryd.prog 6 #[.int .i64 n, .slice b zs.length bcap, .string s] w fun e w' => e = .returned (.bool true) ∧ Below w.heap.size w w' := by
  suffices H : Calls Tryd.prog 6 #[.int .i64 n, .slice b zs.length bcap, .string s] w fun e w' => e = .returned (.bool true) ∧ w.grownBy w' none from H.mono fun e w' h => ⟨h.1, below_of h.2⟩
  have HA : Hid (∀ w', w.grownBy w' none → Calls Tryd.prog 11 #[] w' fun e w2 => e = .returned (.bool true) ∧ w'.grownBy w2 none) := Lib.hid (fun w' hg => awake_any w' (ht.below (below_of hg)))
  clear ht
  have hln := hzm
  unfold maxLen at hln
  cases hl : lgt n s
  · have HL := Lib.hid (fun w => Light_w n s w _ hl)
    obtain ⟨len, hlen⟩ : ∃ len, zs.length = len := ⟨_, rfl⟩
    rw [hlen] at hln ⊢
    clear hl hil hlen hzm
    go_enter Tryd.func6, Tryd.ntmps6
    go_wp2_with fail
    refine (HL.out _).mono ?_
    rintro e w1 ⟨rfl, rfl⟩
    go_wp2_with fail
    refine (HA.out _ (gb_refl _ _)).mono ?_
    rintro e w1 ⟨rfl, hg⟩
    go_wp2
    go_ret
    exact ⟨rfl, hg⟩
  · have HL := Lib.hid (fun w => Light_w n s w _ hl)
    by_cases h3 : 300 < zs.length
    · obtain ⟨len, hlen⟩ : ∃ len, zs.length = len := ⟨_, rfl⟩
      rw [hlen] at hln h3 ⊢
      have h3' : (300 : Int) < (len : Int) := by omega
      clear hl hil hlen hzm
      go_enter Tryd.func6, Tryd.ntmps6
      go_wp2_with fail
      refine (HL.out _).mono ?_
      rintro e w1 ⟨rfl, rfl⟩
      go_wp2_with fail
      refine (HA.out _ (gb_refl _ _)).mono ?_
      rintro e w1 ⟨rfl, hg⟩
      go_wp2
      go_ret
      exact ⟨rfl, hg⟩
    · have HO := Lib.hid (fun w (h : IL w b zs) => Of_any n zs b bcap w h hzm)
      have HOr := Lib.hid (fun w (h : IL w b zs) => ROf_any n zs b bcap w h (by omega))
      have HLi := Lib.hid (fun w => List_any n s w hs)
      have HLr := Lib.hid (fun w => RList_any n s w hs)
      have HC := Lib.hid (fun w => Count_any n s w hs)
      have HOb : Hid (chk n s = 0 → ∀ a cap w, IL w a (liL n s) → Calls Tryd.prog 32 #[.int .i64 n, .slice a (liL n s).length cap] w fun e w' => e = .returned (.tuple #[.string s, .int .i64 0]) ∧ w.grownBy w' none) := Lib.hid (fun hc a cap w h => by
        have := Of_any n (liL n s) a cap w h (by have := liL_len2 n s; unfold maxLen; omega)
        rwa [(of_list hc).1, (of_list hc).2] at this)
      have HIn : Hid (∀ a b ca cb w, IL w a (liL n s) → IL w b (liL n s) → Calls Tryd.prog 37 #[.slice a (liL n s).length ca, .slice b (liL n s).length cb] w fun e w' => e = .returned (.bool true) ∧ w.grownBy w' none) := Lib.hid (fun a b ca cb w h1 h2 => Ints_any a b ca cb _ w h1 h2 (by have := liL_len2 n s; omega))
      have hll := liL_len2 n s
      obtain ⟨len, hlen⟩ : ∃ len, zs.length = len := ⟨_, rfl⟩
      obtain ⟨v1, e1⟩ : ∃ v, ofS n zs = v := ⟨_, rfl⟩
      obtain ⟨v2, e2⟩ : ∃ v, ofE n zs = v := ⟨_, rfl⟩
      obtain ⟨l, e5⟩ : ∃ v, liL n s = v := ⟨_, rfl⟩
      obtain ⟨v6, e6⟩ : ∃ v, chk n s = v := ⟨_, rfl⟩
      simp only [hlen, e1, e2, e5, e6] at HO HOr HLi HLr HC HOb HIn hll hln h3 ⊢
      have h3' : (len : Int) ≤ 300 := by omega
      have HIL := Lib.hid hil
      clear e1 e2 e5 e6 hl hs hil hlen hzm
      go_enter Tryd.func6, Tryd.ntmps6
      go_wp2_with fail
      refine (HL.out _).mono ?_
      rintro e w1 ⟨rfl, rfl⟩
      go_wp2_with fail
      refine (HO.out _ HIL.out).mono ?_
      rintro e w1 ⟨rfl, g1⟩
      have G1 := Lib.hid g1
      clear g1
      go_wp2_with fail
      refine (HOr.out _ (HIL.out.kept G1.out)).mono ?_
      rintro e w2 ⟨rfl, g2⟩
      have G2 := Lib.hid (gb_trans G1.out g2)
      clear g2 G1
      go_wp2_with fail
      refine (HLi.out _).mono ?_
      rintro e w3 ⟨a, la, ca, rfl, ho, g2⟩
      obtain ⟨rfl, hia⟩ := OR.il_ ho
      have HIA := Lib.hid hia
      have G3 := Lib.hid (gb_trans G2.out g2)
      clear g2 G2 hia ho
      go_wp2_with fail
      refine (HLr.out _).mono ?_
      rintro e w4 ⟨v, rfl, ho, g2⟩
      obtain ⟨c, cc, rfl, hic⟩ := OR.il ho
      have HIC := Lib.hid hic
      have HIA4 := Lib.hid (HIA.out.kept (gb_below g2 none))
      have G4 := Lib.hid (gb_trans G3.out (gb_below g2 none))
      clear g2 G3 hic ho HIA
      go_wp2_with fail
      refine (HC.out _).mono ?_
      rintro e w5 ⟨rfl, g2⟩
      have HIA5 := Lib.hid (HIA4.out.kept g2)
      have HIC5 := Lib.hid (HIC.out.kept g2)
      have G5 := Lib.hid (gb_trans G4.out g2)
      clear g2 G4 HIA4 HIC
      obtain ⟨ln, hlen⟩ : ∃ ln, l.length = ln := ⟨_, rfl⟩
      have HLN := Lib.hid hlen
      simp only [hlen] at HIn HOb hll ⊢
      clear hlen
      go_wp2_with fail
      refine (HIn.out _ _ _ _ _ HIA5.out HIC5.out).mono ?_
      rintro e w6 ⟨rfl, g2⟩
      have HIA6 := Lib.hid (HIA5.out.kept g2)
      have G6 := Lib.hid (gb_trans G5.out g2)
      clear g2 G5 HIA5
      by_cases he : v6 = 0
      · subst he
        have HOb' := Lib.hid (HOb.out rfl)
        clear HOb
        go_wp2_with fail
        refine (HOb'.out _ _ _ HIA6.out).mono ?_
        rintro e w7 ⟨rfl, g2⟩
        have G7 := Lib.hid (gb_trans G6.out g2)
        clear g2 G6
        go_wp2_with fail
        refine (HA.out _ G7.out).mono ?_
        rintro e w9 ⟨rfl, g2⟩
        have G9 := Lib.hid (gb_trans G7.out g2)
        clear g2 G7
        go_wp2
        go_ret
        exact ⟨rfl, G9.out⟩
      · have d0 : (v6 == 0) = false := by simpa using he
        clear HOb
        go_wp2_with fail
        refine (HA.out _ G6.out).mono ?_
        rintro e w9 ⟨rfl, g2⟩
        have G9 := Lib.hid (gb_trans G6.out g2)
        clear g2 G6
        go_wp2
        go_ret
        exact ⟨rfl, G9.out⟩
end Go.Proofs.YtbeaohnjifcgaaaDoor.Bh
