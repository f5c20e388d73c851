/-
  Texts of bits: BitsTexts' walk.
-/
import Derived.Test.YtbeaohnjifcgaaaDoorDo
namespace Go.Proofs.YtbeaohnjifcgaaaDoor.Db
open Go Go.RowKit Go.Shelf Go.Proofs.YtbeaohnjifcgaaaDoor.Sx Go.Proofs.YtbeaohnjifcgaaaDoor.Na Go.Proofs.YtbeaohnjifcgaaaDoor.Ba Go.Proofs.YtbeaohnjifcgaaaDoor.Bh Go.Proofs.YtbeaohnjifcgaaaDoor.Da

theorem chk_size {n : Int} {s : ByteArray} (h : chk n s = 0) : s.size ≤ 140737488351232 := by
  obtain ⟨N, _, e2, e3, _⟩ := vd_t (chk_t h)
  omega
/-- the walk's facts of Parse, at one text -/
theorem parse_both (n : Int) (t : ByteArray) (w0 : World) (h3 : t.size ≤ 3000) (hmx : Mx w0) (ht : Hh.Tab w0) :
    ∃ s k, PRR n t s k ∧ ∀ w, Mx w → Hh.Tab w → Calls Tryd.prog 49 #[.int .i64 n, .string t] w fun e w' => e = .returned (.tuple #[.string s, .int .i64 k]) ∧ w.grownBy w' none := by
  obtain ⟨s, k, hp, _⟩ := Parse_any n t w0 (by omega) hmx ht
  refine ⟨s, k, hp, fun w hm ht => ?_⟩
  obtain ⟨s', k', hp', H⟩ := Parse_any n t w (by omega) hm ht
  obtain ⟨rfl, rfl⟩ := hp.one hp'
  exact H

set_option maxRecDepth 100000 in
set_option maxHeartbeats 4000000 in
theorem texts_walk (n : Int) (s t : ByteArray) (w : World) (hs : s.size ≤ 140737488351232) (hz : t.size ≤ 140737488351232) (hmx : Mx w) (ht : Hh.Tab w) :
    Calls Tryd.prog 9 #[.int .i64 n, .string s, .string t] w fun e w' => e = .returned (.bool true) ∧ Below w.heap.size w w' := by
  suffices H : Calls Tryd.prog 9 #[.int .i64 n, .string s, .string t] w fun e w' => e = .returned (.bool true) ∧ w.grownBy w' none from H.mono fun e w' h => ⟨h.1, below_of h.2⟩
  have HA : Hid (∀ w', w.grownBy w' none → Calls Tryd.prog 11 #[] w' fun e w2 => e = .returned (.bool true) ∧ w'.grownBy w2 none) := Lib.hid (fun w' hg => awake_any w' (ht.below (below_of hg)))
  cases hl : lgt n s
  · have HL := Lib.hid (fun w => Light_w n s w _ hl)
    clear hl ht hmx
    go_enter Tryd.func9, Tryd.ntmps9
    go_wp2_with fail
    refine (HL.out _).mono ?_
    rintro e w1 ⟨rfl, rfl⟩
    go_wp2_with fail
    refine (HA.out _ (gb_refl _ _)).mono ?_
    rintro e w1 ⟨rfl, hg⟩
    go_wp2
    go_ret
    exact ⟨rfl, hg⟩
  · have HL := Lib.hid (fun w => Light_w n s w _ hl)
    by_cases h3 : 3000 < t.size
    · have h3' : (3000 : Int) < (t.size : Int) := by omega
      clear hl ht hmx h3
      go_enter Tryd.func9, Tryd.ntmps9
      go_wp2_with fail
      refine (HL.out _).mono ?_
      rintro e w1 ⟨rfl, rfl⟩
      go_wp2_with fail
      refine (HA.out _ (gb_refl _ _)).mono ?_
      rintro e w1 ⟨rfl, hg⟩
      go_wp2
      go_ret
      exact ⟨rfl, hg⟩
    · have h3' : (t.size : Int) ≤ 3000 := by omega
      obtain ⟨X, k, hp, hP⟩ := parse_both n t w (by omega) hmx ht
      have HP : Hid (∀ w', w.grownBy w' none → Calls Tryd.prog 49 #[.int .i64 n, .string t] w' fun e w2 => e = .returned (.tuple #[.string X, .int .i64 k]) ∧ w'.grownBy w2 none) := Lib.hid fun w' g => hP w' (hmx.gb g) (ht.below (below_of g))
      have HR : Hid (∀ w', Calls Tryd.prog 50 #[.int .i64 n, .string t] w' fun e w2 => e = .returned (.tuple #[.string X, .int .i64 k]) ∧ w'.grownBy w2 none) := Lib.hid fun w' => (RParse_any n t w' (by omega)).mono fun e w2 ⟨s', k', e1, p', g⟩ => by
        obtain ⟨rfl, rfl⟩ := hp.one p'
        exact ⟨e1, g⟩
      have HT : Hid (∀ w', w.grownBy w' none → Calls Tryd.prog 47 #[.int .i64 n, .string s] w' fun e w2 => e = .returned (.tuple #[.string (teS n s), .int .i64 (chk n s)]) ∧ w'.grownBy w2 none) := Lib.hid fun w' g => Text_any n s w' hs (ht.below (below_of g))
      have HTR := Lib.hid (fun w => RText_any n s w hs)
      have HO : Hid (chk n s = 0 → ∀ w', w.grownBy w' none → Calls Tryd.prog 49 #[.int .i64 n, .string (teS n s)] w' fun e w2 => e = .returned (.tuple #[.string s, .int .i64 0]) ∧ w'.grownBy w2 none) := Lib.hid fun hc w' g => Parse_own n s w' hc (hmx.gb g) (ht.below (below_of g))
      have HX : Hid (k = 0 → ∀ w', w.grownBy w' none → Calls Tryd.prog 47 #[.int .i64 n, .string X] w' fun e w2 => e = .returned (.tuple #[.string t, .int .i64 0]) ∧ w'.grownBy w2 none) := Lib.hid fun hk w' g => by
        subst hk
        obtain ⟨g1, g2⟩ := hp.good
        have := Text_any n X w' (chk_size g1) (ht.below (below_of g))
        rwa [g1, g2] at this
      obtain ⟨a, ha⟩ : ∃ a, teS n s = a := ⟨_, rfl⟩
      obtain ⟨c, hc⟩ : ∃ c, chk n s = c := ⟨_, rfl⟩
      simp only [ha, hc] at HT HTR HO
      clear hl ht hmx h3 ha hc hp hP hs hz
      go_enter Tryd.func9, Tryd.ntmps9
      go_wp2_with fail
      refine (HL.out _).mono ?_
      rintro e w1 ⟨rfl, rfl⟩
      go_wp2_with fail
      refine (HT.out _ (gb_refl _ _)).mono ?_
      rintro e w1 ⟨rfl, g1⟩
      have G1 := Lib.hid g1
      clear g1
      go_wp2_with fail
      refine (HTR.out _).mono ?_
      rintro e w2 ⟨rfl, g⟩
      have G2 := Lib.hid (gb_trans G1.out g)
      clear g G1
      go_wp2_with fail
      refine (HP.out _ G2.out).mono ?_
      rintro e w3 ⟨rfl, g⟩
      have G3 := Lib.hid (gb_trans G2.out g)
      clear g G2
      go_wp2_with fail
      refine (HR.out _).mono ?_
      rintro e w4 ⟨rfl, g⟩
      have G4 := Lib.hid (gb_trans G3.out g)
      clear g G3
      by_cases hc : c = 0
      · subst hc
        have HO' := Lib.hid (HO.out rfl)
        clear HO
        by_cases hk : k = 0
        · subst hk
          have HX' := Lib.hid (HX.out rfl)
          clear HX
          go_wp2_with fail
          refine (HO'.out _ G4.out).mono ?_
          rintro e w5 ⟨rfl, g⟩
          have G5 := Lib.hid (gb_trans G4.out g)
          clear g G4
          go_wp2_with fail
          refine (HX'.out _ G5.out).mono ?_
          rintro e w6 ⟨rfl, g⟩
          have G6 := Lib.hid (gb_trans G5.out g)
          clear g G5
          go_wp2_with fail
          refine (HA.out _ G6.out).mono ?_
          rintro e w9 ⟨rfl, g⟩
          have G9 := Lib.hid (gb_trans G6.out g)
          clear g G6
          go_wp2
          go_ret
          exact ⟨rfl, G9.out⟩
        · have k0 : (k == 0) = false := by simpa using hk
          clear HX
          go_wp2_with fail
          refine (HO'.out _ G4.out).mono ?_
          rintro e w5 ⟨rfl, g⟩
          have G5 := Lib.hid (gb_trans G4.out g)
          clear g G4
          go_wp2_with fail
          refine (HA.out _ G5.out).mono ?_
          rintro e w9 ⟨rfl, g⟩
          have G9 := Lib.hid (gb_trans G5.out g)
          clear g G5
          go_wp2
          go_ret
          exact ⟨rfl, G9.out⟩
      · have c0 : (c == 0) = false := by simpa using hc
        clear HO
        by_cases hk : k = 0
        · subst hk
          have HX' := Lib.hid (HX.out rfl)
          clear HX
          go_wp2_with fail
          refine (HX'.out _ G4.out).mono ?_
          rintro e w6 ⟨rfl, g⟩
          have G6 := Lib.hid (gb_trans G4.out g)
          clear g G4
          go_wp2_with fail
          refine (HA.out _ G6.out).mono ?_
          rintro e w9 ⟨rfl, g⟩
          have G9 := Lib.hid (gb_trans G6.out g)
          clear g G6
          go_wp2
          go_ret
          exact ⟨rfl, G9.out⟩
        · have k0 : (k == 0) = false := by simpa using hk
          clear HX
          go_wp2_with fail
          refine (HA.out _ G4.out).mono ?_
          rintro e w9 ⟨rfl, g⟩
          have G9 := Lib.hid (gb_trans G4.out g)
          clear g G4
          go_wp2
          go_ret
          exact ⟨rfl, G9.out⟩
end Go.Proofs.YtbeaohnjifcgaaaDoor.Db
