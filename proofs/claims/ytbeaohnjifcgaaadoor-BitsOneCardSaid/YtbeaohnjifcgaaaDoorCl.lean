/-
  Fields of bits: BitsOne's walk.
-/
import Derived.Test.YtbeaohnjifcgaaaDoorCe
import Derived.Test.YtbeaohnjifcgaaaDoorCi
namespace Go.Proofs.YtbeaohnjifcgaaaDoor.Bh
open Go Go.RowKit Go.Shelf Go.Proofs.YtbeaohnjifcgaaaDoor.Sx Go.Proofs.YtbeaohnjifcgaaaDoor.Na Go.Proofs.YtbeaohnjifcgaaaDoor.Ba

/-- what Set returns: a field, its bit, and back -/
theorem set_back {n : Int} {s : ByteArray} {i : Int} (to : Bool) (h : haE n s i = 0) : (seS n s i to).size ≤ 140737488351232 ∧ haE n (seS n s i to) i = 0 ∧ haB n (seS n s i to) i = to ∧ seS n (seS n s i to) i (haB n s i) = s := by
  have h' := h
  obtain ⟨hc, N, I, rfl, rfl, h1, h2, h3⟩ := haE_ok h
  have eS : seS N s I to = tf N (upd (bt s) I to) := by unfold seS; rw [if_pos h', Int.toNat_natCast, Int.toNat_natCast]
  have eH : haE N (tf N (upd (bt s) I to)) I = 0 := by
    unfold haE
    rw [if_pos (chk_of (vd_tf _ h2)), if_neg (by omega)]
  have eB : haB N s I = bt s I := by unfold haB; rw [if_pos h', Int.toNat_natCast]
  rw [eS, eB]
  refine ⟨by rw [tf_size]; omega, eH, ?_, ?_⟩
  · unfold haB
    rw [if_pos eH, Int.toNat_natCast, bt_tf _ h1, upd_same]
  · unfold seS
    rw [if_pos eH, Int.toNat_natCast, Int.toNat_natCast]
    rw [← tf_self (chk_t hc)]
    refine tf_congr fun j hj => ?_
    unfold upd
    by_cases e : j = I
    · rw [if_pos e, e, bt_tf _ h1]
    · rw [if_neg e, bt_tf _ hj, if_neg e, bt_tf _ hj]

set_option maxRecDepth 1000000 in
set_option maxHeartbeats 4000000 in
theorem one_walk (n : Int) (s : ByteArray) (i : Int) (to : Bool) (w : World) (hs : s.size ≤ 140737488351232) (ht : Hh.Tab w) :
    Calls Tryd.prog 4 #[.int .i64 n, .string s, .int .i64 i, .bool to] w fun e w' => e = .returned (.bool true) ∧ Below w.heap.size w w' := by
  suffices H : Calls Tryd.prog 4 #[.int .i64 n, .string s, .int .i64 i, .bool to] w fun e w' => e = .returned (.bool true) ∧ w.grownBy w' none from H.mono fun e w' h => ⟨h.1, below_of h.2⟩
  have HA : Hid (∀ w', w.grownBy w' none → Calls Tryd.prog 11 #[] w' fun e w2 => e = .returned (.bool true) ∧ w'.grownBy w2 none) := Lib.hid (fun w' hg => awake_any w' (ht.below (below_of hg)))
  clear ht
  cases hl : lgt n s
  · have HL := Lib.hid (fun w => Light_w n s w _ hl)
    clear hl
    go_enter Tryd.func4, Tryd.ntmps4
    go_wp2_with fail
    refine (HL.out _).mono ?_
    rintro e w1 ⟨rfl, rfl⟩
    go_wp2_with fail
    refine (HA.out _ (gb_refl _ _)).mono ?_
    rintro e w1 ⟨rfl, hg⟩
    go_wp2
    go_ret
    exact ⟨rfl, hg⟩
  · have HL := Lib.hid (fun w => Light_w n s w _ hl)
    have HH := Lib.hid (fun w => Has_any n s i w hs)
    have HHr := Lib.hid (fun w => RHas_any n s i w hs)
    have HS := Lib.hid (fun w => Set_any n s i to w hs)
    have HSr := Lib.hid (fun w => RSet_any n s i to w hs)
    have HN := Lib.hid (fun w => Next_any n s i w hs)
    have HNr := Lib.hid (fun w => RNext_any n s i w hs)
    have HB1 : Hid (haE n s i = 0 → ∀ w, Calls Tryd.prog 20 #[.int .i64 n, .string (seS n s i to), .int .i64 i] w fun e w' => e = .returned (.tuple #[.bool to, .int .i64 0]) ∧ w.grownBy w' none) := Lib.hid (fun h w => by
      obtain ⟨h1, h2, h3, h4⟩ := set_back to h
      have := Has_any n (seS n s i to) i w h1
      rwa [h2, h3] at this)
    have HB2 : Hid (haE n s i = 0 → ∀ w, Calls Tryd.prog 22 #[.int .i64 n, .string (seS n s i to), .int .i64 i, .bool (haB n s i)] w fun e w' => e = .returned (.tuple #[.string s, .int .i64 0]) ∧ w.grownBy w' none) := Lib.hid (fun h w => by
      obtain ⟨h1, h2, h3, h4⟩ := set_back to h
      have := Set_any n (seS n s i to) i (haB n s i) w h1
      rwa [h2, h4] at this)
    obtain ⟨v1, e1⟩ : ∃ v, haB n s i = v := ⟨_, rfl⟩
    obtain ⟨v2, e2⟩ : ∃ v, haE n s i = v := ⟨_, rfl⟩
    obtain ⟨v3, e3⟩ : ∃ v, seS n s i to = v := ⟨_, rfl⟩
    obtain ⟨v4, e4⟩ : ∃ v, nxV n s i = v := ⟨_, rfl⟩
    obtain ⟨v5, e5⟩ : ∃ v, nxE n s i = v := ⟨_, rfl⟩
    simp only [e1, e2, e3, e4, e5] at HH HHr HS HSr HN HNr HB1 HB2
    clear e1 e2 e3 e4 e5 hl hs
    go_enter Tryd.func4, Tryd.ntmps4
    go_wp2_with fail
    refine (HL.out _).mono ?_
    rintro e w1 ⟨rfl, rfl⟩
    go_wp2_with fail
    refine (HH.out _).mono ?_
    rintro e w1 ⟨rfl, g1⟩
    have G1 := Lib.hid g1
    clear g1
    go_wp2_with fail
    refine (HHr.out _).mono ?_
    rintro e w2 ⟨rfl, rfl⟩
    go_wp2_with fail
    refine (HS.out _).mono ?_
    rintro e w2 ⟨rfl, g2⟩
    have G2 := Lib.hid (gb_trans G1.out g2)
    clear g2 G1
    go_wp2_with fail
    refine (HSr.out _).mono ?_
    rintro e w3 ⟨rfl, g2⟩
    have G3 := Lib.hid (gb_trans G2.out g2)
    clear g2 G2
    go_wp2_with fail
    refine (HN.out _).mono ?_
    rintro e w4 ⟨rfl, g2⟩
    have G4 := Lib.hid (gb_trans G3.out g2)
    clear g2 G3
    go_wp2_with fail
    refine (HNr.out _).mono ?_
    rintro e w5 ⟨rfl, g2⟩
    have G5 := Lib.hid (gb_trans G4.out g2)
    clear g2 G4
    by_cases he : v2 = 0
    · subst he
      have HB1' := Lib.hid (HB1.out rfl)
      have HB2' := Lib.hid (HB2.out rfl)
      clear HB1 HB2
      go_wp2_with fail
      refine (HB1'.out _).mono ?_
      rintro e w6 ⟨rfl, g2⟩
      have G6 := Lib.hid (gb_trans G5.out g2)
      clear g2 G5
      go_wp2_with fail
      refine (HB2'.out _).mono ?_
      rintro e w7 ⟨rfl, g2⟩
      have G7 := Lib.hid (gb_trans G6.out g2)
      clear g2 G6
      go_wp2_with fail
      refine (HA.out _ G7.out).mono ?_
      rintro e w9 ⟨rfl, g2⟩
      have G9 := Lib.hid (gb_trans G7.out g2)
      clear g2 G7
      go_wp2
      go_ret
      exact ⟨rfl, G9.out⟩
    · have d0 : (v2 == 0) = false := by simpa using he
      clear HB1 HB2
      go_wp2_with fail
      refine (HA.out _ G5.out).mono ?_
      rintro e w9 ⟨rfl, g2⟩
      have G9 := Lib.hid (gb_trans G5.out g2)
      clear g2 G5
      go_wp2
      go_ret
      exact ⟨rfl, G9.out⟩
end Go.Proofs.YtbeaohnjifcgaaaDoor.Bh
