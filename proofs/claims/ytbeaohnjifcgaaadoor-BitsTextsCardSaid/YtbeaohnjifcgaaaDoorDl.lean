/-
  Texts of bits: the closure of Parse that reads the pieces. (made by mk_dl.py)
-/
import Derived.Test.YtbeaohnjifcgaaaDoorDk
import Derived.Test.YtbeaohnjifcgaaaDoorCr
namespace Go.Proofs.YtbeaohnjifcgaaaDoor.Db
open Go Go.RowKit Go.Shelf Go.Proofs.YtbeaohnjifcgaaaDoor.Sx Go.Proofs.YtbeaohnjifcgaaaDoor.Na Go.Proofs.YtbeaohnjifcgaaaDoor.Ba Go.Proofs.YtbeaohnjifcgaaaDoor.Bh Go.Proofs.YtbeaohnjifcgaaaDoor.Da

theorem num_yes (N : Nat) (x : List UInt8) (w : World) (h : numO N x) : Calls Tryd.prog 100 #[.string (tx x), .int .i64 (N : Int)] w fun e w' => e = .returned (.int .i64 (numV x : Int)) ∧ w.grownBy w' none :=
  (number_any (tx x) (N : Int) w).mono fun e w' hh => ⟨by
    rcases hh.1 with ⟨_, _, e⟩ | ⟨h', _⟩
    · exact e
    · exact absurd ⟨h.1, by have := h.2; omega⟩ h', hh.2⟩
theorem num_no (N : Nat) (x : List UInt8) (w : World) (h : ¬ numO N x) : Calls Tryd.prog 100 #[.string (tx x), .int .i64 (N : Int)] w fun e w' => e = .panicked [{ v := .iface 24 (.int .i64 2), recovered := false }] ∧ w.grownBy w' none :=
  (number_any (tx x) (N : Int) w).mono fun e w' hh => ⟨by
    rcases hh.1 with ⟨h1, h2, _⟩ | ⟨_, e⟩
    · exact absurd ⟨h1, by omega⟩ h
    · exact e, hh.2⟩
/-- what the closure leaves -/
def PaPost (w0 : World) (b m : Nat) (r : Option (Nat → Bool)) : Ending → World → Prop := fun e w' =>
  (∀ γ, r = some γ → e = .returned (.tuple #[]) ∧ BG w' b m (bN γ)) ∧ (r = none → e = .panicked [{ v := .iface 24 (.int .i64 2), recovered := false }]) ∧ w0.grownBy w' none
theorem PaPost.bad {w0 w' : World} {b m : Nat} {r : Option (Nat → Bool)} (h : r = none) (hg : w0.grownBy w' none) : PaPost w0 b m r (.panicked [{ v := .iface 24 (.int .i64 2), recovered := false }]) w' :=
  ⟨fun γ e => absurd (h.symm.trans e) (by simp), fun _ => rfl, hg⟩
theorem PaPost.fine {w0 w' : World} {b m : Nat} {r : Option (Nat → Bool)} {γ : Nat → Bool} (h : some γ = r) (hb : BG w' b m (bN γ)) (hg : w0.grownBy w' none) : PaPost w0 b m r (.returned (.tuple #[])) w' := by
  subst h
  exact ⟨fun γ' e => ⟨rfl, by rw [← Option.some.inj e]; exact hb⟩, fun e => absurd e (by simp), hg⟩
theorem drop_at (P : List (List UInt8)) (k : Nat) (h : k < P.length) : P.drop k = P.getD k [] :: P.drop (k + 1) := by
  rw [List.drop_eq_getElem_cons h]
  simp [List.getD, h]

set_option maxRecDepth 1000000 in
set_option maxHeartbeats 8000000 in
theorem Pa_any (N m : Nat) (hm : (N + 7) / 8 = m) (hN : N ≤ 4096) (t : ByteArray) (ht3 : t.size ≤ 65536) (b cs cn : Nat) (w0 w : World) (hcs : w0.cell? ⟨cs, 0, none⟩ = some (.string t)) (hcn : w0.cell? ⟨cn, 0, none⟩ = some (.int .i64 (N : Int))) (hmx : Mx w0)
    (hb : BG w b m fun _ => 0) (hg : w0.grownBy w none) (hbz : w0.heap.size ≤ b) :
    Calls Tryd.prog 97 #[.slice (some ⟨b, 0, none⟩) m m, .pointer (some ⟨cs, 0, none⟩), .pointer (some ⟨cn, 0, none⟩)] w (PaPost w0 b m (parL N (cutL 44 t.data.toList) fun _ => false)) := by
  have HS := Lib.hid (Split_any t w (by omega) (hmx.gb hg))
  have HCS : Hid (∀ w', w0.grownBy w' none → w'.cell? ⟨cs, 0, none⟩ = some (.string t)) := Lib.hid fun w' g => gb_cell g hcs (by simp)
  have HCN : Hid (∀ w', w0.grownBy w' none → w'.cell? ⟨cn, 0, none⟩ = some (.int .i64 (N : Int))) := Lib.hid fun w' g => gb_cell g hcn (by simp)
  have HCU : Hid (∀ x : List UInt8, x.length ≤ 65536 → ∀ w', w0.grownBy w' none → Calls Tryd.prog 99 #[.string (tx x), .string ⟨#[45]⟩] w' fun e w2 => e = .returned (.tuple #[.string (tx (Lib.cut x [45]).1), .string (tx (Lib.cut x [45]).2.1), .bool (Lib.cut x [45]).2.2]) ∧ w'.grownBy w2 none) := Lib.hid fun x hx w' g => CutS_any (tx x) w' (by rw [tx_size]; omega) (hmx.gb g)
  have hcl := cutL_len 44 t.data.toList
  rw [len_data] at hcl
  have hct := count_cut 44 t
  have hsp := split_cut 44 t.size t (Nat.le_refl _)
  rw [hsp, hct] at HS
  obtain ⟨P, hP⟩ : ∃ P, cutL 44 t.data.toList = P := ⟨_, rfl⟩
  rw [hP] at hcl HS ⊢
  obtain ⟨r, hr⟩ : ∃ r, parL N P (fun _ => false) = r := ⟨_, rfl⟩
  have HR0 : Hid (parL N (P.drop 0) (fun _ => false) = r) := Lib.hid hr
  rw [hr]
  have HPL : Hid (∀ k, k < P.length → (P.getD k []).length ≤ 65536) := Lib.hid (fun k hk => by
    have := hcl.1 (P.getD k []) (by simp [List.getD, hk])
    omega)
  have hPl : P.length ≤ 65537 := by omega
  have HG0 := Lib.hid hg
  have HBZ := Lib.hid hbz
  have hcs0 := HCS.out w hg
  have hbw : b < w.heap.size := hb.lt
  have HB0 : Hid (BG w b m (bN fun _ => false)) := Lib.hid hb
  have HM := Lib.hid hm
  have hm5 : m ≤ 512 := by omega
  obtain ⟨len, hlen⟩ : ∃ len, P.length = len := ⟨_, rfl⟩
  have HLE := Lib.hid hlen
  rw [hlen] at HPL hPl HS
  clear hP hr hcl hct hsp hcs hcn hmx hb hg hm hlen hbz
  go_enter Tryd.func97, Tryd.ntmps97
  go_wp2_with fail
  refine HS.out.mono ?_
  rintro e w1 ⟨rfl, rfl⟩
  obtain ⟨w1, hw1⟩ : ∃ w1, w.alloc (.cells ((P.map tx).map Value.string).toArray 9) = w1 := ⟨_, rfl⟩
  obtain ⟨gS, hgS⟩ : ∃ gS, w.heap.size = gS := ⟨_, rfl⟩
  have HG1 : Hid (w0.grownBy w1 none) := Lib.hid (by rw [← hw1]; exact gb_trans HG0.out (gb_alloc _ _ _))
  have HB1 : Hid (BG w1 b m (bN fun _ => false)) := Lib.hid (by rw [← hw1]; exact HB0.out.kept (gb_alloc _ _ none) (by simp))
  have HRC : Hid (∀ wr, w1.grownBy wr (some b) → ∀ k, k < len → wr.cell? ⟨gS, k, none⟩ = some (.string (tx (P.getD k [])))) := Lib.hid (fun wr g k hk => by
    refine gb_cell g ?_ (by simp; omega)
    rw [← hw1, ← hgS]
    exact cell_at (World.alloc_heap_new w _) (by simp [List.getD, show k < P.length by have := HLE.out; omega]))
  rw [hw1, hgS]
  clear hw1 hgS hbw hcs0
  go_wp2_with fail
  go_loopw [5, 6, 7, 8, 9, 10, 11, 15] (fun _ _ _ _ _ _ _ i wr => ∃ (k : Nat) (β : Nat → Bool), k ≤ len ∧ i = .int .i64 (k : Int) ∧ Hid (BG wr b m (bN β)) ∧ Hid (w1.grownBy wr (some b)) ∧ Hid (parL N (P.drop k) β = r)) (fun _ _ _ _ _ _ _ i _ => len - (intOf i).toNat)
  case atStart => exact ⟨0, _, Nat.zero_le _, rfl, HB1, Lib.hid (gb_refl _ _), HR0⟩
  case round =>
    obtain ⟨k, β, hk, rfl, HBk, HGk, HRk⟩ := hrel
    have HW0 : Hid (∀ wr, w1.grownBy wr (some b) → w0.grownBy wr none) := Lib.hid (fun wr g => gb_mark HG1.out g HBZ.out)
    by_cases hlt : k < len
    · have hlt' : (k : Int) < (len : Int) := by omega
      have ck := HRC.out wr HGk.out k hlt
      have hpk := HPL.out k hlt
      have hrk := HRk.out
      rw [drop_at P k (by rw [HLE.out]; exact hlt)] at hrk
      obtain ⟨pk, hpke⟩ : ∃ pk, P.getD k [] = pk := ⟨_, rfl⟩
      rw [hpke] at ck hpk hrk
      have HC := Lib.hid (HCU.out pk hpk wr (HW0.out wr HGk.out))
      have Hno1 := fun h => parL_none (r := P.drop (k + 1)) (β := β) (pp_no1 (N := N) (p := pk) h)
      have Hone := fun h hl => parL_some (r := P.drop (k + 1)) (β := β) (pp_one (N := N) (p := pk) h hl)
      have Hno2 := fun h hl h2 => parL_none (r := P.drop (k + 1)) (β := β) (pp_no2 (N := N) (p := pk) h hl h2)
      have Htwo := fun h hl h2 => parL_some (r := P.drop (k + 1)) (β := β) (pp_two (N := N) (p := pk) h hl h2)
      obtain ⟨F, hF⟩ : ∃ F, (Lib.cut pk [45]).1 = F := ⟨_, rfl⟩
      obtain ⟨T, hT⟩ : ∃ T, (Lib.cut pk [45]).2.1 = T := ⟨_, rfl⟩
      obtain ⟨D, hD⟩ : ∃ D, (Lib.cut pk [45]).2.2 = D := ⟨_, rfl⟩
      simp only [hF, hT, hD] at HC Hno1 Hone Hno2 Htwo
      clear hF hT hD hpke
      have hzp := tx_size pk
      have hzf := tx_size F
      by_cases h1 : numO N F
      · have HN1 := Lib.hid (fun w => num_yes N F w h1)
        have hA : numV F < N := h1.2
        by_cases hl : F.length < pk.length
        · have dl : ((tx F).size : Int) < ((tx pk).size : Int) := by omega
          by_cases h2 : numO N T
          · have HN2 := Lib.hid (fun w => num_yes N T w h2)
            have hZ : numV T < N := h2.2
            have HRR := Lib.hid ((Htwo h1 hl h2).symm.trans hrk)
            obtain ⟨A, hAe⟩ : ∃ A, numV F = A := ⟨_, rfl⟩
            obtain ⟨Z, hZe⟩ : ∃ Z, numV T = Z := ⟨_, rfl⟩
            simp only [hAe, hZe] at HN1 HN2 hA hZ HRR
            clear hAe hZe h1 h2 hl Hno1 Hone Hno2 Htwo hrk hzp hzf
            go_wp2_with fail
            refine HC.out.mono ?_
            rintro e w2 ⟨rfl, g2⟩
            have HG2 : Hid (w1.grownBy w2 (some b)) := Lib.hid (gb_trans HGk.out (gb_none g2 _))
            have HB2 : Hid (BG w2 b m (bN β)) := Lib.hid (HBk.out.kept g2 (by simp))
            have cn2 := HCN.out w2 (HW0.out _ HG2.out)
            clear g2 ck
            go_wp2_with fail
            refine (HN1.out _).mono ?_
            rintro e w3 ⟨rfl, g3⟩
            have HG3 : Hid (w1.grownBy w3 (some b)) := Lib.hid (gb_trans HG2.out (gb_none g3 _))
            have HB3 : Hid (BG w3 b m (bN β)) := Lib.hid (HB2.out.kept g3 (by simp))
            have cn3 := HCN.out w3 (HW0.out _ HG3.out)
            clear g3 cn2
            go_wp2_with fail
            refine (HN2.out _).mono ?_
            rintro e w4 ⟨rfl, g4⟩
            have HG4 : Hid (w1.grownBy w4 (some b)) := Lib.hid (gb_trans HG3.out (gb_none g4 _))
            have HB4 : Hid (BG w4 b m (bN β)) := Lib.hid (HB3.out.kept g4 (by simp))
            clear g4 cn3
            go_wp2_with fail
            have HB5 : Hid (BG w4 b m (bN (setR β A 0))) := Lib.hid (by rw [setR_zero]; exact HB4.out)
            obtain ⟨C, hC⟩ : ∃ C, Z + 1 - A = C := ⟨_, rfl⟩
            rw [hC] at HRR
            have HCC := Lib.hid hC
            clear hC
            go_loopw [11] (fun i wr => ∃ t : Nat, t ≤ C ∧ i = .int .i64 ((A + t : Nat) : Int) ∧ Hid (BG wr b m (bN (setR β A t))) ∧ Hid (w1.grownBy wr (some b))) (fun i _ => A + C - (intOf i).toNat)
            case atStart => exact ⟨0, Nat.zero_le _, rfl, HB5, HG4⟩
            case round =>
              clear HB5
              obtain ⟨t, ht, rfl, HB6, HG6⟩ := hrel
              by_cases htl : t < C
              · have q1 : ((A + t : Nat) : Int) ≤ (Z : Int) := by have := HCC.out; omega
                have HRA := Lib.hid (raise_any b m (A + t) (setR β A t) wr HB6.out (by have := HM.out; have := HCC.out; omega) hm5)
                rw [setR_succ] at HRA
                obtain ⟨x, hx⟩ : ∃ x, A + t = x := ⟨_, rfl⟩
                have HX := Lib.hid hx
                simp only [hx] at q1 HRA ⊢
                have hx5 : x ≤ 5000 := by omega
                clear hx
                go_wp2_with fail
                refine HRA.out.mono ?_
                rintro e w6 ⟨rfl, hb6, hg6⟩
                have HB7 := Lib.hid hb6
                have HG7 : Hid (w1.grownBy w6 (some b)) := Lib.hid (gb_trans HG6.out hg6)
                clear hb6 hg6
                go_wp2_with fail
                exact ⟨⟨t + 1, by omega, by have := HX.out; first | (congr 1; omega) | (simp; omega), HB7, HG7⟩, by have := HX.out; simp [intOf]; omega⟩
              · obtain rfl : t = C := by omega
                have q1 : ¬ ((A + t : Nat) : Int) ≤ (Z : Int) := by have := HCC.out; omega
                obtain ⟨x, hx⟩ : ∃ x, A + t = x := ⟨_, rfl⟩
                have HX := Lib.hid hx
                simp only [hx] at q1 ⊢
                clear hx
                go_wp2_with fail
                exact ⟨⟨k + 1, _, by omega, by go_num, HB6, HG6, HRR⟩, by simp [intOf]; omega⟩
          · have HN2 := Lib.hid (fun w => num_no N T w h2)
            have HRR := Lib.hid ((Hno2 h1 hl h2).symm.trans hrk)
            obtain ⟨A, hAe⟩ : ∃ A, numV F = A := ⟨_, rfl⟩
            simp only [hAe] at HN1 hA
            clear hAe h1 h2 hl Hno1 Hone Hno2 Htwo hrk hzp hzf
            go_wp2_with fail
            refine HC.out.mono ?_
            rintro e w2 ⟨rfl, g2⟩
            have HG2 : Hid (w1.grownBy w2 (some b)) := Lib.hid (gb_trans HGk.out (gb_none g2 _))
            have HB2 : Hid (BG w2 b m (bN β)) := Lib.hid (HBk.out.kept g2 (by simp))
            have cn2 := HCN.out w2 (HW0.out _ HG2.out)
            clear g2 ck
            go_wp2_with fail
            refine (HN1.out _).mono ?_
            rintro e w3 ⟨rfl, g3⟩
            have HG3 : Hid (w1.grownBy w3 (some b)) := Lib.hid (gb_trans HG2.out (gb_none g3 _))
            have HB3 : Hid (BG w3 b m (bN β)) := Lib.hid (HB2.out.kept g3 (by simp))
            have cn3 := HCN.out w3 (HW0.out _ HG3.out)
            clear g3 cn2
            go_wp2_with fail
            refine (HN2.out _).mono ?_
            rintro e w4 ⟨rfl, g4⟩
            exact ⟨rfl, PaPost.bad HRR.out.symm (gb_trans (HW0.out _ HG3.out) g4)⟩
        · have dl : ¬ ((tx F).size : Int) < ((tx pk).size : Int) := by omega
          have dl2 : decide ((tx F).size < (tx pk).size) = false := decide_eq_false (by omega)
          have HRR := Lib.hid ((Hone h1 hl).symm.trans hrk)
          obtain ⟨A, hAe⟩ : ∃ A, numV F = A := ⟨_, rfl⟩
          simp only [hAe] at HN1 hA HRR
          clear hAe h1 hl Hno1 Hone Hno2 Htwo hrk hzp hzf
          go_wp2_with fail
          refine HC.out.mono ?_
          rintro e w2 ⟨rfl, g2⟩
          have HG2 : Hid (w1.grownBy w2 (some b)) := Lib.hid (gb_trans HGk.out (gb_none g2 _))
          have HB2 : Hid (BG w2 b m (bN β)) := Lib.hid (HBk.out.kept g2 (by simp))
          have cn2 := HCN.out w2 (HW0.out _ HG2.out)
          clear g2 ck
          go_wp2_with fail
          refine (HN1.out _).mono ?_
          rintro e w3 ⟨rfl, g3⟩
          have HG3 : Hid (w1.grownBy w3 (some b)) := Lib.hid (gb_trans HG2.out (gb_none g3 _))
          have HB3 : Hid (BG w3 b m (bN β)) := Lib.hid (HB2.out.kept g3 (by simp))
          have cn3 := HCN.out w3 (HW0.out _ HG3.out)
          clear g3 cn2
          go_wp2_with fail
          have HB5 : Hid (BG w3 b m (bN (setR β A 0))) := Lib.hid (by rw [setR_zero]; exact HB3.out)
          obtain ⟨C, hC⟩ : ∃ C : Nat, 1 = C := ⟨_, rfl⟩
          replace HRR : Hid (parL N (P.drop (k + 1)) (setR β A C) = r) := Lib.hid (by rw [← hC]; exact HRR.out)
          have HCC := Lib.hid hC
          clear hC
          go_loopw [11] (fun i wr => ∃ t : Nat, t ≤ C ∧ i = .int .i64 ((A + t : Nat) : Int) ∧ Hid (BG wr b m (bN (setR β A t))) ∧ Hid (w1.grownBy wr (some b))) (fun i _ => A + C - (intOf i).toNat)
          case atStart => exact ⟨0, Nat.zero_le _, rfl, HB5, HG3⟩
          case round =>
            clear HB5
            obtain ⟨t, ht, rfl, HB6, HG6⟩ := hrel
            by_cases htl : t < C
            · have q1 : ((A + t : Nat) : Int) ≤ (A : Int) := by have := HCC.out; omega
              have HRA := Lib.hid (raise_any b m (A + t) (setR β A t) wr HB6.out (by have := HM.out; have := HCC.out; omega) hm5)
              rw [setR_succ] at HRA
              obtain ⟨x, hx⟩ : ∃ x, A + t = x := ⟨_, rfl⟩
              have HX := Lib.hid hx
              simp only [hx] at q1 HRA ⊢
              have hx5 : x ≤ 5000 := by omega
              clear hx
              go_wp2_with fail
              refine HRA.out.mono ?_
              rintro e w6 ⟨rfl, hb6, hg6⟩
              have HB7 := Lib.hid hb6
              have HG7 : Hid (w1.grownBy w6 (some b)) := Lib.hid (gb_trans HG6.out hg6)
              clear hb6 hg6
              go_wp2_with fail
              exact ⟨⟨t + 1, by omega, by have := HX.out; first | (congr 1; omega) | (simp; omega), HB7, HG7⟩, by have := HX.out; simp [intOf]; omega⟩
            · obtain rfl : t = C := by omega
              have q1 : ¬ ((A + t : Nat) : Int) ≤ (A : Int) := by have := HCC.out; omega
              obtain ⟨x, hx⟩ : ∃ x, A + t = x := ⟨_, rfl⟩
              have HX := Lib.hid hx
              simp only [hx] at q1 ⊢
              clear hx
              go_wp2_with fail
              exact ⟨⟨k + 1, _, by omega, by go_num, HB6, HG6, HRR⟩, by simp [intOf]; omega⟩
      · have HN1 := Lib.hid (fun w => num_no N F w h1)
        have HRR := Lib.hid ((Hno1 h1).symm.trans hrk)
        clear h1 Hno1 Hone Hno2 Htwo hrk
        go_wp2_with fail
        refine HC.out.mono ?_
        rintro e w2 ⟨rfl, g2⟩
        have HG2 : Hid (w1.grownBy w2 (some b)) := Lib.hid (gb_trans HGk.out (gb_none g2 _))
        have HB2 : Hid (BG w2 b m (bN β)) := Lib.hid (HBk.out.kept g2 (by simp))
        have cn2 := HCN.out w2 (HW0.out _ HG2.out)
        clear g2 ck
        go_wp2_with fail
        refine (HN1.out _).mono ?_
        rintro e w3 ⟨rfl, g3⟩
        exact ⟨rfl, PaPost.bad HRR.out.symm (gb_trans (HW0.out _ HG2.out) g3)⟩
    · obtain rfl : k = len := by omega
      have hnlt : ¬ ((k : Int) < (k : Int)) := by omega
      have hrk := HRk.out
      rw [List.drop_of_length_le (by rw [HLE.out]; exact Nat.le_refl _)] at hrk
      have HRR : Hid (some β = r) := Lib.hid hrk
      clear hrk
      go_wp2_with fail
      go_end0
      exact PaPost.fine HRR.out HBk.out (HW0.out _ HGk.out)
end Go.Proofs.YtbeaohnjifcgaaaDoor.Db
