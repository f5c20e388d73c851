/-
  Texts of bits: the reference's Parse. (made by mk_dg.py)
-/
import Derived.Test.YtbeaohnjifcgaaaDoorDf
import Derived.Test.YtbeaohnjifcgaaaDoorCq
namespace Go.Proofs.YtbeaohnjifcgaaaDoor.Db
open Go Go.RowKit Go.Shelf Go.Proofs.YtbeaohnjifcgaaaDoor.Sx Go.Proofs.YtbeaohnjifcgaaaDoor.Na Go.Proofs.YtbeaohnjifcgaaaDoor.Ba Go.Proofs.YtbeaohnjifcgaaaDoor.Bh Go.Proofs.YtbeaohnjifcgaaaDoor.Da

theorem ends_one {p : Nat × Nat} {x : List UInt8} (h : cutL 45 (itm p) = [x]) (hp : 1 ≤ p.2) : tx x = Hh.dec p.1 ∧ p.2 = 1 := by
  rw [itm_cut] at h
  split at h
  · simp at h
  · simp only [List.cons.injEq, and_true] at h
    exact ⟨by rw [← h]; exact bx rfl, by omega⟩
theorem ends_two {p : Nat × Nat} {x y : List UInt8} (h : cutL 45 (itm p) = [x, y]) : tx x = Hh.dec p.1 ∧ tx y = Hh.dec (p.1 + p.2 - 1) := by
  rw [itm_cut] at h
  split at h
  · simp only [List.cons.injEq, and_true] at h
    exact ⟨by rw [← h.1]; exact bx rfl, by rw [← h.2]; exact bx rfl⟩
  · simp at h
theorem ends_more {p : Nat × Nat} : (cutL 45 (itm p)).length ≤ 2 := by
  rw [itm_cut]
  split <;> simp
theorem dig_of {x : List UInt8} {k : Nat} {v : Int} (hx : tx x = Hh.dec k) (hk : k ≤ 4096) (h : canon (tx x) → v = (nv (tx x) (tx x).size : Int)) : v = (k : Int) := by
  rw [hx] at h
  have := dec_canon k hk
  rw [h this.1, this.2]
theorem OS.at_n {w : World} {base n : Nat} {v : Value} {l : List (List UInt8)} (h : OS w base v l) (hn : l.length = n) (h0 : 0 < n) : ∃ g cap, v = .slice (some ⟨g, 0, none⟩) n cap ∧ base ≤ g ∧ g < w.heap.size ∧ ∀ i, i < n → w.cell? ⟨g, i, none⟩ = some (.string (tx (l.getD i []))) := by
  subst hn
  exact h.at_ h0
theorem RI_snoc (l : List (Nat × Nat)) (p : Nat × Nat) : RI (l ++ [p]) = RI l ++ [((p.1 : Int), (p.2 : Int))] := by simp [RI]
theorem tx_size (l : List UInt8) : (tx l).size = l.length := by rw [← len_data, tx_data]

set_option maxRecDepth 1000000 in
set_option maxHeartbeats 8000000 in
theorem RParse_main (n : Int) (t : ByteArray) (w : World) (hr : rgt n = true) (h3 : t.size ≤ 3000) (h0 : t.toList.isEmpty = false) :
    Calls Tryd.prog 50 #[.int .i64 n, .string t] w fun e w' => ∃ s k, e = .returned (.tuple #[.string s, .int .i64 k]) ∧ PR n t s k ∧ w.grownBy w' none := by
  obtain ⟨i0, hi, hz0, hz1, hz2⟩ := info_parts run_info
  have hne : t.data.toList ≠ [] := fun e => by rw [ByteArray.toList_eq, e] at h0; exact absurd h0 (by decide)
  have HRT := Lib.hid (fun w => right_t n w hr)
  have HDG := Lib.hid (fun s hs w => Digits_any s w hs)
  have HFR := Lib.hid (fun l a cap w hz hl => RFromRuns_any n (RI l) a cap w hz hl)
  have HTX := Lib.hid (fun s hs w => RText_any n s w hs)
  have HC0 : Hid (∀ w, Calls Tryd.prog 101 #[.string t, .int .u8 44] w fun e w' => ∃ v, e = .returned v ∧ OS w' w.heap.size v (cutL 44 t.data.toList) ∧ Below w.heap.size w w') := Lib.hid fun w => Cut_any t 44 w (by omega)
  have HC1 : Hid (∀ s : ByteArray, s.size ≤ 100000 → ∀ w, Calls Tryd.prog 101 #[.string s, .int .u8 45] w fun e w' => ∃ v, e = .returned v ∧ OS w' w.heap.size v (cutL 45 s.data.toList) ∧ Below w.heap.size w w') := Lib.hid fun s hs w => Cut_any s 45 w hs
  have HGP := Lib.hid (fun f (g : good n t f) k hk => good_piece g hne k hk)
  have HGL := Lib.hid (fun f (g : good n t f) => good_len g hne)
  have hcl := cutL_len 44 t.data.toList
  rw [len_data] at hcl
  have hcn := cutL_ne 44 t.data.toList
  obtain ⟨P, hP⟩ : ∃ P, cutL 44 t.data.toList = P := ⟨_, rfl⟩
  rw [hP] at hcl hcn
  simp only [hP] at HC0 HGP HGL
  have hpos : 0 < P.length := List.length_pos_iff.2 hcn
  have hPl : P.length ≤ 3001 := by omega
  have HPL : Hid (∀ k, k < P.length → (P.getD k []).length ≤ 3000) := Lib.hid (fun k hk => by
    have := hcl.1 (P.getD k []) (by simp [List.getD, hk])
    omega)
  have ht1 : ¬ (65536 : Int) < (t.size : Int) := by omega
  clear hP hcl hcn hne
  go_enter Tryd.func50, Tryd.ntmps50
  go_wp2_with fail
  refine (HRT.out _).mono ?_
  rintro e w0 ⟨rfl, rfl⟩
  go_wp2_with fail
  refine (HC0.out _).mono ?_
  rintro e w1 ⟨v, rfl, hos, hb1⟩
  obtain ⟨g, cap, rfl, hgb, hgs, hgc⟩ := hos.at_ hpos
  have HG1 : Hid (w.grownBy w1 none) := Lib.hid (gb_below hb1 none)
  have HGC : Hid (∀ wr, Below w1.heap.size w1 wr → ∀ k, k < P.length → wr.cell? ⟨g, k, none⟩ = some (.string (tx (P.getD k [])))) := Lib.hid (fun wr hb k hk => by rw [hb.cell (p := ⟨g, k, none⟩) hgs]; exact hgc k hk)
  obtain ⟨len, hlen⟩ : ∃ len, P.length = len := ⟨_, rfl⟩
  simp only [hlen] at HGC HPL HGP HGL hpos hPl ⊢
  clear hos hb1 hgc hlen hgb
  go_wp2_with fail
  go_loopw [6, 8, 9, 10, 11, 34] (fun v _ _ _ _ i wr => ∃ (k : Nat) (ls : List (Nat × Nat)), k ≤ len ∧ ls.length = k ∧ i = .int .i64 (k : Int) ∧ OU wr w1.heap.size v ls ∧ Below w1.heap.size w1 wr ∧ Hid (∀ f, good n t f → ls = (ruL n f).take k)) (fun _ _ _ _ _ i _ => len - (intOf i).toNat)
  case atStart => exact ⟨0, [], by omega, rfl, rfl, OU_nil _ _, Below.refl _ _, Lib.hid (fun f _ => rfl)⟩
  case round =>
    obtain ⟨k, ls, hk, hlk, rfl, hown, hbl, HL⟩ := hrel
    have hsz := hbl.size
    by_cases hlt : k < len
    · have hlt' : (k : Int) < (len : Int) := by omega
      have ck := HGC.out wr hbl k hlt
      have hpk := HPL.out k hlt
      have HPK := Lib.hid (fun f (g : good n t f) => HGP.out f g k hlt)
      obtain ⟨pk, hpke⟩ : ∃ pk, P.getD k [] = pk := ⟨_, rfl⟩
      rw [hpke] at ck hpk
      simp only [hpke] at HPK
      have HC2 := Lib.hid (HC1.out (tx pk) (by rw [tx_size]; omega))
      rw [tx_data] at HC2
      have hel := cutL_len 45 pk
      have hen := cutL_ne 45 pk
      have HEM : Hid (2 < (cutL 45 pk).length → ∀ f, ¬ good n t f) := Lib.hid (fun h f gf => by
        obtain ⟨p, _, e, _⟩ := HPK.out f gf
        rw [e] at h
        have := ends_more (p := p)
        omega)
      have HE1 : Hid (∀ x, cutL 45 pk = [x] → ∀ f, good n t f → ∃ p, (ruL n f).take (k + 1) = (ruL n f).take k ++ [p] ∧ p.1 ≤ 4096 ∧ tx x = Hh.dec p.1 ∧ p.2 = 1) := Lib.hid (fun x hx f gf => by
        obtain ⟨p, e1, e2, e3, e4⟩ := HPK.out f gf
        rw [e2] at hx
        obtain ⟨q1, q2⟩ := ends_one hx e3
        exact ⟨p, e1, by omega, q1, q2⟩)
      have HE2 : Hid (∀ x y, cutL 45 pk = [x, y] → ∀ f, good n t f → ∃ p, (ruL n f).take (k + 1) = (ruL n f).take k ++ [p] ∧ p.1 + p.2 ≤ 4096 ∧ 1 ≤ p.2 ∧ tx x = Hh.dec p.1 ∧ tx y = Hh.dec (p.1 + p.2 - 1)) := Lib.hid (fun x y hx f gf => by
        obtain ⟨p, e1, e2, e3, e4⟩ := HPK.out f gf
        rw [e2] at hx
        obtain ⟨q1, q2⟩ := ends_two hx
        exact ⟨p, e1, e4, e3, q1, q2⟩)
      obtain ⟨E, hE⟩ : ∃ E, cutL 45 pk = E := ⟨_, rfl⟩
      rw [hE] at hel hen
      simp only [hE] at HC2 HEM HE1 HE2
      have hE0 : 0 < E.length := List.length_pos_iff.2 hen
      have HES : Hid (∀ x ∈ E, (tx x).size ≤ 100000) := Lib.hid (fun x hx => by rw [tx_size]; have := hel.1 x hx; omega)
      have hel2 : E.length ≤ 3001 := by omega
      clear hE hpke HPK hel hen
      rcases E with _ | ⟨x, _ | ⟨y, _ | ⟨z, r⟩⟩⟩
      · exact absurd hE0 (by simp)
      · go_wp2_with fail
        refine (HC2.out _).mono ?_
        rintro e w2 ⟨v2, rfl, hos2, hb2⟩
        obtain ⟨g2, cap2, rfl, hg2b, hg2s, hg2c⟩ := hos2.at_n (n := 1) rfl (by omega)
        have hou2 : OU w2 w1.heap.size u6 ls := hown.kept (gb_below hb2 none) (by cases h : u6.ownBlock <;> simp)
        have hbl2 : Below w1.heap.size w1 w2 := hbl.grown (gb_below hb2 none) hsz (fun _ e => by cases e)
        have hs2 : w1.heap.size ≤ w2.heap.size := hbl2.size
        have c0 : w2.cell? ⟨g2, 0, none⟩ = some (.string (tx x)) := hg2c 0 (by omega)
        have HSX := HES.out x (by simp)
        have HOU2 := Lib.hid hou2
        have HBL2 := Lib.hid hbl2
        clear hos2 hb2 hou2 hbl2 hown hbl hg2c hg2b
        go_wp2_with fail
        refine (HDG.out _ HSX _).mono ?_
        rintro e w3 ⟨⟨va, rfl, a1, a2, a3⟩, hg3⟩
        have c3 := gb_cell hg3 c0 (by simp)
        have HA3 := Lib.hid a3
        have HG3 := Lib.hid hg3
        clear hg3 a3
        go_wp2_with fail
        refine (HDG.out _ HSX _).mono ?_
        rintro e w4 ⟨⟨vb, rfl, b1, b2, b3⟩, hg4⟩
        have HOU4 : Hid (OU w4 w1.heap.size u6 ls) := Lib.hid ((HOU2.out.kept HG3.out (by cases h : u6.ownBlock <;> simp)).kept hg4 (by cases h : u6.ownBlock <;> simp))
        have HBL4 : Hid (Below w1.heap.size w1 w4) := Lib.hid ((HBL2.out.grown HG3.out hs2 (fun _ e => by cases e)).grown hg4 (by have := HG3.out.size; omega) (fun _ e => by cases e))
        have HB3 := Lib.hid b3
        clear hg4 b3
        have HV : Hid (∀ f, good n t f → ∃ p, (ruL n f).take (k + 1) = (ruL n f).take k ++ [p] ∧ va = (p.1 : Int) ∧ vb = (p.1 : Int) + (p.2 : Int) - 1 ∧ 1 ≤ p.2) := Lib.hid (fun f gf => by
          obtain ⟨p, e1, e2, e3, e4⟩ := HE1.out x rfl f gf
          refine ⟨p, e1, dig_of e3 (by omega) HA3.out, ?_, by omega⟩
          rw [dig_of e3 (by omega) HB3.out]; omega)
        clear HC2 HEM HE1 HE2
        by_cases ha : va < 0
        · have d1 : decide (va < 0) = true := by simp; omega
          go_wp2_with fail
          go_ret2
          exact ⟨⟨#[]⟩, 2, rfl, PR.no (fun f gf => by obtain ⟨p, _, e2, e3, e4⟩ := HV.out f gf; omega), gb_trans HG1.out (gb_below HBL4.out none)⟩
        have d1 : decide (va < 0) = false := by simp; omega
        by_cases hb : vb < 0
        · have d2 : decide (vb < 0) = true := by simp; omega
          go_wp2_with fail
          go_ret2
          exact ⟨⟨#[]⟩, 2, rfl, PR.no (fun f gf => by obtain ⟨p, _, e2, e3, e4⟩ := HV.out f gf; omega), gb_trans HG1.out (gb_below HBL4.out none)⟩
        have d2 : decide (vb < 0) = false := by simp; omega
        by_cases hc : vb < va
        · have d3 : decide (vb < va) = true := by simp; omega
          go_wp2_with fail
          go_ret2
          exact ⟨⟨#[]⟩, 2, rfl, PR.no (fun f gf => by obtain ⟨p, _, e2, e3, e4⟩ := HV.out f gf; omega), gb_trans HG1.out (gb_below HBL4.out none)⟩
        have d3 : decide (vb < va) = false := by simp; omega
        obtain ⟨A, rfl⟩ : ∃ A : Nat, va = A := ⟨va.toNat, by omega⟩
        obtain ⟨B, rfl⟩ : ∃ B : Nat, vb = B := ⟨vb.toNat, by omega⟩
        obtain ⟨C, hC⟩ : ∃ C : Nat, (B : Int) - (A : Int) + 1 = (C : Int) := ⟨B - A + 1, by omega⟩
        have HL2 : Hid (∀ f, good n t f → ls ++ [(A, C)] = (ruL n f).take (k + 1)) := Lib.hid (fun f gf => by
          obtain ⟨p, e1, e2, e3, e4⟩ := HV.out f gf
          rw [e1, HL.out f gf, show p = (A, C) from Prod.ext (by simp; omega) (by simp; omega)])
        have hs4 : w1.heap.size ≤ w4.heap.size := HBL4.out.size
        have hown1 := World.ownsRow.alloc HOU4.out (.cells #[.int .i64 (A : Int), .int .i64 (C : Int)] 85)
        have hbl1 : Below w1.heap.size w1 (w4.alloc (.cells #[.int .i64 (A : Int), .int .i64 (C : Int)] 85)) := HBL4.out.alloc hs4 _
        have hs1 : w1.heap.size ≤ (w4.alloc (.cells #[.int .i64 (A : Int), .int .i64 (C : Int)] 85)).heap.size := by simp; omega
        have hsum : (B : Int) - (A : Int) = (C : Int) - 1 := by omega
        have d4 : ¬ (B : Int) < (A : Int) := by omega
        have d5 : (A : Int) ≤ (B : Int) := by omega
        have d6 : A ≤ B := by omega
        have d7 : ¬ B < A := by omega
        clear ha hb hc HV
        go_wp2_with (at_builtin; refine wpList_append_own_at _ rfl _ _ 45 rfl w1.heap.size 85 i0 (.agg #[.int .i64 0, .int .i64 0]) 2 16 Tryd.underlying45 hi hz0 hz1 hz2 rfl (by decide) _ _ _ rfl hown1 ⟨w4.heap.size, 0, none⟩ 1 1 [.int .i64 (A : Int), .int .i64 (C : Int)] rfl rfl (cells_two _ _ _ _) (by simp [Value.oneCell']) (by unfold maxLen; omega) (by omega) hs1 ?_; intro v' w5 hown' hgrow _ hat; have hbl2 := hbl1.grown hgrow hs1 (fun j e => (World.ownsRow.lt hown1 j e).1); have hown2 : OU w5 w1.heap.size v' (ls ++ [(A, C)]) := (by unfold OU; rw [rC_snoc, List.length_append]; exact hown'))
        exact ⟨⟨k + 1, ls ++ [(A, C)], by omega, by rw [List.length_append]; simp; omega, by go_num, hown2, hbl2, HL2⟩, by simp [intOf]; omega⟩
      · go_wp2_with fail
        refine (HC2.out _).mono ?_
        rintro e w2 ⟨v2, rfl, hos2, hb2⟩
        obtain ⟨g2, cap2, rfl, hg2b, hg2s, hg2c⟩ := hos2.at_n (n := 2) rfl (by omega)
        have hou2 : OU w2 w1.heap.size u6 ls := hown.kept (gb_below hb2 none) (by cases h : u6.ownBlock <;> simp)
        have hbl2 : Below w1.heap.size w1 w2 := hbl.grown (gb_below hb2 none) hsz (fun _ e => by cases e)
        have hs2 : w1.heap.size ≤ w2.heap.size := hbl2.size
        have c0 : w2.cell? ⟨g2, 0, none⟩ = some (.string (tx x)) := hg2c 0 (by omega)
        have c1 : w2.cell? ⟨g2, 1, none⟩ = some (.string (tx y)) := hg2c 1 (by omega)
        have HSX := HES.out x (by simp)
        have HSY := HES.out y (by simp)
        have HOU2 := Lib.hid hou2
        have HBL2 := Lib.hid hbl2
        clear hos2 hb2 hou2 hbl2 hown hbl hg2c hg2b
        go_wp2_with fail
        refine (HDG.out _ HSX _).mono ?_
        rintro e w3 ⟨⟨va, rfl, a1, a2, a3⟩, hg3⟩
        have c3 := gb_cell hg3 c1 (by simp)
        have HA3 := Lib.hid a3
        have HG3 := Lib.hid hg3
        clear hg3 a3
        go_wp2_with fail
        refine (HDG.out _ HSY _).mono ?_
        rintro e w4 ⟨⟨vb, rfl, b1, b2, b3⟩, hg4⟩
        have HOU4 : Hid (OU w4 w1.heap.size u6 ls) := Lib.hid ((HOU2.out.kept HG3.out (by cases h : u6.ownBlock <;> simp)).kept hg4 (by cases h : u6.ownBlock <;> simp))
        have HBL4 : Hid (Below w1.heap.size w1 w4) := Lib.hid ((HBL2.out.grown HG3.out hs2 (fun _ e => by cases e)).grown hg4 (by have := HG3.out.size; omega) (fun _ e => by cases e))
        have HB3 := Lib.hid b3
        clear hg4 b3
        have HV : Hid (∀ f, good n t f → ∃ p, (ruL n f).take (k + 1) = (ruL n f).take k ++ [p] ∧ va = (p.1 : Int) ∧ vb = (p.1 : Int) + (p.2 : Int) - 1 ∧ 1 ≤ p.2) := Lib.hid (fun f gf => by
          obtain ⟨p, e1, e2, e3, e4, e5⟩ := HE2.out x y rfl f gf
          refine ⟨p, e1, dig_of e4 (by omega) HA3.out, ?_, e3⟩
          rw [dig_of e5 (by omega) HB3.out]; omega)
        clear HC2 HEM HE1 HE2
        by_cases ha : va < 0
        · have d1 : decide (va < 0) = true := by simp; omega
          go_wp2_with fail
          go_ret2
          exact ⟨⟨#[]⟩, 2, rfl, PR.no (fun f gf => by obtain ⟨p, _, e2, e3, e4⟩ := HV.out f gf; omega), gb_trans HG1.out (gb_below HBL4.out none)⟩
        have d1 : decide (va < 0) = false := by simp; omega
        by_cases hb : vb < 0
        · have d2 : decide (vb < 0) = true := by simp; omega
          go_wp2_with fail
          go_ret2
          exact ⟨⟨#[]⟩, 2, rfl, PR.no (fun f gf => by obtain ⟨p, _, e2, e3, e4⟩ := HV.out f gf; omega), gb_trans HG1.out (gb_below HBL4.out none)⟩
        have d2 : decide (vb < 0) = false := by simp; omega
        by_cases hc : vb < va
        · have d3 : decide (vb < va) = true := by simp; omega
          go_wp2_with fail
          go_ret2
          exact ⟨⟨#[]⟩, 2, rfl, PR.no (fun f gf => by obtain ⟨p, _, e2, e3, e4⟩ := HV.out f gf; omega), gb_trans HG1.out (gb_below HBL4.out none)⟩
        have d3 : decide (vb < va) = false := by simp; omega
        obtain ⟨A, rfl⟩ : ∃ A : Nat, va = A := ⟨va.toNat, by omega⟩
        obtain ⟨B, rfl⟩ : ∃ B : Nat, vb = B := ⟨vb.toNat, by omega⟩
        obtain ⟨C, hC⟩ : ∃ C : Nat, (B : Int) - (A : Int) + 1 = (C : Int) := ⟨B - A + 1, by omega⟩
        have HL2 : Hid (∀ f, good n t f → ls ++ [(A, C)] = (ruL n f).take (k + 1)) := Lib.hid (fun f gf => by
          obtain ⟨p, e1, e2, e3, e4⟩ := HV.out f gf
          rw [e1, HL.out f gf, show p = (A, C) from Prod.ext (by simp; omega) (by simp; omega)])
        have hs4 : w1.heap.size ≤ w4.heap.size := HBL4.out.size
        have hown1 := World.ownsRow.alloc HOU4.out (.cells #[.int .i64 (A : Int), .int .i64 (C : Int)] 85)
        have hbl1 : Below w1.heap.size w1 (w4.alloc (.cells #[.int .i64 (A : Int), .int .i64 (C : Int)] 85)) := HBL4.out.alloc hs4 _
        have hs1 : w1.heap.size ≤ (w4.alloc (.cells #[.int .i64 (A : Int), .int .i64 (C : Int)] 85)).heap.size := by simp; omega
        have hsum : (B : Int) - (A : Int) = (C : Int) - 1 := by omega
        have d4 : ¬ (B : Int) < (A : Int) := by omega
        have d5 : (A : Int) ≤ (B : Int) := by omega
        have d6 : A ≤ B := by omega
        have d7 : ¬ B < A := by omega
        clear ha hb hc HV
        go_wp2_with (at_builtin; refine wpList_append_own_at _ rfl _ _ 45 rfl w1.heap.size 85 i0 (.agg #[.int .i64 0, .int .i64 0]) 2 16 Tryd.underlying45 hi hz0 hz1 hz2 rfl (by decide) _ _ _ rfl hown1 ⟨w4.heap.size, 0, none⟩ 1 1 [.int .i64 (A : Int), .int .i64 (C : Int)] rfl rfl (cells_two _ _ _ _) (by simp [Value.oneCell']) (by unfold maxLen; omega) (by omega) hs1 ?_; intro v' w5 hown' hgrow _ hat; have hbl2 := hbl1.grown hgrow hs1 (fun j e => (World.ownsRow.lt hown1 j e).1); have hown2 : OU w5 w1.heap.size v' (ls ++ [(A, C)]) := (by unfold OU; rw [rC_snoc, List.length_append]; exact hown'))
        exact ⟨⟨k + 1, ls ++ [(A, C)], by omega, by rw [List.length_append]; simp; omega, by go_num, hown2, hbl2, HL2⟩, by simp [intOf]; omega⟩
      · have HM := HEM.out (by simp)
        obtain ⟨m, hm⟩ : ∃ m, (x :: y :: z :: r).length = m := ⟨_, rfl⟩
        have hm3 : (x :: y :: z :: r).length = r.length + 3 := rfl
        have hm2 : (2 : Int) < (m : Int) := by omega
        have hm0 : 0 < m := by omega
        go_wp2_with fail
        refine (HC2.out _).mono ?_
        rintro e w2 ⟨v2, rfl, hos2, hb2⟩
        obtain ⟨g2, cap2, rfl, hg2b, hg2s, hg2c⟩ := hos2.at_n (n := m) hm hm0
        have hou2 : OU w2 w1.heap.size u6 ls := hown.kept (gb_below hb2 none) (by cases h : u6.ownBlock <;> simp)
        have hbl2 : Below w1.heap.size w1 w2 := hbl.grown (gb_below hb2 none) hsz (fun _ e => by cases e)
        have hs2 : w1.heap.size ≤ w2.heap.size := hbl2.size
        have HOU2 := Lib.hid hou2
        have HBL2 := Lib.hid hbl2
        have HMM := Lib.hid HM
        clear hos2 hb2 hou2 hbl2 hown hbl hg2c hg2b hm HC2 HEM HE1 HE2 HES HM
        go_wp2_with fail
        go_ret2
        exact ⟨⟨#[]⟩, 2, rfl, PR.no HMM.out, gb_trans HG1.out (gb_below HBL2.out none)⟩
    · obtain rfl : k = len := by omega
      have hnlt : ¬ ((k : Int) < (k : Int)) := by omega
      have HLF : Hid (∀ f, good n t f → ls = ruL n f) := Lib.hid (fun f gf => by rw [HL.out f gf, List.take_of_length_le (by rw [HGL.out f gf]; exact Nat.le_refl _)])
      obtain ⟨a, cp, rfl, hrl⟩ := OU.rl hown
      have hfr := HFR.out ls a cp wr hrl (by rw [RI_len]; omega)
      rw [RI_len, hlk] at hfr
      rw [hlk]
      obtain ⟨p1, p2, p3⟩ := PR.fin HLF.out
      have hsize : frE n (RI ls) = 0 → (frS n (RI ls)).size ≤ 600 := fun h => by
        obtain ⟨N, e1, e2, e3, _⟩ := vd_t (chk_t (p2 h))
        omega
      obtain ⟨EE, hEE⟩ : ∃ EE, frE n (RI ls) = EE := ⟨_, rfl⟩
      obtain ⟨S, hS⟩ : ∃ S, frS n (RI ls) = S := ⟨_, rfl⟩
      simp only [hEE, hS] at hfr p1 p2 p3 hsize
      have HFR1 := Lib.hid hfr
      have HGW : Hid (w.grownBy wr none) := Lib.hid (gb_trans HG1.out (gb_below hbl none))
      clear hfr hrl hown hbl hEE hS
      by_cases hE0 : EE = 0
      · subst hE0
        have q2 := p2 rfl
        have q3 := Lib.hid (p3 rfl)
        have qs := hsize rfl
        have htx := Lib.hid (HTX.out S (by omega))
        obtain ⟨T, hT⟩ : ∃ T, teS n S = T := ⟨_, rfl⟩
        simp only [hT, q2] at htx
        have HT := Lib.hid hT
        have HQ2 := Lib.hid q2
        clear p1 p2 p3 hsize hT q2
        by_cases heq : T = t
        · subst heq
          go_wp2_with fail
          refine HFR1.out.mono ?_
          rintro e w2 ⟨rfl, g2⟩
          have HG2 := Lib.hid (gb_trans HGW.out g2)
          clear g2
          go_wp2_with fail
          refine (htx.out _).mono ?_
          rintro e w3 ⟨rfl, g3⟩
          have HG3 := Lib.hid (gb_trans HG2.out g3)
          clear g3
          go_wp2
          go_ret2
          exact ⟨S, 0, rfl, .inl ⟨rfl, ⟨HQ2.out, HT.out⟩, q3.out⟩, HG3.out⟩
        · have f1 : (T.toList == t.toList) = false := by
            rw [Bool.eq_false_iff]
            intro h
            rw [beq_iff_eq, ByteArray.toList_eq, ByteArray.toList_eq] at h
            exact heq (bx h)
          have f2 : (T.toList != t.toList) = true := by rw [bne, f1]; rfl
          have HNG : Hid (∀ f, ¬ good n t f) := Lib.hid (fun f gf => heq (by rw [← HT.out, ← q3.out f gf]; exact gf.2))
          clear heq
          go_wp2_with fail
          refine HFR1.out.mono ?_
          rintro e w2 ⟨rfl, g2⟩
          have HG2 := Lib.hid (gb_trans HGW.out g2)
          clear g2
          go_wp2_with fail
          refine (htx.out _).mono ?_
          rintro e w3 ⟨rfl, g3⟩
          have HG3 := Lib.hid (gb_trans HG2.out g3)
          clear g3
          go_wp2
          go_ret2
          exact ⟨⟨#[]⟩, 2, rfl, PR.no HNG.out, HG3.out⟩
      · have HNG := Lib.hid (p1 hE0)
        have f1 : (EE == 0) = false := by rw [beq_eq_false_iff_ne]; exact hE0
        have f2 : (EE != 0) = true := by rw [bne_iff_ne]; exact hE0
        clear p1 p2 p3 hsize
        go_wp2_with fail
        refine HFR1.out.mono ?_
        rintro e w2 ⟨rfl, g2⟩
        have HG2 := Lib.hid (gb_trans HGW.out g2)
        clear g2
        go_wp2
        go_ret2
        exact ⟨⟨#[]⟩, 2, rfl, PR.no HNG.out, HG2.out⟩
end Go.Proofs.YtbeaohnjifcgaaaDoor.Db
