/-
  Fields of bits: the reference's Join.
-/
import Derived.Test.YtbeaohnjifcgaaaDoorBz
namespace Go.Proofs.YtbeaohnjifcgaaaDoor.Bh
open Go Go.RowKit Go.Shelf Go.Proofs.YtbeaohnjifcgaaaDoor.Sx Go.Proofs.YtbeaohnjifcgaaaDoor.Na Go.Proofs.YtbeaohnjifcgaaaDoor.Ba

/-- how two bits are joined -/
def jb (how : Nat) (x y : Bool) : Bool := if how = 1 then x && y else if how = 2 then x || y else x && !y
def mixTo (how : Nat) (β γ : Nat → Bool) (k : Nat) : Nat → Bool := fun i => if i < k then jb how (β i) (γ i) else β i
theorem mix_zero (how : Nat) (β γ : Nat → Bool) : mixTo how β γ 0 = β := by funext i; simp [mixTo]
theorem mix_at (how : Nat) (β γ : Nat → Bool) (k : Nat) : mixTo how β γ k k = β k := by simp [mixTo]
theorem mix_succ (how : Nat) (β γ : Nat → Bool) (k : Nat) : mixTo how β γ (k + 1) = upd (mixTo how β γ k) k (jb how (β k) (γ k)) := by
  funext i
  unfold mixTo upd
  by_cases e : i = k
  · subst e; simp
  · by_cases h : i < k
    · rw [if_pos (by omega), if_neg e]; exact (if_pos h).symm
    · rw [if_neg (by omega), if_neg e]; exact (if_neg h).symm
def joE (n : Int) (a b : ByteArray) : Int := if chk n a = 0 then chk n b else chk n a
def joS (how : Nat) (n : Int) (a b : ByteArray) : ByteArray := if joE n a b = 0 then tf n.toNat (fun i => jb how (bt a i) (bt b i)) else ⟨#[]⟩

set_option maxRecDepth 100000 in
set_option maxHeartbeats 4000000 in
theorem RJoin_any (how : Nat) (n : Int) (a b : ByteArray) (w : World) (hh : how = 1 ∨ how = 2 ∨ how = 3) (ha : a.size ≤ 140737488351232) (hb : b.size ≤ 140737488351232) :
    Calls Tryd.prog 27 #[.int .i64 (how : Int), .int .i64 n, .string a, .string b] w fun e w' => e = .returned (.tuple #[.string (joS how n a b), .int .i64 (joE n a b)]) ∧ w.grownBy w' none := by
  have HC := Lib.hid (fun w => check_any n a w ha)
  have HD := Lib.hid (fun w => check_any n b w hb)
  by_cases hc : chk n a = 0
  · by_cases hd : chk n b = 0
    · have e0 : joE n a b = 0 := by unfold joE; rw [if_pos hc, hd]
      rw [show joS how n a b = tf n.toNat (fun i => jb how (bt a i) (bt b i)) from if_pos e0, e0]
      rw [hc] at HC
      rw [hd] at HD
      obtain ⟨N, rfl, h1, h2, h3⟩ := vd_t (chk_t hc)
      obtain ⟨N', e1, h4, h5, h6⟩ := vd_t (chk_t hd)
      obtain rfl : N = N' := by omega
      rw [Int.toNat_natCast]
      have HT := Lib.hid (fun w => Truths_any N a w (by omega) (by omega) ha)
      have HU := Lib.hid (fun w => Truths_any N b w (by omega) (by omega) hb)
      have HF := Lib.hid (fun a cap β base w (hT : TL w base a N β) => Field_any a N cap β base w hT (by omega))
      obtain ⟨β, hβ⟩ : ∃ β, bt a = β := ⟨_, rfl⟩
      obtain ⟨γ, hγ⟩ : ∃ γ, bt b = γ := ⟨_, rfl⟩
      have HFE : Hid (fld ((N + 7) / 8) (lim N (mixTo how β γ N)) = tf N (fun i => jb how (β i) (γ i))) := Lib.hid (tf_congr fun i hi => by unfold mixTo; rw [if_pos hi])
      simp only [hβ, hγ] at HT HU ⊢
      obtain ⟨r, hr⟩ : ∃ r, tf N (fun i => jb how (β i) (γ i)) = r := ⟨_, rfl⟩
      rw [hr] at HFE ⊢
      have HN := Lib.hid h1
      have hN5 : N ≤ 5000 := by omega
      clear hβ hγ hr hc hd h2 h3 h5 h6 e0 h4 e1 h1
      go_enter Tryd.func27, Tryd.ntmps27
      go_wp2_with fail
      refine (HC.out _).mono ?_
      rintro e w1 ⟨rfl, rfl⟩
      go_wp2_with fail
      refine (HD.out _).mono ?_
      rintro e w1 ⟨rfl, rfl⟩
      go_wp2_with fail
      refine (HT.out _).mono ?_
      rintro e w1 ⟨ax, capx, rfl, htx, hg1⟩
      go_wp2_with fail
      refine (HU.out _).mono ?_
      rintro e w2 ⟨ay, capy, rfl, hty, hg2⟩
      have HX : Hid (TL w2 w.heap.size ax N β) := Lib.hid (htx.kept hg2)
      have HY := Lib.hid hty
      have HG := Lib.hid (gb_trans hg1 hg2)
      have HSEP : Hid (∀ g1 g2, 0 < N → ax = some ⟨g1, 0, none⟩ → ay = some ⟨g2, 0, none⟩ → g1 ≠ g2) := Lib.hid (fun g1 g2 h0 e1 e2 e3 => by
        obtain ⟨p, ep, _, tp⟩ := htx h0
        obtain ⟨q, eq, hq, _⟩ := hty h0
        rw [e1] at ep
        rw [e2] at eq
        cases ep
        cases eq
        have := tp.lt
        omega)
      clear htx hty hg1 hg2 HC HD HT HU
      obtain ⟨bs, hbs⟩ : ∃ bs, w.heap.size = bs := ⟨_, rfl⟩
      have HBS := Lib.hid hbs
      rw [hbs] at HX
      clear hbs
      obtain ⟨bs2, hbs2⟩ : ∃ bs2, w1.heap.size = bs2 := ⟨_, rfl⟩
      rw [hbs2] at HY
      clear hbs2
      go_wp2_with fail
      go_loopw [14, 35] (fun _ i wr => ∃ k : Nat, k ≤ N ∧ i = .int .i64 k ∧ Hid (TL wr bs ax N (mixTo how β γ k)) ∧ Hid (TL wr bs2 ay N γ) ∧ Hid (w.grownBy wr none)) (fun _ i _ => N - (intOf i).toNat)
      case atStart => exact ⟨0, Nat.zero_le _, rfl, Lib.hid (by rw [mix_zero]; exact HX.out), HY, HG⟩
      case round =>
        obtain ⟨k, hk, rfl, HXk, HYk, HGk⟩ := hrel
        by_cases hlt : k < N
        · obtain ⟨g1, rfl, hgb1, htb1⟩ := HXk.out (by omega)
          obtain ⟨g2, rfl, hgb2, htb2⟩ := HYk.out (by omega)
          have hne := HSEP.out g1 g2 (by omega) rfl rfl
          have c1 := htb1.cell k hlt
          rw [mix_at] at c1
          have f1 := htb1.free k
          have c2 := htb2.cell k hlt
          have hlt' : (k : Int) < (N : Int) := by omega
          have HS := Lib.hid (htb1.set k (jb how (β k) (γ k)) hlt)
          rw [← mix_succ] at HS
          have HGS : Hid (∀ v, w.grownBy (wr.setCell ⟨g1, k, none⟩ v) none) := Lib.hid (fun v => gb_new HGk.out g1 k v (by rw [HBS.out]; exact hgb1))
          have HYS : Hid (∀ v, TL (wr.setCell ⟨g1, k, none⟩ v) bs2 (some ⟨g2, 0, none⟩) N γ) := Lib.hid (fun v _ => ⟨g2, rfl, hgb2, htb2.kept (gb_set wr g1 k v) (by simpa using Ne.symm hne)⟩)
          have HGB := Lib.hid hgb1
          obtain ⟨x, hx⟩ : ∃ x, β k = x := ⟨_, rfl⟩
          obtain ⟨y, hy⟩ : ∃ y, γ k = y := ⟨_, rfl⟩
          rw [hx, hy] at HS
          rw [hx] at c1
          rw [hy] at c2
          clear hx hy htb1 htb2 hgb1 hgb2
          rcases hh with rfl | rfl | rfl
          all_goals
            cases x
            all_goals
              cases y
              all_goals
                go_wp2_with fail
                exact ⟨⟨k + 1, by omega, by go_num, Lib.hid (fun _ => ⟨g1, rfl, HGB.out, HS.out⟩), Lib.hid (HYS.out _), Lib.hid (HGS.out _)⟩, by simp [intOf]; omega⟩
        · obtain rfl : k = N := by omega
          go_wp2_with fail
          refine (HF.out _ _ _ _ _ HXk.out).mono ?_
          rintro e w3 ⟨rfl, hg3⟩
          have HG3 := Lib.hid (gb_trans HGk.out hg3)
          clear hg3
          go_wp2_with fail
          go_ret2
          exact ⟨by rw [HFE.out] <;> rfl, HG3.out⟩
    · have e0 : joE n a b = chk n b := by unfold joE; rw [if_pos hc]
      rw [show joS how n a b = ⟨#[]⟩ from if_neg (by rw [e0]; exact hd), e0]
      rw [hc] at HC
      obtain ⟨c, hcc⟩ : ∃ c, chk n b = c := ⟨_, rfl⟩
      simp only [hcc] at hd HD ⊢
      clear hcc e0
      go_enter Tryd.func27, Tryd.ntmps27
      go_wp2_with fail
      refine (HC.out _).mono ?_
      rintro e w1 ⟨rfl, rfl⟩
      go_wp2_with fail
      refine (HD.out _).mono ?_
      rintro e w1 ⟨rfl, rfl⟩
      go_wp2
      go_ret2
      exact ⟨rfl, gb_refl _ _⟩
  · have e0 : joE n a b = chk n a := by unfold joE; rw [if_neg hc]
    rw [show joS how n a b = ⟨#[]⟩ from if_neg (by rw [e0]; exact hc), e0]
    obtain ⟨c, hcc⟩ : ∃ c, chk n a = c := ⟨_, rfl⟩
    simp only [hcc] at hc HC ⊢
    clear hcc e0
    go_enter Tryd.func27, Tryd.ntmps27
    go_wp2_with fail
    refine (HC.out _).mono ?_
    rintro e w1 ⟨rfl, rfl⟩
    go_wp2
    go_ret2
    exact ⟨rfl, gb_refl _ _⟩
end Go.Proofs.YtbeaohnjifcgaaaDoor.Bh
