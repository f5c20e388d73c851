/-
  Fields of bits: the reference's New, Not, Full.
-/
import Derived.Test.YtbeaohnjifcgaaaDoorBi
namespace Go.Proofs.YtbeaohnjifcgaaaDoor.Bh
open Go Go.RowKit Go.Proofs.YtbeaohnjifcgaaaDoor.Sx Go.Proofs.YtbeaohnjifcgaaaDoor.Na Go.Proofs.YtbeaohnjifcgaaaDoor.Ba

theorem rgt_of {N : Nat} (h : N ≤ 4096) : rgt N = true := by unfold rgt; simp; omega
/-- the field of N truths -/
def tf (N : Nat) (β : Nat → Bool) : ByteArray := fld ((N + 7) / 8) (lim N β)
theorem vd_tf {N : Nat} (β : Nat → Bool) (h : N ≤ 4096) : vd N (tf N β) = true := vd_fld _ h fun i hi _ => by unfold lim; simp; omega
theorem tf_congr {N : Nat} {β γ : Nat → Bool} (h : ∀ i, i < N → β i = γ i) : tf N β = tf N γ := fld_congr _ _ _ fun i _ => by
  unfold lim
  by_cases e : i < N
  · rw [h i e]
  · simp [e]
theorem bt_tf {N i : Nat} (β : Nat → Bool) (h : i < N) : bt (tf N β) i = β i := by unfold tf; rw [bt_fld _ _ _ (by omega)]; unfold lim; simp [h]
theorem tf_size (N : Nat) (β : Nat → Bool) : (tf N β).size = (N + 7) / 8 := fld_size _ _
/-- a right field is the field of its bits -/
theorem tf_self {N : Nat} {s : ByteArray} (h : vd N s = true) : tf N (bt s) = s := by
  obtain ⟨M, hM, h1, h2, h3⟩ := vd_t h
  obtain rfl : N = M := by omega
  refine bt_ext _ _ (by rw [tf_size, h2]) fun i hi => ?_
  rw [tf_size] at hi
  unfold tf
  rw [bt_fld _ _ _ hi]
  unfold lim
  by_cases e : i < N
  · simp [e]
  · simp [e]; rw [h3 i (by omega) (by omega)]

theorem lim_upd (N i : Nat) (β : Nat → Bool) (v : Bool) (h : i < N) : lim N (upd β i v) = upd (lim N β) i v := by
  funext j
  unfold lim upd
  by_cases e : j = i
  · subst e; simp [h]
  · simp [e]

/-- what New returns -/
def nwS (n : Int) : ByteArray := if rgt n = true then tf n.toNat (fun _ => false) else ⟨#[]⟩
def nwE (n : Int) : Int := if rgt n = true then 0 else 7

set_option maxRecDepth 100000 in
set_option maxHeartbeats 1600000 in
theorem RNew_any (n : Int) (w : World) :
    Calls Tryd.prog 15 #[.int .i64 n] w fun e w' => e = .returned (.tuple #[.string (nwS n), .int .i64 (nwE n)]) ∧ w.grownBy w' none := by
  cases hr : rgt n
  · rw [show nwS n = ⟨#[]⟩ from if_neg (by rw [hr]; decide), show nwE n = 7 from if_neg (by rw [hr]; decide)]
    have HR := Lib.hid (fun w => right_f n w hr)
    clear hr
    go_enter Tryd.func15, Tryd.ntmps15
    go_wp2_with fail
    refine (HR.out _).mono ?_
    rintro e w1 ⟨rfl, rfl⟩
    go_wp2
    go_ret2
    exact ⟨rfl, gb_refl _ _⟩
  · rw [show nwS n = tf n.toNat (fun _ => false) from if_pos hr, show nwE n = 0 from if_pos hr]
    obtain ⟨n0, n1⟩ := rgt_t hr
    have HR := Lib.hid (fun w => right_t n w hr)
    obtain ⟨N, rfl⟩ : ∃ N : Nat, n = N := ⟨n.toNat, by omega⟩
    rw [Int.toNat_natCast]
    have hmk := mkTruths N (by omega)
    have HF := Lib.hid (fun a cap β base w (hT : TL w base a N β) => Field_any a N cap β base w hT (by omega))
    clear hr
    go_enter Tryd.func15, Tryd.ntmps15
    go_wp2_with fail
    refine (HR.out _).mono ?_
    rintro e w1 ⟨rfl, rfl⟩
    go_wp2_with fail
    refine (HF.out _ _ (fun _ => false) w.heap.size _ (fun h => ⟨_, rfl, Nat.le_refl _, TB.new w N⟩)).mono ?_
    rintro e w1 ⟨rfl, hg⟩
    go_wp2_with fail
    go_ret2
    exact ⟨rfl, gb_trans (gb_alloc _ _ _) hg⟩

/-- what Not returns -/
def ntS (n : Int) (s : ByteArray) : ByteArray := if chk n s = 0 then tf n.toNat (fun i => !bt s i) else ⟨#[]⟩
/-- how far Not has come -/
def flip (β : Nat → Bool) (k : Nat) : Nat → Bool := fun i => if i < k then !β i else β i
theorem flip_zero (β : Nat → Bool) : flip β 0 = β := by funext i; unfold flip; simp
theorem flip_succ (β : Nat → Bool) (k : Nat) : flip β (k + 1) = upd (flip β k) k (!β k) := by
  funext i
  unfold flip upd
  by_cases e : i = k
  · subst e; simp
  · by_cases h : i < k
    · rw [if_pos (by omega), if_neg e]; exact (if_pos h).symm
    · rw [if_neg (by omega), if_neg e]; exact (if_neg h).symm
theorem flip_at (β : Nat → Bool) (k : Nat) : flip β k k = β k := by unfold flip; simp
theorem chk_t {n : Int} {s : ByteArray} (h : chk n s = 0) : vd n s = true := by
  unfold chk at h
  split at h
  · split at h
    · assumption
    · omega
  · omega

set_option maxRecDepth 100000 in
set_option maxHeartbeats 1600000 in
theorem RNot_any (n : Int) (s : ByteArray) (w : World) (hs : s.size ≤ 140737488351232) :
    Calls Tryd.prog 31 #[.int .i64 n, .string s] w fun e w' => e = .returned (.tuple #[.string (ntS n s), .int .i64 (chk n s)]) ∧ w.grownBy w' none := by
  have HC := Lib.hid (check_any n s w hs)
  by_cases hc : chk n s = 0
  · rw [show ntS n s = tf n.toNat (fun i => !bt s i) from if_pos hc]
    rw [hc] at HC ⊢
    obtain ⟨N, rfl, h1, h2, h3⟩ := vd_t (chk_t hc)
    rw [Int.toNat_natCast]
    have HT := Lib.hid (Truths_any N s w (by omega) (by omega) hs)
    have HF := Lib.hid (fun a cap β base w (hT : TL w base a N β) => Field_any a N cap β base w hT (by omega))
    have HFE : Hid (fld ((N + 7) / 8) (lim N (flip (bt s) N)) = tf N (fun i => !bt s i)) := Lib.hid (tf_congr fun i hi => by unfold flip; rw [if_pos hi])
    have HN := Lib.hid h1
    clear hc h2 h3
    obtain ⟨r, hr⟩ : ∃ r, tf N (fun i => !bt s i) = r := ⟨_, rfl⟩
    rw [hr] at HFE ⊢
    clear hr
    obtain ⟨β, hβ⟩ : ∃ β, bt s = β := ⟨_, rfl⟩
    rw [hβ] at HFE HT
    clear hβ
    go_enter Tryd.func31, Tryd.ntmps31
    go_wp2_with fail
    refine HC.out.mono ?_
    rintro e w1 ⟨rfl, rfl⟩
    go_wp2_with fail
    refine HT.out.mono ?_
    rintro e w1 ⟨a, cap, rfl, ht, hg⟩
    have HTL := Lib.hid ht
    have HG := Lib.hid hg
    clear ht hg HC HT
    obtain ⟨bs, hbs⟩ : ∃ bs, w.heap.size = bs := ⟨_, rfl⟩
    have HBS := Lib.hid hbs
    rw [hbs] at HTL
    clear hbs
    go_wp2_with fail
    go_loopw [8, 20] (fun _ i wr => ∃ k : Nat, k ≤ N ∧ i = .int .i64 k ∧ Hid (TL wr bs a N (flip β k)) ∧ Hid (w.grownBy wr none)) (fun _ i _ => N - (intOf i).toNat)
    case atStart => exact ⟨0, Nat.zero_le _, rfl, Lib.hid (by rw [flip_zero]; exact HTL.out), HG⟩
    case round =>
      obtain ⟨k, hk, rfl, HT, HGk⟩ := hrel
      by_cases hlt : k < N
      · obtain ⟨g, rfl, hgb, htb⟩ := HT.out (by omega)
        have c0 := htb.cell k hlt
        rw [flip_at] at c0
        have f0 := htb.free k
        have hlt' : (k : Int) < (N : Int) := by omega
        have HS := Lib.hid (htb.set k (!β k) hlt)
        rw [← flip_succ] at HS
        have HGS : Hid (∀ v, w.grownBy (wr.setCell ⟨g, k, none⟩ v) none) := Lib.hid (fun v => gb_new HGk.out g k v (by rw [HBS.out]; exact hgb))
        have HGB := Lib.hid hgb
        obtain ⟨c, hc⟩ : ∃ c, β k = c := ⟨_, rfl⟩
        rw [hc] at c0 HS
        clear hc htb hgb
        go_wp2_with fail
        exact ⟨⟨k + 1, by omega, by go_num, Lib.hid (fun _ => ⟨g, rfl, HGB.out, HS.out⟩), Lib.hid (HGS.out _)⟩, by simp [intOf]; omega⟩
      · obtain rfl : k = N := by omega
        have HGG := Lib.hid HGk.out
        go_wp2_with fail
        refine (HF.out _ _ _ _ _ HT.out).mono ?_
        rintro e w2 ⟨rfl, hg2⟩
        have HG2 := Lib.hid (gb_trans HGG.out hg2)
        clear hg2
        go_wp2_with fail
        go_ret2
        exact ⟨by rw [HFE.out] <;> rfl, HG2.out⟩
  · rw [show ntS n s = ⟨#[]⟩ from if_neg hc]
    obtain ⟨c, hcc⟩ : ∃ c, chk n s = c := ⟨_, rfl⟩
    rw [hcc] at hc HC ⊢
    clear hcc
    go_enter Tryd.func31, Tryd.ntmps31
    go_wp2_with fail
    refine HC.out.mono ?_
    rintro e w1 ⟨rfl, rfl⟩
    go_wp2
    go_ret2
    exact ⟨rfl, gb_refl _ _⟩
/-- what Full returns -/
def fuS (n : Int) : ByteArray := if rgt n = true then tf n.toNat (fun _ => true) else ⟨#[]⟩
theorem chk_of {n : Int} {s : ByteArray} (h : vd n s = true) : chk n s = 0 := by
  obtain ⟨N, rfl, h1, _⟩ := vd_t h
  unfold chk
  rw [if_pos (rgt_of h1), if_pos h]

set_option maxRecDepth 100000 in
set_option maxHeartbeats 1600000 in
theorem RFull_any (n : Int) (w : World) :
    Calls Tryd.prog 17 #[.int .i64 n] w fun e w' => e = .returned (.tuple #[.string (fuS n), .int .i64 (nwE n)]) ∧ w.grownBy w' none := by
  have HW := Lib.hid (fun w => RNew_any n w)
  cases hr : rgt n
  · rw [show fuS n = ⟨#[]⟩ from if_neg (by rw [hr]; decide)]
    rw [show nwE n = 7 from if_neg (by rw [hr]; decide)] at HW ⊢
    clear hr
    obtain ⟨x, hx⟩ : ∃ x, nwS n = x := ⟨_, rfl⟩
    simp only [hx] at HW
    clear hx
    go_enter Tryd.func17, Tryd.ntmps17
    go_wp2_with fail
    refine (HW.out _).mono ?_
    rintro e w1 ⟨rfl, hg⟩
    go_wp2
    go_ret2
    exact ⟨rfl, hg⟩
  · rw [show fuS n = tf n.toNat (fun _ => true) from if_pos hr]
    rw [show nwE n = 0 from if_pos hr] at HW ⊢
    obtain ⟨n0, n1⟩ := rgt_t hr
    have ex : nwS n = tf n.toNat (fun _ => false) := if_pos hr
    have hv : vd n (nwS n) = true := by rw [ex]; have := vd_tf (N := n.toNat) (fun _ => false) (by omega); rwa [show ((n.toNat : Nat) : Int) = n by omega] at this
    have es : ntS n (nwS n) = tf n.toNat (fun _ => true) := by
      rw [show ntS n (nwS n) = tf n.toNat (fun i => !bt (nwS n) i) from if_pos (chk_of hv)]
      refine tf_congr fun i hi => ?_
      rw [ex, bt_tf _ hi]
      rfl
    have hz : (nwS n).size ≤ 140737488351232 := by rw [ex, tf_size]; omega
    have HN := Lib.hid (fun w => RNot_any n (nwS n) w hz)
    simp only [es, chk_of hv] at HN
    clear hr n0 n1 ex hv es hz
    obtain ⟨x, hx⟩ : ∃ x, nwS n = x := ⟨_, rfl⟩
    simp only [hx] at HW HN
    obtain ⟨y, hy⟩ : ∃ y, tf n.toNat (fun _ => true) = y := ⟨_, rfl⟩
    simp only [hy] at HN ⊢
    clear hx hy
    go_enter Tryd.func17, Tryd.ntmps17
    go_wp2_with fail
    refine (HW.out _).mono ?_
    rintro e w1 ⟨rfl, hg⟩
    go_wp2_with fail
    refine (HN.out _).mono ?_
    rintro e w2 ⟨rfl, hg2⟩
    have HG := Lib.hid (gb_trans hg hg2)
    clear hg hg2
    go_wp2
    go_ret2
    exact ⟨rfl, HG.out⟩
end Go.Proofs.YtbeaohnjifcgaaaDoor.Bh
