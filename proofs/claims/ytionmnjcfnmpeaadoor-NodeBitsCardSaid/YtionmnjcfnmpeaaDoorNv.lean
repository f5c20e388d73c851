/-
  node: the specification's Flip, Prefix, Within, Next, Middle, Random, In.
-/
import Derived.Test.YtionmnjcfnmpeaaDoorNs
import Derived.Test.YtionmnjcfnmpeaaDoorNt
import Derived.Test.YtionmnjcfnmpeaaDoorNl
import Derived.Test.YtionmnjcfnmpeaaDoorHr
namespace Go.Proofs.YtionmnjcfnmpeaaDoor.Nj
open Go Go.RowKit Go.Proofs.YtionmnjcfnmpeaaDoor.Hz Go.Proofs.YtionmnjcfnmpeaaDoor.Na Go.Proofs.YtionmnjcfnmpeaaDoor.Nb Go.Proofs.YtionmnjcfnmpeaaDoor.Nf
open Go.Proofs.YtionmnjcfnmpeaaDoor.Nh (flp flp_size bt_flp)
open Go.Proofs.YtionmnjcfnmpeaaDoor.Nq (rnd rnd_size nxt mid)

set_option maxRecDepth 100000 in
set_option maxHeartbeats 1600000 in
theorem RFlip_any (s : ByteArray) (i : Nat) (w : World) (hs : s.size = 20) (hi : i < 160) : Calls Tryd.prog 24 #[.string s, .int .i64 (i : Int)] w fun e w' => e = .returned (.string (flp s i)) ∧ Below w.heap.size w w' := by
  have HA := Lib.hid (fun w => bits_xs s w hs)
  have HF := Lib.hid (fun g cap f w h1 h2 => from_any g cap f (flp s i) w ((flp_size s i).trans hs) h1 h2)
  have HT := Lib.hid (fun j hj => bt_flp s hs i j hi hj)
  obtain ⟨D, hD⟩ : ∃ D, flp s i = D := ⟨_, rfl⟩
  simp only [hD] at HF HT ⊢
  clear hs hD
  go_enter Tryd.func24, Tryd.ntmps24
  go_wp2_with fail
  refine (HA.out _).mono ?_
  rintro e w1 ⟨g, cap, rfl, hg, hx, hb⟩
  have c1 := hx.1 i hi
  have f1 := hx.2 i
  have HX := Lib.hid ((hx.set i hi (!bt s i)).congr (f' := fun j => bt s j != decide (j = i)) fun j _ => by
    by_cases e : j = i
    · subst e; simp
    · simp [e])
  have HB := Lib.hid (hb.setCell (p := ⟨g, i, none⟩) hg (.bool (!bt s i)))
  obtain ⟨x, hx'⟩ : ∃ x, bt s i = x := ⟨_, rfl⟩
  rw [hx'] at c1 HX HB
  clear hx hx' hb
  go_wp2_with fail
  refine (HF.out g cap _ _ HT.out HX.out.1).mono ?_
  rintro e w3 ⟨rfl, hb3⟩
  go_wp2
  go_ret
  exact ⟨rfl, blw HB.out hb3⟩

set_option maxRecDepth 100000 in
set_option maxHeartbeats 1600000 in
theorem RPrefix_any (s : ByteArray) (n : Nat) (w : World) (hs : s.size = 20) (hn : n ≤ 160) : Calls Tryd.prog 25 #[.string s, .int .i64 (n : Int)] w fun e w' => e = .returned (.string (hd s zid n)) ∧ Below w.heap.size w w' := by
  have HA := Lib.hid (fun w => bits_xs s w hs)
  have HF := Lib.hid (fun g cap f w h1 h2 => from_any g cap f (hd s zid n) w (hd_size _ _ _) h1 h2)
  have HT : Hid (∀ j, j < 160 → bt (hd s zid n) j = if n ≤ j ∧ j < 160 then false else bt s j) := Lib.hid (fun j hj => by
    rw [bt_hd _ _ _ _ hj, bt_zid j hj]
    by_cases h : j < n
    · rw [if_pos h, if_neg (by omega)]
    · rw [if_neg h, if_pos (by omega)])
  obtain ⟨D, hD⟩ : ∃ D, hd s zid n = D := ⟨_, rfl⟩
  simp only [hD] at HF HT ⊢
  clear hs hD
  go_enter Tryd.func25, Tryd.ntmps25
  go_wp2_with fail
  refine (HA.out _).mono ?_
  rintro e w1 ⟨g, cap, rfl, hg, hx, hb⟩
  have HX0 : Hid (Xs w1 g (fun j => if n ≤ j ∧ j < n then false else bt s j)) := Lib.hid (hx.congr fun j _ => by rw [if_neg (by omega)])
  have HB0 := Lib.hid hb
  clear hx hb
  go_wp2_with fail
  go_loopw [6] (fun i wr => ∃ k : Nat, n ≤ k ∧ k ≤ 160 ∧ i = .int .i64 k ∧ Hid (Xs wr g (fun j => if n ≤ j ∧ j < k then false else bt s j)) ∧ Hid (Below w.heap.size w wr)) (fun i _ => 160 - (intOf i).toNat)
  case atStart => exact ⟨n, Nat.le_refl _, hn, rfl, HX0, HB0⟩
  case round =>
    clear HX0 HB0
    obtain ⟨k, hnk, hk, rfl, HX, HB⟩ := hrel
    by_cases hlt : k < 160
    · have c1 := HX.out.1 k hlt
      have f1 := HX.out.2 k
      have HX2 : Hid (Xs (wr.setCell ⟨g, k, none⟩ (.bool false)) g (fun j => if n ≤ j ∧ j < k + 1 then false else bt s j)) := Lib.hid ((HX.out.set k hlt false).congr fun j _ => by
        by_cases e : j = k
        · rw [if_pos e, if_pos (by omega)]
        · rw [if_neg e]
          by_cases e2 : n ≤ j ∧ j < k
          · rw [if_pos e2, if_pos (by omega)]
          · rw [if_neg e2, if_neg (by omega)])
      have HB2 := Lib.hid (HB.out.setCell (p := ⟨g, k, none⟩) hg (.bool false))
      go_wp2_with fail
      exact ⟨⟨k + 1, by omega, by omega, by go_num, HX2, HB2⟩, by simp [intOf]; omega⟩
    · obtain rfl : k = 160 := by omega
      go_wp2_with fail
      refine (HF.out g cap _ _ HT.out HX.out.1).mono ?_
      rintro e w3 ⟨rfl, hb3⟩
      go_wp2
      go_ret
      exact ⟨rfl, blw HB.out hb3⟩

set_option maxRecDepth 100000 in
set_option maxHeartbeats 800000 in
theorem RWithin_any (a b : ByteArray) (n : Nat) (w : World) (ha : a.size = 20) (hb : b.size = 20) : Calls Tryd.prog 27 #[.string a, .string b, .int .i64 (n : Int)] w fun e w' => e = .returned (.bool (decide (n ≤ cmn a b))) ∧ w = w' := by
  have HC := Lib.hid (fun w => RCommon_any a b w ha hb)
  obtain ⟨c, hc⟩ : ∃ c, cmn a b = c := ⟨_, rfl⟩
  simp only [hc] at HC ⊢
  clear ha hb hc
  go_enter Tryd.func27, Tryd.ntmps27
  go_wp2_with fail
  refine (HC.out _).mono ?_
  rintro e w1 ⟨rfl, rfl⟩
  go_wp2
  go_ret
  exact ⟨by simp, rfl⟩

set_option maxRecDepth 100000 in
set_option maxHeartbeats 800000 in
theorem RRandom_any (s : ByteArray) (k : Nat) (w : World) (hs : s.size ≤ 100) (hk : k ≤ 9223372036854775807) (ht : Hh.Tab w) :
    Calls Tryd.prog 28 #[.string s, .int .i64 (k : Int)] w fun e w' => e = .returned (.string (rnd s k)) ∧ Below w.heap.size w w' := by
  have HI := Lib.hid (Hh.Itoa_any k hk w ht)
  have hz : (Hh.dec k).size ≤ 30 := Hh.dec_size k hk
  have hd : rnd s k = Dg.old (s ++ ⟨#[58]⟩ ++ Hh.dec k).data.toList := rfl
  obtain ⟨D, hD⟩ : ∃ D, Hh.dec k = D := ⟨_, rfl⟩
  rw [hD] at HI hz hd
  have h1 : (⟨#[58]⟩ : ByteArray).size = 1 := rfl
  have HO := Lib.hid (fun w => Hh.ROld_any (s ++ ⟨#[58]⟩ ++ D) w (by rw [ByteArray.size_append, ByteArray.size_append, h1]; unfold maxLen; omega))
  rw [← hd] at HO
  obtain ⟨R, hR⟩ : ∃ R, rnd s k = R := ⟨_, rfl⟩
  rw [hR] at HO ⊢
  clear hd hR hD ht
  go_enter Tryd.func28, Tryd.ntmps28
  go_wp2_with fail
  refine HI.out.mono ?_
  rintro e w1 ⟨rfl, hb1⟩
  go_wp2_with fail
  refine (HO.out _).mono ?_
  rintro e w2 ⟨rfl, hb2⟩
  go_wp2
  go_ret
  exact ⟨rfl, blw hb1 hb2⟩

set_option maxRecDepth 100000 in
set_option maxHeartbeats 1600000 in
theorem RIn_any (a s : ByteArray) (n k0 : Nat) (w : World) (ha : a.size = 20) (hn : n ≤ 160) (hs : s.size ≤ 100) (hk : k0 ≤ 9223372036854775807) (ht : Hh.Tab w) :
    Calls Tryd.prog 29 #[.string a, .int .i64 (n : Int), .string s, .int .i64 (k0 : Int)] w fun e w' => e = .returned (.string (hd a (rnd s k0) n)) ∧ Below w.heap.size w w' := by
  have HR := Lib.hid (RRandom_any s k0 w hs hk ht)
  have HX1 := Lib.hid (fun w => bits_xs (rnd s k0) w (rnd_size s k0))
  have HX2 := Lib.hid (fun w => bits_xs a w ha)
  have HF := Lib.hid (fun g cap f w h1 h2 => from_any g cap f (hd a (rnd s k0) n) w (hd_size _ _ _) h1 h2)
  have HT : Hid (∀ j, j < 160 → bt (hd a (rnd s k0) n) j = if j < n then bt a j else bt (rnd s k0) j) := Lib.hid (fun j hj => bt_hd _ _ _ _ hj)
  obtain ⟨D, hD⟩ : ∃ D, hd a (rnd s k0) n = D := ⟨_, rfl⟩
  simp only [hD] at HF HT ⊢
  obtain ⟨R, hR⟩ : ∃ R, rnd s k0 = R := ⟨_, rfl⟩
  simp only [hR] at HR HX1 HT
  clear ha hD hR ht
  go_enter Tryd.func29, Tryd.ntmps29
  go_wp2_with fail
  refine HR.out.mono ?_
  rintro e w0 ⟨rfl, hb0⟩
  go_wp2_with fail
  refine (HX1.out _).mono ?_
  rintro e w1 ⟨g1, cap1, rfl, hg1, hx1, hb1⟩
  go_wp2_with fail
  refine (HX2.out _).mono ?_
  rintro e w2 ⟨g2, cap2, rfl, hg2, hy, hb2⟩
  have hlt1 : g1 < w1.heap.size := World.block_lt_of_cell? w1 _ (hx1.1 0 (by omega))
  have hx := hx1.below hb2
  have HB0 := Lib.hid (blw (blw hb0 hb1) hb2)
  have hgw : w.heap.size ≤ g1 := by have := hb0.size; omega
  have hne : g1 ≠ g2 := by omega
  have HX0 : Hid (Xs w2 g1 (fun j => if j < 0 then bt a j else bt R j)) := Lib.hid (hx.congr fun j _ => by rw [if_neg (by omega)])
  have HY0 := Lib.hid hy
  clear hx1 hb1 hb2 hx hy hb0
  go_wp2_with fail
  go_loopw [19, 11] (fun i _ wr => ∃ k : Nat, k ≤ n ∧ i = .int .i64 k ∧ Hid (Xs wr g1 (fun j => if j < k then bt a j else bt R j)) ∧ Hid (Xs wr g2 (bt a)) ∧ Hid (Below w.heap.size w wr)) (fun i _ _ => n - (intOf i).toNat)
  case atStart => exact ⟨0, Nat.zero_le _, rfl, HX0, HY0, HB0⟩
  case round =>
    clear HX0 HB0 HY0
    obtain ⟨k, hk', rfl, HX, HY, HB⟩ := hrel
    by_cases hlt : k < n
    · have c1 := HX.out.1 k (by omega)
      have f1 := HX.out.2 k
      have c2 := HY.out.1 k (by omega)
      have HX2' : Hid (Xs (wr.setCell ⟨g1, k, none⟩ (.bool (bt a k))) g1 (fun j => if j < k + 1 then bt a j else bt R j)) := Lib.hid ((HX.out.set k (by omega) (bt a k)).congr fun j _ => by
        by_cases e : j = k
        · rw [if_pos e, if_pos (by omega), e]
        · rw [if_neg e]
          by_cases e2 : j < k
          · rw [if_pos e2, if_pos (by omega)]
          · rw [if_neg e2, if_neg (by omega)])
      have HY2 := Lib.hid (HY.out.far (g' := g1) (k := k) (v := .bool (bt a k)) hne)
      have HB2 := Lib.hid (HB.out.setCell (p := ⟨g1, k, none⟩) hgw (.bool (bt a k)))
      simp only [Nat.lt_irrefl, if_false] at c1
      obtain ⟨x, hx'⟩ : ∃ x, bt a k = x := ⟨_, rfl⟩
      rw [hx'] at HX2' HY2 HB2 c2
      obtain ⟨y, hy'⟩ : ∃ y, bt R k = y := ⟨_, rfl⟩
      rw [hy'] at c1
      clear hx' hy'
      have hlt' : (k : Int) < (n : Int) := by omega
      go_wp2_with fail
      exact ⟨⟨k + 1, by omega, by go_num, HX2', HY2, HB2⟩, by simp [intOf]; omega⟩
    · obtain rfl : k = n := by omega
      have hnlt : ¬ ((k : Int) < (k : Int)) := by omega
      go_wp2_with fail
      refine (HF.out g1 cap1 _ _ HT.out HX.out.1).mono ?_
      rintro e w3 ⟨rfl, hb3⟩
      go_wp2
      go_ret
      exact ⟨rfl, blw HB.out hb3⟩
end Go.Proofs.YtionmnjcfnmpeaaDoor.Nj
