/-
  Nodes: the reference's Unpack, whole; a row of nodes as a list of nodes; the law's loop is behind.
-/
import Derived.Test.YthlkpbpcfkgljaaZf4
import Derived.Test.YthlkpbpcfkgljaaZf6
import Derived.Test.YthlkpbpcfkgljaaZc
import Derived.Test.YthlkpbpcfkgljaaZb0
import Derived.Test.YthlkpbpcfkgljaaAx
import Derived.Test.YthlkpbpcfkgljaaNi
set_option linter.unusedVariables false
namespace Go.Proofs.Ythlkpbpcfkgljaa.Ac
open Go Go.RowKit Go.Proofs.Ythlkpbpcfkgljaa.Hz Go.Proofs.Ythlkpbpcfkgljaa.Sx Go.Proofs.Ythlkpbpcfkgljaa.Rg

theorem RNUnpack_any (t : ByteArray) (f : Int) (hf : (Lit.int .i64 f).wf = true) (w : World) (ht : t.size ≤ 70000) :
    Calls Try.prog 6 #[.string t, .int .i64 f] w fun e w' => (∃ v, e = .returned (.tuple #[v, .int .i64 (unE t f)]) ∧ Row w' 4 v (unN t f) (unC t f)) ∧ Below w.heap.size w w' := by
  have bad : ∀ k, unE t f = k → k ≠ 0 → ∀ (e : Ending) (w' : World), e = .returned (.tuple #[.slice none 0 0, .int .i64 k]) → ∃ v, e = .returned (.tuple #[v, .int .i64 (unE t f)]) ∧ Row w' 4 v (unN t f) (unC t f) := by
    intro k hk h0 e w' he
    refine ⟨_, by rw [hk]; exact he, ?_⟩
    have e1 : unN t f = 0 := if_neg (by rw [hk]; exact h0)
    have e2 : unC t f = [] := if_neg (by rw [hk]; exact h0)
    rw [e1, e2]
    exact Row.nil _ _
  have good : unE t f = 0 → ∀ (e : Ending) (w' : World), (∃ v, e = .returned (.tuple #[v, .int .i64 0]) ∧ Row w' 4 v (t.size / uS f) (ucs t (uS f) (t.size / uS f))) → ∃ v, e = .returned (.tuple #[v, .int .i64 (unE t f)]) ∧ Row w' 4 v (unN t f) (unC t f) := by
    rintro h0 e w' ⟨v, he, hr⟩
    have e1 : unN t f = t.size / uS f := if_pos h0
    have e2 : unC t f = ucs t (uS f) (t.size / uS f) := if_pos h0
    exact ⟨v, by rw [h0]; exact he, by rw [e1, e2]; exact hr⟩
  by_cases h4 : f = 4
  · subst h4
    have hu : uS 4 = 26 := rfl
    by_cases hm : t.size % 26 = 0
    · obtain ⟨n, hn⟩ : ∃ n, t.size = n * 26 := ⟨t.size / 26, by omega⟩
      have hd : t.size / uS 4 = n := by rw [hu]; omega
      refine (RUn_4 t n w hn (by omega)).mono fun e w' hh => ⟨?_, hh.2⟩
      rcases hh.1 with hh | hh
      · exact good (unE_ok (n := n) (by decide) hn hh.1) e w' (by rw [hd]; exact hh.2)
      · exact bad 12 (unE_12 (n := n) (by decide) hn hh.1) (by omega) e w' hh.2
    · exact (RUn_4size t w ht hm).mono fun e w' hh => ⟨bad 11 (unE_11 (by decide) hm) (by omega) e w' hh.1, hh.2⟩
  by_cases h6 : f = 6
  · subst h6
    have hu : uS 6 = 38 := rfl
    by_cases hm : t.size % 38 = 0
    · obtain ⟨n, hn⟩ : ∃ n, t.size = n * 38 := ⟨t.size / 38, by omega⟩
      have hd : t.size / uS 6 = n := by rw [hu]; omega
      refine (RUn_6 t n w hn (by omega)).mono fun e w' hh => ⟨?_, hh.2⟩
      rcases hh.1 with hh | hh
      · exact good (unE_ok (n := n) (by decide) hn hh.1) e w' (by rw [hd]; exact hh.2)
      · exact bad 12 (unE_12 (n := n) (by decide) hn hh.1) (by omega) e w' hh.2
    · exact (RUn_6size t w ht hm).mono fun e w' hh => ⟨bad 11 (unE_11 (by decide) hm) (by omega) e w' hh.1, hh.2⟩
  exact (RUn_fam t f hf w h4 h6).mono fun e w' hh => ⟨bad 7 (unE_7 h4 h6) (by omega) e w' hh.1, hh.2⟩

/-- a row of nodes is a list of nodes -/
theorem row_na {w : World} {v : Value} {n : Nat} {l : List Nod} (h : Row w 4 v n (lcs l)) (hl : l.length = n) : ∃ a cap, v = .slice a n cap ∧ NA w a n (fun i => l.getD i ⟨⟨#[]⟩, 0, ⟨#[]⟩, 0⟩) := by
  rcases h.val with ⟨rfl, h0⟩ | ⟨g, off, cap, rfl, h1, h2, h3, h4, h5, h6⟩
  · subst h0
    exact ⟨none, 0, rfl, fun hlt => absurd hlt (by omega)⟩
  · refine ⟨_, cap, rfl, fun _ => ⟨g, off, rfl, h3, fun i hi => ?_⟩⟩
    obtain ⟨m, hm⟩ : ∃ m, l[i]? = some m := ⟨_, List.getElem?_eq_getElem (by omega)⟩
    have hg : l.getD i ⟨⟨#[]⟩, 0, ⟨#[]⟩, 0⟩ = m := by rw [List.getD, hm]; rfl
    have at_ : ∀ j u, j < 4 → m.cs[j]? = some u → w.cell? ⟨g, off + (i * 4 + j), none⟩ = some u := fun j u hj hu => h4 _ _ (by rw [lcs_at l i j m hm hj]; exact hu)
    show w.cell? ⟨g, off + i * 4, none⟩ = some (.string (l.getD i ⟨⟨#[]⟩, 0, ⟨#[]⟩, 0⟩).id) ∧ _
    simp only [hg]
    exact ⟨at_ 0 _ (by omega) rfl, at_ 1 _ (by omega) rfl, at_ 2 _ (by omega) rfl, at_ 3 _ (by omega) rfl⟩
theorem unC_lcs (t : ByteArray) (f : Int) : ∃ l : List Nod, unC t f = lcs l ∧ l.length = unN t f := by
  unfold unC unN
  by_cases h : unE t f = 0
  · rw [if_pos h, if_pos h]
    exact ⟨_, ucs_lcs t (uS f) _, by simp⟩
  · rw [if_neg h, if_neg h]
    exact ⟨[], rfl, rfl⟩
theorem unN_le (t : ByteArray) (f : Int) (ht : t.size ≤ 70000) : unN t f ≤ 70000 := by
  unfold unN
  split
  · exact Nat.le_trans (Nat.div_le_self _ _) ht
  · omega
/-- SameNodes of two rows with equal cells -/
theorem same_rows (v u : Value) (n : Nat) (l : List Nod) (w : World) (hl : l.length = n) (hn : n ≤ 100000) (hv : Row w 4 v n (lcs l)) (hu : Row w 4 u n (lcs l)) :
    Calls Try.prog 7 #[v, u] w fun e w' => e = .returned (.bool true) ∧ Below w.heap.size w w' := by
  obtain ⟨a, cap, rfl, ha⟩ := row_na hv hl
  obtain ⟨b, cap', rfl, hb⟩ := row_na hu hl
  exact same_eq a n cap b cap' _ w hn ha hb
end Go.Proofs.Ythlkpbpcfkgljaa.Ac

/-
  Nodes: the law NodePacks: its walk.
-/
namespace Go.Proofs.Ythlkpbpcfkgljaa.Zh
open Go Go.RowKit Go.Proofs.Ythlkpbpcfkgljaa.Hz Go.Proofs.Ythlkpbpcfkgljaa.Sx Go.Proofs.Ythlkpbpcfkgljaa.Rg Go.Proofs.Ythlkpbpcfkgljaa.Ac

theorem awake_ok (w : World) : Calls Try.prog 4 #[] w fun e w' => e = .returned (.bool true) ∧ Below w.heap.size w w' := Nh.awake_any w

set_option maxRecDepth 100000 in
set_option maxHeartbeats 800000 in
theorem long_list (a : Option Addr) (len cap : Nat) (t : ByteArray) (f : Int) (w : World) (h : 40 < len) :
    Calls Try.prog 3 #[.slice a len cap, .string t, .int .i64 f] w fun e w' => e = .returned (.bool true) ∧ Below w.heap.size w w' := by
  have h1 : (40 : Int) < (len : Int) := by omega
  have HA := Lib.hid awake_ok
  go_enter Try.func3, Try.ntmps3
  go_wp2_with fail
  refine (HA.out _).mono ?_
  rintro e w1 ⟨rfl, hb⟩
  go_wp2
  go_ret
  exact ⟨rfl, hb⟩
set_option maxRecDepth 100000 in
set_option maxHeartbeats 800000 in
theorem long_text (a : Option Addr) (len cap : Nat) (t : ByteArray) (f : Int) (w : World) (h : ¬ 40 < len) (ht : 2000 < t.size) :
    Calls Try.prog 3 #[.slice a len cap, .string t, .int .i64 f] w fun e w' => e = .returned (.bool true) ∧ Below w.heap.size w w' := by
  have h1 : ¬ (40 : Int) < (len : Int) := by omega
  have h2 : (2000 : Int) < (t.size : Int) := by omega
  have HA := Lib.hid awake_ok
  go_enter Try.func3, Try.ntmps3
  go_wp2_with fail
  refine (HA.out _).mono ?_
  rintro e w1 ⟨rfl, hb⟩
  go_wp2
  go_ret
  exact ⟨rfl, hb⟩

set_option maxRecDepth 100000 in
set_option maxHeartbeats 2000000 in
theorem wrong (a : Option Addr) (len cap : Nat) (N : Nat → Nod) (t : ByteArray) (f : Int) (w : World) (h : len ≤ 40) (ht : t.size ≤ 2000) (hf : (Lit.int .i64 f).wf = true) (hN : NA w a len N) (hno : ¬ ∀ i, i < len → (N i).ok) :
    Calls Try.prog 3 #[.slice a len cap, .string t, .int .i64 f] w fun e w' => e = .returned (.bool true) ∧ Below w.heap.size w w' := by
  have h1 : ¬ (40 : Int) < (len : Int) := by omega
  have h2 : ¬ (2000 : Int) < (t.size : Int) := by omega
  have HA := Lib.hid awake_ok
  have HU := Lib.hid (fun w => NUnpack_any t f w (by omega))
  have HR := Lib.hid (fun w => RNUnpack_any t f hf w (by omega))
  have HP := Lib.hid (fun w (hN : NA w a len N) => NPack_any a len cap N w (by omega) hN)
  have HO := Lib.hid (fun w (hN : NA w a len N) => right_any a len cap N w (by omega) hN)
  have hn := unN_le t f (by omega)
  obtain ⟨l, hl, hll⟩ := unC_lcs t f
  rw [hl] at HU HR
  have e1 : npS N len = ⟨#[]⟩ := if_neg hno
  have e2 : npT N len = ⟨#[]⟩ := if_neg hno
  have e3 : npE N len = 1 := if_neg hno
  rw [e1, e2, e3] at HP
  rw [decide_eq_false hno] at HO
  have HS := Lib.hid (fun v u w => same_rows v u (unN t f) l w hll (by omega))
  have HN := Lib.hid hN
  clear hN hno e1 e2 e3 hl hll
  generalize unE t f = E at HU HR
  generalize unN t f = n at HU HR HS hn
  have hEE : (E != E) = false := by simp
  have hcat : ((⟨#[]⟩ : ByteArray) ++ ⟨#[]⟩).toList = [] := by rw [show ((⟨#[]⟩ : ByteArray) ++ ⟨#[]⟩) = ⟨#[]⟩ from rfl]; simp [ByteArray.toList_eq]
  go_enter Try.func3, Try.ntmps3
  go_wp2_with fail
  refine (HU.out _).mono ?_
  rintro e w1 ⟨⟨v1, rfl, hr1⟩, hb1⟩
  go_wp2_with fail
  refine (HR.out _).mono ?_
  rintro e w2 ⟨⟨v2, rfl, hr2⟩, hb2⟩
  have hb2' := blw hb1 hb2
  go_wp2_with fail
  refine (HS.out _ _ _ (hr1.kept (gb_below hb2 none) (by simp)) hr2).mono ?_
  rintro e w3 ⟨rfl, hb3⟩
  have hb3' := blw hb2' hb3
  clear hr1 hr2 hb1 hb2 hb3 hb2'
  go_wp2_with fail
  refine (HP.out _ (HN.out.below hb3')).mono ?_
  rintro e w4 ⟨rfl, hb4⟩
  have hb4' := blw hb3' hb4
  clear hb3' hb4
  go_wp2_with fail
  refine (HO.out _ (HN.out.below hb4')).mono ?_
  rintro e w5 ⟨rfl, hb5⟩
  have hb5' := blw hb4' hb5
  clear hb4' hb5
  go_wp2_with fail
  refine (HA.out _).mono ?_
  rintro e w6 ⟨rfl, hb6⟩
  have hb6' := blw hb5' hb6
  clear hb5' hb6
  go_wp2
  go_ret
  exact ⟨rfl, hb6'⟩
end Go.Proofs.Ythlkpbpcfkgljaa.Zh

/-
  Nodes: the law NodePacks: its walk at a right list.
-/
namespace Go.Proofs.Ythlkpbpcfkgljaa.Zh
open Go Go.RowKit Go.Proofs.Ythlkpbpcfkgljaa.Hz Go.Proofs.Ythlkpbpcfkgljaa.Sx Go.Proofs.Ythlkpbpcfkgljaa.Rg Go.Proofs.Ythlkpbpcfkgljaa.Ac

theorem own_is {g off n cap b : Nat} (h : (Value.slice (some ⟨g, off, none⟩) n cap).ownBlock = some b) : g = b := by simpa [Value.ownBlock] using h
theorem own_lt {w : World} {v : Value} {n : Nat} {xs : List Value} (h : Row w 4 v n xs) (g : Nat) (hg : v.ownBlock = some g) : g < w.heap.size := by
  rcases h.val with ⟨rfl, _⟩ | ⟨g', off, cap, rfl, _, _, h3, _⟩
  · cases hg
  · have : g' = g := by simpa [Value.ownBlock] using hg
    omega

set_option maxRecDepth 100000 in
set_option maxHeartbeats 4000000 in
theorem good (a : Option Addr) (len cap : Nat) (N : Nat → Nod) (t : ByteArray) (f : Int) (w : World) (h : len ≤ 40) (ht : t.size ≤ 2000) (hf : (Lit.int .i64 f).wf = true) (hN : NA w a len N) (hok : ∀ i, i < len → (N i).ok) :
    Calls Try.prog 3 #[.slice a len cap, .string t, .int .i64 f] w fun e w' => e = .returned (.bool true) ∧ Below w.heap.size w w' := by
  have h1 : ¬ (40 : Int) < (len : Int) := by omega
  have h2 : ¬ (2000 : Int) < (t.size : Int) := by omega
  have HA := Lib.hid awake_ok
  have HU := Lib.hid (fun w => NUnpack_any t f w (by omega))
  have HR := Lib.hid (fun w => RNUnpack_any t f hf w (by omega))
  have HP := Lib.hid (fun w (hN : NA w a len N) => NPack_any a len cap N w (by omega) hN)
  have HO := Lib.hid (fun w (hN : NA w a len N) => right_any a len cap N w (by omega) hN)
  have HQ := Lib.hid (fun w (hN : NA w a len N) => RPacks_any a len cap N w (by omega) hN hok)
  have hn := unN_le t f (by omega)
  obtain ⟨l, hl, hll⟩ := unC_lcs t f
  rw [hl] at HU HR
  have e1 : npS N len = (packs N len).1 := if_pos hok
  have e2 : npT N len = (packs N len).2 := if_pos hok
  have e3 : npE N len = 0 := if_pos hok
  rw [e1, e2, e3] at HP
  rw [decide_eq_true hok] at HO
  have HS := Lib.hid (fun v u w => same_rows v u (unN t f) l w hll (by omega))
  have hs1 := (packs_size N len hok).1
  have hs2 := (packs_size N len hok).2
  have u4 := un_pd (packs N len).1 true (fs N true len) (packs_pd N true len hok)
  have u6 := un_pd (packs N len).2 false (fs N false len) (packs_pd N false len hok)
  have H4 := Lib.hid (fun w => NUnpack_any (packs N len).1 4 w (by omega))
  have H6 := Lib.hid (fun w => NUnpack_any (packs N len).2 6 w (by omega))
  rw [show unE (packs N len).1 4 = 0 from u4.1, show unN (packs N len).1 4 = _ from u4.2.1, show unC (packs N len).1 4 = _ from u4.2.2] at H4
  rw [show unE (packs N len).2 6 = 0 from u6.1, show unN (packs N len).2 6 = _ from u6.2.1, show unC (packs N len).2 6 = _ from u6.2.2] at H6
  have hl4 := fs_len N true len
  have hl6 := fs_len N false len
  have HS4 := Lib.hid (fun v u w => same_rows v u (fs N true len).length (fs N true len) w rfl (by omega))
  have HS6 := Lib.hid (fun v u w => same_rows v u (fs N false len).length (fs N false len) w rfl (by omega))
  have HN := Lib.hid hN
  clear hN hok e1 e2 e3 hl hll u4 u6 hl4 hl6
  generalize (packs N len).1 = A at HP HQ H4 hs1
  generalize (packs N len).2 = B at HP HQ H6 hs2
  generalize unE t f = E at HU HR
  generalize unN t f = n at HU HR HS hn
  have hEE : (E != E) = false := by simp
  have hi3 : (Try.prog.info? 36).map (fun i => (i.zero, i.size, i.bytes)) = some (some (.agg #[.string ⟨#[]⟩, .int .i64 0, .string ⟨#[]⟩, .int .i64 0]), 4, 48) := by kernel_rfl
  obtain ⟨i0, hi, hz0, hz1, hz2⟩ := info_parts hi3
  have H0 := Lib.hid hi
  have H1 := Lib.hid hz0
  have H2 := Lib.hid hz1
  have H3 := Lib.hid hz2
  clear hi hz0 hz1 hz2 hi3
  go_enter Try.func3, Try.ntmps3
  go_wp2_with fail
  refine (HU.out _).mono ?_
  rintro e w1 ⟨⟨v1, rfl, hr1⟩, hb1⟩
  go_wp2_with fail
  refine (HR.out _).mono ?_
  rintro e w2 ⟨⟨v2, rfl, hr2⟩, hb2⟩
  have hb2' := blw hb1 hb2
  go_wp2_with fail
  refine (HS.out _ _ _ (hr1.kept (gb_below hb2 none) (by simp)) hr2).mono ?_
  rintro e w3 ⟨rfl, hb3⟩
  have hb3' := blw hb2' hb3
  clear hr1 hr2 hb1 hb2 hb3 hb2'
  go_wp2_with fail
  refine (HP.out _ (HN.out.below hb3')).mono ?_
  rintro e w4 ⟨rfl, hb4⟩
  have hb4' := blw hb3' hb4
  clear hb3' hb4
  go_wp2_with fail
  refine (HO.out _ (HN.out.below hb4')).mono ?_
  rintro e w5 ⟨rfl, hb5⟩
  have hb5' := blw hb4' hb5
  clear hb4' hb5
  go_wp2_with fail
  refine (HQ.out _ (HN.out.below hb5')).mono ?_
  rintro e w6 ⟨rfl, hb6⟩
  have HB6 := Lib.hid (blw hb5' hb6)
  clear hb5' hb6
  have HN6 := Lib.hid (HN.out.below HB6.out)
  go_wp2_with fail
  go_loopw [91, 16, 17] (fun i x y wr => ∃ (k : Nat), k ≤ len ∧ i = .int .i64 (k : Int) ∧ Hid (Row wr 4 x (fs N true k).length (lcs (fs N true k))) ∧ Hid (Row wr 4 y (fs N false k).length (lcs (fs N false k))) ∧ Hid (∀ b, x.ownBlock = some b → w6.heap.size ≤ b ∧ y.ownBlock ≠ some b) ∧ Hid (∀ b, y.ownBlock = some b → w6.heap.size ≤ b) ∧ Hid (w6.grownBy wr none)) (fun i _ _ _ => len - (Ac.intOf i).toNat)
  case atStart => exact ⟨0, Nat.zero_le _, rfl, Lib.hid (Row.nil _ _), Lib.hid (Row.nil _ _), Lib.hid (fun b hb => by cases hb), Lib.hid (fun b hb => by cases hb), Lib.hid (gb_refl _ _)⟩
  case round =>
    obtain ⟨k, hk, rfl, HX, HY, HOX, HOY, HG⟩ := hrel
    by_cases hkl : k < len
    · have hN := HN6.out.below (below_gb HG.out)
      obtain ⟨b, off, rfl, hb, hc⟩ := hN (by omega)
      obtain ⟨c0, c1, c2, c3⟩ := hc k hkl
      clear hc hN
      have hlx := fs_len N true k
      have hly := fs_len N false k
      by_cases h4 : (N k).f = 4
      · have hff : ((N k).f == 4) = true := by simpa using h4
        have HFX := Lib.hid (fs_yes N true k (by rw [h4]; rfl))
        have HFY := Lib.hid (fs_no N false k (by rw [h4]; rfl))
        clear h4
        have hnews : Hid (∀ j u, (N k).cs[j]? = some u → ((wr.alloc (.cells #[.string (N k).id, .int .i64 (N k).f, .string (N k).ip, .int .i64 (N k).p] 36)).alloc (.cells #[.string (N k).id, .int .i64 (N k).f, .string (N k).ip, .int .i64 (N k).p] 36)).cell? ((⟨wr.heap.size + 1, 0, none⟩ : Addr).add j) = some u) := Lib.hid (by
          have := World.news_of_block (World.alloc_heap_new (wr.alloc (.cells #[.string (N k).id, .int .i64 (N k).f, .string (N k).ip, .int .i64 (N k).p] 36)) (.cells #[.string (N k).id, .int .i64 (N k).f, .string (N k).ip, .int .i64 (N k).p] 36))
          rw [World.size_alloc] at this
          exact this)
        have hone : Hid (∀ u ∈ (N k).cs, u.oneCell' = true) := Lib.hid (by unfold Nod.cs; simp [Value.oneCell'])
        have g8 : wr.grownBy ((wr.alloc (.cells #[.string (N k).id, .int .i64 (N k).f, .string (N k).ip, .int .i64 (N k).p] 36)).alloc (.cells #[.string (N k).id, .int .i64 (N k).f, .string (N k).ip, .int .i64 (N k).p] 36)) none := gb_trans (gb_alloc _ _ _) (gb_alloc _ _ _)
        have hrow1 := Lib.hid (HX.out.kept g8 (by simp))
        have hbn1 : (fs N true k).length + 1 ≤ maxLen := by unfold maxLen; omega
        have hbn2 : ((fs N true k).length + 1) * 48 ≤ 140737488355328 := by omega
        have HV8 := Lib.hid g8
        clear g8
        go_wp2_with (at_builtin; go_loud (refine wpList_append_row rfl (.tmp 99) (.tmp 101) 22 rfl 36 i0 (.agg #[.string ⟨#[]⟩, .int .i64 0, .string ⟨#[]⟩, .int .i64 0]) 4 48 Try.underlying22 H0.out H1.out H2.out H3.out rfl (by decide) u16 (fs N true k).length (lcs (fs N true k)) rfl hrow1.out ⟨wr.heap.size + 1, 0, none⟩ 1 (N k).cs (by simp [Act.eval]) rfl hnews.out hone.out hbn1 hbn2 ?_; intro g off' cap' w9 hrowA hgrow hat))
        have hsz := HV8.out.size
        have hrowB : Row w9 4 (.slice (some ⟨g, off', none⟩) ((fs N true k).length + 1) cap') (fs N true (k + 1)).length (lcs (fs N true (k + 1))) := by
          rw [HFX.out, lcs_snoc, List.length_append]; exact hrowA
        have hyk : Row w9 4 u17 (fs N false (k + 1)).length (lcs (fs N false (k + 1))) := by
          rw [HFY.out]
          exact (HY.out.kept HV8.out (by simp)).kept hgrow (fun b hb e => (HOX.out b e).2 hb)
        have hgb : w6.grownBy w9 none := gb_ownr (gb_trans HG.out HV8.out) hgrow (fun b hb => (HOX.out b hb).1)
        have hgw : w6.heap.size ≤ g := by
          rcases hat with e | e
          · exact (HOX.out g e).1
          · have := HG.out.size
            omega
        have hne : u17.ownBlock ≠ some g := fun hb => by
          rcases hat with e | e
          · exact (HOX.out g e).2 hb
          · have := own_lt HY.out g hb
            omega
        exact ⟨⟨k + 1, by omega, by go_num, Lib.hid hrowB, Lib.hid hyk, Lib.hid (fun b hb => by cases own_is hb; exact ⟨hgw, hne⟩), HOY, Lib.hid hgb⟩, by simp [Ac.intOf]; omega⟩
      · have hff : ((N k).f == 4) = false := by simpa using h4
        have HFX := Lib.hid (fs_yes N false k (by rw [decide_eq_false h4]))
        have HFY := Lib.hid (fs_no N true k (by rw [decide_eq_false h4]; rfl))
        clear h4
        have hnews : Hid (∀ j u, (N k).cs[j]? = some u → ((wr.alloc (.cells #[.string (N k).id, .int .i64 (N k).f, .string (N k).ip, .int .i64 (N k).p] 36)).alloc (.cells #[.string (N k).id, .int .i64 (N k).f, .string (N k).ip, .int .i64 (N k).p] 36)).cell? ((⟨wr.heap.size + 1, 0, none⟩ : Addr).add j) = some u) := Lib.hid (by
          have := World.news_of_block (World.alloc_heap_new (wr.alloc (.cells #[.string (N k).id, .int .i64 (N k).f, .string (N k).ip, .int .i64 (N k).p] 36)) (.cells #[.string (N k).id, .int .i64 (N k).f, .string (N k).ip, .int .i64 (N k).p] 36))
          rw [World.size_alloc] at this
          exact this)
        have hone : Hid (∀ u ∈ (N k).cs, u.oneCell' = true) := Lib.hid (by unfold Nod.cs; simp [Value.oneCell'])
        have g8 : wr.grownBy ((wr.alloc (.cells #[.string (N k).id, .int .i64 (N k).f, .string (N k).ip, .int .i64 (N k).p] 36)).alloc (.cells #[.string (N k).id, .int .i64 (N k).f, .string (N k).ip, .int .i64 (N k).p] 36)) none := gb_trans (gb_alloc _ _ _) (gb_alloc _ _ _)
        have hrow1 := Lib.hid (HY.out.kept g8 (by simp))
        have hbn1 : (fs N false k).length + 1 ≤ maxLen := by unfold maxLen; omega
        have hbn2 : ((fs N false k).length + 1) * 48 ≤ 140737488355328 := by omega
        have HV8 := Lib.hid g8
        clear g8
        go_wp2_with (at_builtin; go_loud (refine wpList_append_row rfl (.tmp 103) (.tmp 105) 22 rfl 36 i0 (.agg #[.string ⟨#[]⟩, .int .i64 0, .string ⟨#[]⟩, .int .i64 0]) 4 48 Try.underlying22 H0.out H1.out H2.out H3.out rfl (by decide) u17 (fs N false k).length (lcs (fs N false k)) rfl hrow1.out ⟨wr.heap.size + 1, 0, none⟩ 1 (N k).cs (by simp [Act.eval]) rfl hnews.out hone.out hbn1 hbn2 ?_; intro g off' cap' w9 hrowA hgrow hat))
        have hsz := HV8.out.size
        have hrowB : Row w9 4 (.slice (some ⟨g, off', none⟩) ((fs N false k).length + 1) cap') (fs N false (k + 1)).length (lcs (fs N false (k + 1))) := by
          rw [HFX.out, lcs_snoc, List.length_append]; exact hrowA
        have hyk : Row w9 4 u16 (fs N true (k + 1)).length (lcs (fs N true (k + 1))) := by
          rw [HFY.out]
          exact (HX.out.kept HV8.out (by simp)).kept hgrow (fun b hb e => (HOX.out b hb).2 e)
        have hgb : w6.grownBy w9 none := gb_ownr (gb_trans HG.out HV8.out) hgrow (fun b hb => HOY.out b hb)
        have hgw : w6.heap.size ≤ g := by
          rcases hat with e | e
          · exact HOY.out g e
          · have := HG.out.size
            omega
        have hne : u16.ownBlock ≠ some g := fun hb => by
          rcases hat with e | e
          · exact (HOX.out g hb).2 e
          · have := own_lt HX.out g hb
            omega
        exact ⟨⟨k + 1, by omega, by go_num, Lib.hid hyk, Lib.hid hrowB, Lib.hid (fun b hb => ⟨(HOX.out b hb).1, fun e => by cases own_is e; exact hne hb⟩), Lib.hid (fun b hb => by cases own_is hb; exact hgw), Lib.hid hgb⟩, by simp [Ac.intOf]; omega⟩
    · obtain rfl : k = len := by omega
      have HG' := Lib.hid (blw HB6.out (below_gb HG.out))
      go_wp2_with fail
      refine (H4.out _).mono ?_
      rintro e w7 ⟨⟨v7, rfl, hr7⟩, hb7⟩
      go_wp2_with fail
      refine (H6.out _).mono ?_
      rintro e w8 ⟨⟨v8, rfl, hr8⟩, hb8⟩
      have hb8' := blw hb7 hb8
      have hrx := HX.out.kept (gb_below hb8' none) (by simp)
      have hry := HY.out.kept (gb_below hb8' none) (by simp)
      have hr7' := hr7.kept (gb_below hb8 none) (by simp)
      go_wp2_with fail
      refine (HS4.out _ _ _ hr7' hrx).mono ?_
      rintro e w9 ⟨rfl, hb9⟩
      have hry9 := hry.kept (gb_below hb9 none) (by simp)
      have hr89 := hr8.kept (gb_below hb9 none) (by simp)
      have hb9' := blw hb8' hb9
      go_wp2_with fail
      refine (HS6.out _ _ _ hr89 hry9).mono ?_
      rintro e wa ⟨rfl, hba⟩
      have hba' := blw hb9' hba
      go_wp2_with fail
      refine (HA.out _).mono ?_
      rintro e wb ⟨rfl, hbb⟩
      have hbb' := blw HG'.out (blw hba' hbb)
      go_wp2
      go_ret
      exact ⟨rfl, hbb'⟩
end Go.Proofs.Ythlkpbpcfkgljaa.Zh
