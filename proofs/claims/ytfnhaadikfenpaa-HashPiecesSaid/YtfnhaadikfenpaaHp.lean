/-
  HashPieces: the walk.
-/
import Derived.Test.YtfnhaadikfenpaaHk
import Derived.WalkKit
import Derived.WalkSpells
import Derived.WalkLawsBesides
import Derived.LoopTactic
import Derived.Outline
import Derived.Deep.QuietTactic
import Derived.BigQuiet
import Derived.BigRegion
import Derived.RegionTactic
import Derived.Deep.RegionWith
import Derived.Lib.Hide
namespace Go.Proofs.Ytfnhaadikfenpaa.Hh
open Go Go.RowKit







open Rw (StrRow)

set_option maxHeartbeats 400000 in
theorem copy_nil (w : World) : Calls Try.prog 23 #[.pointer none] w fun e w' => e = .returned (.pointer none) ∧ w = w' := by
  go_enter Try.func23, Try.ntmps23
  go_wp2
  go_ret
  exact ⟨rfl, rfl⟩

set_option maxHeartbeats 400000 in
theorem sum_nil (w : World) : Calls Try.prog 24 #[.pointer none] w fun e w' => e = .returned (.string ⟨#[]⟩) ∧ w = w' := by
  go_enter Try.func24, Try.ntmps24
  go_wp2
  go_ret
  exact ⟨rfl, rfl⟩

set_option maxHeartbeats 400000 in
theorem len_nil (w : World) : Calls Try.prog 25 #[.pointer none] w fun e w' => e = .returned (.int .i64 0) ∧ w = w' := by
  go_enter Try.func25, Try.ntmps25
  go_wp2
  go_ret
  exact ⟨rfl, rfl⟩

set_option maxHeartbeats 400000 in
theorem add_nil (s : ByteArray) (w : World) : Calls Try.prog 26 #[.pointer none, .string s] w fun e w' => e = .returned (.tuple #[]) ∧ w = w' := by
  go_enter Try.func26, Try.ntmps26
  go_wp2
  refine bodyPost_ret (results_none rfl _ _ _) rfl ?_
  exact ⟨rfl, rfl⟩

set_option maxHeartbeats 400000 in
theorem copy_any (b : Nat) (w : World) (l : List UInt8) (H : HL w b l) :
    Calls Try.prog 23 #[.pointer (some ⟨b, 0, none⟩)] w fun e w' => e = .returned (.pointer (some ⟨w.heap.size, 0, none⟩)) ∧ HL w' w.heap.size l ∧ Below w.heap.size w w' := by
  unfold HL at H ⊢
  generalize Dg.run l Dg.st0 = x0 at H ⊢
  generalize Dg.run l Dg.st1 = x1 at H ⊢
  generalize Dg.run l Dg.st2 = x2 at H ⊢
  generalize Dg.run l Dg.st3 = x3 at H ⊢
  have c0 := H.c0
  have c1 := H.c1
  have c2 := H.c2
  have c3 := H.c3
  have c4 := H.c4
  clear H
  go_enter Try.func23, Try.ntmps23
  go_wp2
  go_ret
  exact ⟨rfl, ⟨_, heap_alloc_new w _⟩, (Below.refl _ _).alloc (Nat.le_refl _) _⟩

set_option maxHeartbeats 800000 in
theorem pieces_many (a : Option Addr) (len cap : Nat) (ss : List ByteArray) (at' : Int) (w : World) (hR : StrRow w a len cap ss) (hn : 50 < len) :
    Calls Try.prog 6 #[.slice a len cap, .int .i64 at'] w fun e w' => e = .returned (.bool true) ∧ Below w.heap.size w w' := by
  obtain ⟨h1, h2, h3, h4⟩ := hR
  obtain ⟨b, off, rfl, hbl, hcell⟩ := h4 (by omega)
  go_enter Try.func6, Try.ntmps6
  go_wp2_with fail
  go_loop [5, 7, 16] (fun t _ i => ∃ (k : Nat) (m : Int), k ≤ len ∧ i = .int .i64 k ∧ t = .int .i64 m) (fun _ _ i => len - (intOf i).toNat)
  case atStart => exact ⟨0, _, Nat.zero_le _, rfl, rfl⟩
  case round =>
    obtain ⟨k, m, hk, rfl, rfl⟩ := hrel
    by_cases hlt : k < len
    · have hc := hcell k hlt
      clear hcell h4
      go_wp2_with fail
      exact ⟨⟨k + 1, _, by omega, by go_num, rfl⟩, by simp [intOf]; omega⟩
    · have hk' : k = len := by omega
      clear h4 hcell
      by_cases hm : (3000 : Int) < m
      all_goals
        go_wp2_with fail
        refine (awake_any _).mono ?_
        rintro e w1 ⟨rfl, hb1⟩
        go_wp2
        go_ret
        exact ⟨rfl, hb1⟩

set_option maxHeartbeats 800000 in
theorem pieces_long (a : Option Addr) (len cap : Nat) (ss : List ByteArray) (at' : Int) (w : World) (hR : StrRow w a len cap ss) (hn : len ≤ 50) (hbig : 3000 < tot ss) :
    Calls Try.prog 6 #[.slice a len cap, .int .i64 at'] w fun e w' => e = .returned (.bool true) ∧ Below w.heap.size w w' := by
  obtain ⟨h1, h2, h3, h4⟩ := hR
  go_enter Try.func6, Try.ntmps6
  go_wp2_with fail
  go_loop [5, 7, 16] (fun t _ i => ∃ (k : Nat), k ≤ len ∧ i = .int .i64 k ∧ t = .int .i64 ((tot (ss.take k) : Nat) : Int)) (fun _ _ i => len - (intOf i).toNat)
  case atStart => exact ⟨0, Nat.zero_le _, rfl, by simp [tot]⟩
  case round =>
    obtain ⟨k, hk, rfl, rfl⟩ := hrel
    by_cases hlt : k < len
    · obtain ⟨b, off, rfl, hbl, hcell⟩ := h4 (by omega)
      have hks : k < ss.length := by omega
      have hc := hcell k hlt
      have hg : ss.getD k ByteArray.empty = ss[k] := by simp [List.getD, hks]
      rw [hg] at hc
      have hsz := h3 ss[k] (List.getElem_mem hks)
      have ht := tot_take ss k hks
      have hB := tot_le 140737488351232 (ss.take k) (fun s hs => h3 s (List.mem_of_mem_take hs))
      rw [List.length_take] at hB
      have hB' : tot (ss.take k) ≤ 14073748835123200 := by omega
      have Ht := Lib.hid ht
      clear hcell h4 hg ht hB hbig
      generalize ss[k] = s at hc hsz Ht
      go_wp2_with fail
      exact ⟨⟨k + 1, by omega, by go_num, by rw [Ht.out]; go_num⟩, by simp [intOf]; omega⟩
    · have hk' : k = ss.length := by omega
      rw [hk', List.take_length]
      have hB := tot_le 140737488351232 ss h3
      have hB' : tot ss ≤ 14073748835123200 := by omega
      clear h4 hB
      go_wp2_with fail
      refine (awake_any _).mono ?_
      rintro e w1 ⟨rfl, hb1⟩
      go_wp2
      go_ret
      exact ⟨rfl, hb1⟩

/-- 'more' -/
def moreT : List UInt8 := [109, 111, 114, 101]
/-- what the second hasher is: none yet, or one of its own with the bytes of 'first' and 'more' -/
def Second (w : World) (g : Nat) (c f : Value) : Prop :=
  (c = .pointer none ∧ f = .string ⟨#[]⟩) ∨ ∃ (b : Nat) (y : ByteArray), g < b ∧ c = .pointer (some ⟨b, 0, none⟩) ∧ f = .string y ∧ y.size ≤ 3000 ∧ HL w b (y.data.toList ++ moreT)
theorem Second.only {w w' : World} {g : Nat} {c f : Value} (h : Second w g c f) (ho : Only g w w') : Second w' g c f := by
  rcases h with h | ⟨b, y, hb, h1, h2, h3, h4⟩
  · exact .inl h
  · exact .inr ⟨b, y, hb, h1, h2, h3, Hs.only h4 ho (by omega)⟩
theorem Second.below {w w' : World} {g : Nat} {c f : Value} (h : Second w g c f) (hb : Below w.heap.size w w') : Second w' g c f := by
  rcases h with h | ⟨b, y, hg, h1, h2, h3, h4⟩
  · exact .inl h
  · exact .inr ⟨b, y, hg, h1, h2, h3, Hs.below h4 hb (Hs.lt h4)⟩
theorem cat_len : ∀ (ss : List ByteArray), (cat ss).length = tot ss
  | [] => rfl
  | s :: ss => by
    have h := cat_len ss
    have h2 := len_data s
    unfold cat tot at h ⊢
    rw [List.map_cons, List.flatten_cons, List.length_append, h, h2, List.map_cons, List.sum_cons]

set_option maxHeartbeats 3200000 in
theorem pieces_in (a : Option Addr) (len cap : Nat) (ss : List ByteArray) (at' : Int) (w : World) (hR : StrRow w a len cap ss) (hn : len ≤ 50) (hbig : tot ss ≤ 3000) :
    Calls Try.prog 6 #[.slice a len cap, .int .i64 at'] w fun e w' => e = .returned (.bool true) ∧ Below w.heap.size w w' := by
  obtain ⟨h1, h2, h3, h4⟩ := hR
  go_enter Try.func6, Try.ntmps6
  go_wp2_with fail
  go_loop [5, 7, 16] (fun t _ i => ∃ (k : Nat), k ≤ len ∧ i = .int .i64 k ∧ t = .int .i64 ((tot (ss.take k) : Nat) : Int)) (fun _ _ i => len - (intOf i).toNat)
  case atStart => exact ⟨0, Nat.zero_le _, rfl, by simp [tot]⟩
  case round =>
    obtain ⟨k, hk, rfl, rfl⟩ := hrel
    by_cases hlt : k < len
    · obtain ⟨b, off, rfl, hbl, hcell⟩ := h4 (by omega)
      have hks : k < ss.length := by omega
      have hc := hcell k hlt
      have hg : ss.getD k ByteArray.empty = ss[k] := by simp [List.getD, hks]
      rw [hg] at hc
      have hsz := h3 ss[k] (List.getElem_mem hks)
      have ht := tot_take ss k hks
      have hB := tot_le 140737488351232 (ss.take k) (fun s hs => h3 s (List.mem_of_mem_take hs))
      rw [List.length_take] at hB
      have hB' : tot (ss.take k) ≤ 14073748835123200 := by omega
      have Ht := Lib.hid ht
      clear hcell h4 hg ht hB hbig
      generalize ss[k] = s at hc hsz Ht
      go_wp2_with fail
      exact ⟨⟨k + 1, by omega, by go_num, by rw [Ht.out]; go_num⟩, by simp [intOf]; omega⟩
    · have hk' : k = ss.length := by omega
      rw [hk', List.take_length]
      have hd1 : decide ((3000 : Int) < ((tot ss : Nat) : Int)) = false := by simp; omega
      have hd2 : decide ((50 : Int) < (len : Int)) = false := by simp; omega
      go_wp2_with fail
      refine (new_any _).mono ?_
      rintro e w1 ⟨rfl, hH1, hb1⟩
      go_wp2_with fail
      refine (copy_nil _).mono ?_
      rintro e w1' ⟨rfl, rfl⟩
      go_wp2_with fail
      refine (sum_nil _).mono ?_
      rintro e w1' ⟨rfl, rfl⟩
      go_wp2_with fail
      refine (len_nil _).mono ?_
      rintro e w1' ⟨rfl, rfl⟩
      go_wp2_with fail
      refine (add_nil _ _).mono ?_
      rintro e w1' ⟨rfl, rfl⟩
      go_wp2_with fail
      clear hlt hk' hk k
      go_loopw [9, 10, 11, 51] (fun c y f i wr => ∃ (k : Nat), k ≤ len ∧ i = .int .i64 k ∧ (∃ yy : ByteArray, y = .string yy ∧ yy.data.toList = cat (ss.take k)) ∧ HL wr w.heap.size (cat (ss.take k)) ∧ Second wr w.heap.size c f ∧ Below w.heap.size w wr) (fun _ _ _ i _ => len - (intOf i).toNat)
      case atStart => exact ⟨0, Nat.zero_le _, rfl, ⟨_, rfl, by simp [cat]⟩, by simpa [cat] using hH1, .inl ⟨rfl, rfl⟩, hb1⟩
      case round =>
      rename_i c f
      obtain ⟨k, hk, rfl, ⟨yy, rfl, hy⟩, hH, hS, hb⟩ := hrel
      by_cases hlt : k < len
      · obtain ⟨b, off, rfl, hbl, hcell⟩ := h4 (by omega)
        have hks : k < ss.length := by omega
        have hc := hcell k hlt
        rw [← hb.cell (p := ⟨b, off + k, none⟩) hbl] at hc
        have hct := cat_take ss k hks
        have hg : ss.getD k ByteArray.empty = ss[k] := by simp [List.getD, hks]
        rw [hg] at hc hct
        have hl0 := cat_len (ss.take k)
        have hle0 := cat_take_le ss k
        have hle1 := cat_take_le ss (k + 1)
        rw [cat_len ss] at hle0 hle1
        have hys : yy.size = (cat (ss.take k)).length := by rw [← len_data, hy]
        obtain ⟨L1, hL1⟩ : ∃ L1, cat (ss.take (k + 1)) = L1 := ⟨_, rfl⟩
        rw [hL1] at hct hle1
        generalize ss[k] = s at hc hct
        have hl1 : L1.length = yy.size + s.size := by rw [hct, List.length_append, hys, len_data]
        have hy2 : (yy ++ s).data.toList = L1 := by rw [ByteArray.data_append, hct, ← hy]; simp
        have hy0 : yy.size ≤ 3000 := by omega
        have hs0 : s.size ≤ 3000 := by omega
        obtain ⟨D, hD⟩ : ∃ D, Dg.sum L1 = D := ⟨_, rfl⟩
        have Hct := Lib.hid hct
        have HL1 := Lib.hid hL1
        have Hl1 := Lib.hid hl1
        have Hy2 := Lib.hid hy2
        have HD := Lib.hid hD
        have HL0 := Lib.hid hys.symm
        have Hy := Lib.hid hy
        clear hct hL1 hl1 hy2 hD hys hl0 hle0 hle1 hy hg hcell h4
        by_cases hat : (k : Int) = at'
        · have hat' : ((k : Int) == at') = true := by simpa using hat
          clear hat hS
          go_wp2_with fail
          refine (copy_any w.heap.size _ _ hH).mono ?_
          rintro e w2 ⟨rfl, hC2, hb2'⟩
          have hlg := Hs.lt hH
          have hHc : HL w2 w.heap.size (cat (ss.take k)) := Hs.below hH hb2' hlg
          go_wp2_with fail
          refine (add_any _ _ (cat (ss.take k)) ⟨#[109, 111, 114, 101]⟩ (by rw [HL0.out]; show yy.size + 4 ≤ maxLen; unfold maxLen; omega) hC2).mono ?_
          rintro e w3 ⟨rfl, hC3, ho3⟩
          have hH2 : HL w3 w.heap.size (cat (ss.take k)) := Hs.only hHc ho3 (by omega)
          have hS2 : Second w3 w.heap.size (.pointer (some ⟨wr.heap.size, 0, none⟩)) (.string yy) := .inr ⟨wr.heap.size, yy, hlg, rfl, rfl, hy0, by rw [Hy.out]; exact hC3⟩
          have hb2 : Below w.heap.size w w3 := (blw hb hb2').trans (ho3.below (Nat.le_trans hb.size hb2'.size) (by omega))
          clear hC2 hC3 hHc ho3 hb2' hH hb
          go_wp2_with fail
          refine (add_any w.heap.size _ (cat (ss.take k)) s (by rw [HL0.out]; unfold maxLen; omega) hH2).mono ?_
          rintro e w4 ⟨rfl, hH4, ho4⟩
          rw [← Hct.out] at hH4
          have hS4 := hS2.only ho4
          have hb4 := hb2.trans (ho4.below hb2.size (Nat.le_refl _))
          go_wp2_with fail
          refine (sum_any _ _ _ hH4).mono ?_
          rintro e w5 ⟨rfl, hb5⟩
          have hH5 : HL w5 w.heap.size L1 := Hs.below hH4 hb5 (Hs.lt hH4)
          have hS5 := hS4.below hb5
          rw [HD.out]
          go_wp2_with fail
          refine (RSum_any _ _ (by rw [ByteArray.size_append]; unfold maxLen; omega)).mono ?_
          rintro e w6 ⟨rfl, hb6⟩
          have hH6 : HL w6 w.heap.size L1 := Hs.below hH5 hb6 (Hs.lt hH5)
          have hS6 := hS5.below hb6
          rw [Hy2.out, HD.out]
          go_wp2_with fail
          refine (len_any _ _ _ hH6).mono ?_
          rintro e w6' ⟨rfl, rfl⟩
          rw [Hl1.out]
          go_wp2_with fail
          refine (sum_any _ _ _ hH6).mono ?_
          rintro e w7 ⟨rfl, hb7⟩
          have hH7 : HL w7 w.heap.size L1 := Hs.below hH6 hb7 (Hs.lt hH6)
          have hS7 := hS6.below hb7
          rw [HD.out]
          go_wp2_with fail
          refine (RSum_any _ _ (by rw [ByteArray.size_append]; unfold maxLen; omega)).mono ?_
          rintro e w8 ⟨rfl, hb8⟩
          have hH8 : HL w8 w.heap.size L1 := Hs.below hH7 hb8 (Hs.lt hH7)
          have hS8 := hS7.below hb8
          rw [Hy2.out, HD.out]
          go_wp2_with fail
          exact ⟨⟨k + 1, by omega, by go_num, ⟨_, rfl, by rw [Hy2.out, HL1.out]⟩, by rw [HL1.out]; exact hH8, hS8, blw (blw (blw (blw hb4 hb5) hb6) hb7) hb8⟩, by simp [intOf]; omega⟩
        · have hat' : ((k : Int) == at') = false := by simpa using hat
          have hH2 := hH
          have hS2 := hS
          have hb2 := hb
          clear hat
          go_wp2_with fail
          refine (add_any w.heap.size _ (cat (ss.take k)) s (by rw [HL0.out]; unfold maxLen; omega) hH2).mono ?_
          rintro e w4 ⟨rfl, hH4, ho4⟩
          rw [← Hct.out] at hH4
          have hS4 := hS2.only ho4
          have hb4 := hb2.trans (ho4.below hb2.size (Nat.le_refl _))
          go_wp2_with fail
          refine (sum_any _ _ _ hH4).mono ?_
          rintro e w5 ⟨rfl, hb5⟩
          have hH5 : HL w5 w.heap.size L1 := Hs.below hH4 hb5 (Hs.lt hH4)
          have hS5 := hS4.below hb5
          rw [HD.out]
          go_wp2_with fail
          refine (RSum_any _ _ (by rw [ByteArray.size_append]; unfold maxLen; omega)).mono ?_
          rintro e w6 ⟨rfl, hb6⟩
          have hH6 : HL w6 w.heap.size L1 := Hs.below hH5 hb6 (Hs.lt hH5)
          have hS6 := hS5.below hb6
          rw [Hy2.out, HD.out]
          go_wp2_with fail
          refine (len_any _ _ _ hH6).mono ?_
          rintro e w6' ⟨rfl, rfl⟩
          rw [Hl1.out]
          go_wp2_with fail
          refine (sum_any _ _ _ hH6).mono ?_
          rintro e w7 ⟨rfl, hb7⟩
          have hH7 : HL w7 w.heap.size L1 := Hs.below hH6 hb7 (Hs.lt hH6)
          have hS7 := hS6.below hb7
          rw [HD.out]
          go_wp2_with fail
          refine (RSum_any _ _ (by rw [ByteArray.size_append]; unfold maxLen; omega)).mono ?_
          rintro e w8 ⟨rfl, hb8⟩
          have hH8 : HL w8 w.heap.size L1 := Hs.below hH7 hb8 (Hs.lt hH7)
          have hS8 := hS7.below hb8
          rw [Hy2.out, HD.out]
          go_wp2_with fail
          exact ⟨⟨k + 1, by omega, by go_num, ⟨_, rfl, by rw [Hy2.out, HL1.out]⟩, by rw [HL1.out]; exact hH8, hS8, blw (blw (blw (blw hb4 hb5) hb6) hb7) hb8⟩, by simp [intOf]; omega⟩
      · rcases hS with ⟨rfl, rfl⟩ | ⟨b2, y2, hg2, rfl, rfl, hy2, hC⟩
        · clear h4
          go_wp2_with fail
          refine (awake_any _).mono ?_
          rintro e w2 ⟨rfl, hb2⟩
          go_wp2
          go_ret
          exact ⟨rfl, blw hb hb2⟩
        · obtain ⟨D, hD⟩ : ∃ D, Dg.sum (y2.data.toList ++ moreT) = D := ⟨_, rfl⟩
          have hl2 : (y2.data.toList ++ moreT).length = y2.size + 4 := by rw [List.length_append, len_data]; rfl
          have hm2 : (y2 ++ ⟨#[109, 111, 114, 101]⟩ : ByteArray).data.toList = y2.data.toList ++ moreT := by rw [ByteArray.data_append]; simp [moreT]
          have hz2 : (y2 ++ ⟨#[109, 111, 114, 101]⟩ : ByteArray).size ≤ maxLen := by rw [ByteArray.size_append]; show y2.size + 4 ≤ maxLen; unfold maxLen; omega
          have HD := Lib.hid hD
          have Hl2 := Lib.hid hl2
          have Hm2 := Lib.hid hm2
          have Hz2 := Lib.hid hz2
          clear hD hl2 hm2 hz2 h4
          go_wp2_with fail
          refine (sum_any _ _ _ hC).mono ?_
          rintro e w2 ⟨rfl, hb2⟩
          have hC2 : HL w2 b2 (y2.data.toList ++ moreT) := Hs.below hC hb2 (Hs.lt hC)
          rw [HD.out]
          go_wp2_with fail
          refine (RSum_any _ _ Hz2.out).mono ?_
          rintro e w3 ⟨rfl, hb3⟩
          have hC3 : HL w3 b2 (y2.data.toList ++ moreT) := Hs.below hC2 hb3 (Hs.lt hC2)
          rw [Hm2.out, HD.out]
          go_wp2_with fail
          refine (len_any _ _ _ hC3).mono ?_
          rintro e w3' ⟨rfl, rfl⟩
          rw [Hl2.out]
          go_wp2_with fail
          refine (awake_any _).mono ?_
          rintro e w4 ⟨rfl, hb4⟩
          go_wp2
          go_ret
          exact ⟨rfl, blw (blw (blw hb hb2) hb3) hb4⟩

end Go.Proofs.Ytfnhaadikfenpaa.Hh
