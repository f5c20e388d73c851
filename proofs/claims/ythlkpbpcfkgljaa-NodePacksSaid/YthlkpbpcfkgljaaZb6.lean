/-
  Nodes: the closure of the program's Unpack: the loop, family 6. (made by mk_zb.py)
-/
import Derived.Test.YthlkpbpcfkgljaaZb0
set_option linter.unusedVariables false
namespace Go.Proofs.Ythlkpbpcfkgljaa.Ac
open Go Go.RowKit Go.Proofs.Ythlkpbpcfkgljaa.Hz Go.Proofs.Ythlkpbpcfkgljaa.Sx Go.Proofs.Ythlkpbpcfkgljaa.Rg

set_option maxRecDepth 100000 in
set_option maxHeartbeats 4000000 in
theorem NUn_6 (t : ByteArray) (n : Nat) (c d : Nat) (w : World) (kf : w.cell? ⟨c, 0, none⟩ = some (.int .i64 6)) (hcl : c < w.heap.size) (hdl : d < w.heap.size) (hcd : c ≠ d) (kt : w.cell? ⟨d, 0, none⟩ = some (.string t)) (ft : w.frozen? ⟨d, 0, none⟩ = false) (h : t.size = n * 38) (hn : n ≤ 3000) :
    Calls Try.prog 15 #[.pointer (some ⟨c, 0, none⟩), .pointer (some ⟨d, 0, none⟩)] w fun e w' => ((∀ i, i < n → upE (pcs t 38 i) = 0) ∧ (∃ v, e = .returned v ∧ Row w' 4 v n (ucs t 38 n) ∧ ∀ k, v.ownBlock = some k → w.heap.size ≤ k) ∨ (¬ (∀ i, i < n → upE (pcs t 38 i) = 0)) ∧ e = .panicked [{ v := .iface 24 (.int .i64 12), recovered := false }]) ∧ w.grownBy w' (some d) := by
  have g : ((t.size : Int) % 38 != 0) = false := by simp; omega
  have HU := Lib.hid Unpack_any
  have HT := Lib.hid h
  have hi3 : (Try.prog.info? 36).map (fun i => (i.zero, i.size, i.bytes)) = some (some (.agg #[.string ⟨#[]⟩, .int .i64 0, .string ⟨#[]⟩, .int .i64 0]), 4, 48) := by kernel_rfl
  obtain ⟨i0, hi, hz0, hz1, hz2⟩ := info_parts hi3
  have H0 := Lib.hid hi
  have H1 := Lib.hid hz0
  have H2 := Lib.hid hz1
  have H3 := Lib.hid hz2
  clear hi hz0 hz1 hz2 hi3
  go_enter Try.func15, Try.ntmps15
  go_wp2_with fail
  refine (nrefuse_no _ _).mono ?_
  rintro e w1 ⟨rfl, rfl⟩
  go_wp2_with fail
  refine (nrefuse_f _ (by first | assumption | simp) _ _).mono ?_
  rintro e w1 ⟨rfl, rfl⟩
  go_wp2_with fail
  go_loopw [4] (fun v wr => ∃ (k : Nat), k ≤ n ∧ Hid (∀ j, j < k → upE (pcs t 38 j) = 0) ∧ Hid (Row wr 4 v k (ucs t 38 k)) ∧ Hid (∀ b, v.ownBlock = some b → w.heap.size ≤ b) ∧ wr.cell? ⟨d, 0, none⟩ = some (.string (rst t 38 k)) ∧ wr.frozen? ⟨d, 0, none⟩ = false ∧ Hid (w.grownBy wr (some d))) (fun _ wr => left wr d)
  case atStart => exact ⟨0, Nat.zero_le _, Lib.hid (fun j hj => by omega), Lib.hid (Row.nil _ _), Lib.hid (fun b hb => by cases hb), by rw [rst_zero]; exact kt, ft, Lib.hid (gb_refl _ _)⟩
  case round =>
    obtain ⟨k, hk, HE, HR, HO, kt', ft', HG⟩ := hrel
    by_cases hkl : k < n
    · have hsz : 38 ≤ (rst t 38 k).size := by rw [rst_size, h]; omega
      have hs6 : (rst t 38 k).size ≤ 200000 := by rw [rst_size, h]; omega
      have hs0 : (0 : Int) ≤ ((rst t 38 k).size : Int) := by omega
      have hsi : (38 : Int) ≤ ((rst t 38 k).size : Int) := by omega
      have hmore := rst_more t 38 k (by rw [h]; omega)
      have hmb : (rst t 38 k).toList.isEmpty = false := nempty _ (by omega)
      have hdl' : d < wr.heap.size := Nat.lt_of_lt_of_le hdl HG.out.size
      have HP := Lib.hid (rst_piece t 38 k (by rw [h]; omega))
      have HI := Lib.hid (rst_id t 38 k (by omega) (by rw [h]; omega))
      have HX := Lib.hid (rst_next t 38 k (by rw [h]; omega))
      have hlf : left wr d = (rst t 38 k).size := by unfold left; rw [kt']
      have HL := Lib.hid hlf
      clear hlf h
      generalize rst t 38 k = s at hsz hs6 hs0 hsi hmore hmb HP HI HX HL kt'
      go_wp2_with fail
      refine (HU.out _ _).mono ?_
      rintro e w5 ⟨rfl, hb5⟩
      rw [HP.out]
      have kt5 : w5.cell? ⟨d, 0, none⟩ = some (.string s) := kcell hb5 kt'
      have ft5 : w5.frozen? ⟨d, 0, none⟩ = false := ((bcell hb5).2 d 0 hdl').trans ft'
      by_cases he : upE (pcs t 38 k) = 0
      · rw [he]
        go_wp2_with fail
        refine (nrefuse_no _ _).mono ?_
        rintro e w6 ⟨rfl, rfl⟩
        go_wp2_with fail
        obtain ⟨w7, hw7⟩ : ∃ w7, w5.alloc (.cells #[.int .i64 (upF (pcs t 38 k)), .string (upI (pcs t 38 k)), .int .i64 (upP (pcs t 38 k))] 34) = w7 := ⟨_, rfl⟩
        have kt7 : w7.cell? ⟨d, 0, none⟩ = some (.string s) := by rw [← hw7]; exact acell _ kt5
        have j0 : w7.cell? ⟨w5.heap.size, 0, none⟩ = some (.int .i64 (upF (pcs t 38 k))) := by rw [← hw7]; simp [go_sem]
        have j1 : w7.cell? ⟨w5.heap.size, 1, none⟩ = some (.string (upI (pcs t 38 k))) := by rw [← hw7]; simp [go_sem]
        have j2 : w7.cell? ⟨w5.heap.size, 2, none⟩ = some (.int .i64 (upP (pcs t 38 k))) := by rw [← hw7]; simp [go_sem]
        have g7 : wr.grownBy w7 none := by rw [← hw7]; exact gb_trans (gb_below hb5 _) (gb_alloc _ _ _)
        rw [hw7]
        clear hw7
        have hnews : Hid (∀ j u, ([.string (s.extract 0 20), .int .i64 (upF (pcs t 38 k)), .string (upI (pcs t 38 k)), .int .i64 (upP (pcs t 38 k))] : List Value)[j]? = some u → (w7.alloc (.cells #[.string (s.extract 0 20), .int .i64 (upF (pcs t 38 k)), .string (upI (pcs t 38 k)), .int .i64 (upP (pcs t 38 k))] 36)).drew.cell? ((⟨w7.heap.size, 0, none⟩ : Addr).add j) = some u) :=
          Lib.hid (World.news_of_block (w := (w7.alloc (.cells #[.string (s.extract 0 20), .int .i64 (upF (pcs t 38 k)), .string (upI (pcs t 38 k)), .int .i64 (upP (pcs t 38 k))] 36)).drew) (World.alloc_heap_new w7 _))
        have hone : Hid (∀ u ∈ ([.string (s.extract 0 20), .int .i64 (upF (pcs t 38 k)), .string (upI (pcs t 38 k)), .int .i64 (upP (pcs t 38 k))] : List Value), u.oneCell' = true) := Lib.hid (by simp [Value.oneCell'])
        have g8 : wr.grownBy (w7.alloc (.cells #[.string (s.extract 0 20), .int .i64 (upF (pcs t 38 k)), .string (upI (pcs t 38 k)), .int .i64 (upP (pcs t 38 k))] 36)).drew none := gb_trans g7 (gb_trans (gb_alloc _ _ _) (gb_drew _ 1 _))
        have hrow1 := Lib.hid (HR.out.kept g8 (by simp))
        have hbn1 : k + 1 ≤ maxLen := by unfold maxLen; omega
        have hbn2 : (k + 1) * 48 ≤ 140737488355328 := by omega
        have hd20 : (20 : Int) ≤ (s.size : Int) := by omega
        go_region_law (refine step_append_row rfl (.tmp 37) (.tmp 42) 22 rfl 36 i0 (.agg #[.string ⟨#[]⟩, .int .i64 0, .string ⟨#[]⟩, .int .i64 0]) 4 48 Try.underlying22 H0.out H1.out H2.out H3.out rfl (by decide) u4 k (ucs t 38 k) (by simp [Act.eval]) hrow1.out ⟨w7.heap.size, 0, none⟩ 1 [.string (s.extract 0 20), .int .i64 (upF (pcs t 38 k)), .string (upI (pcs t 38 k)), .int .i64 (upP (pcs t 38 k))] (by simp [Act.eval]) rfl hnews.out hone.out hbn1 hbn2 ?_; intro g off cap w9 hrowA hgrow hat)
        all_goals
          have hne : some d ≠ u4.ownBlock := fun e => by have := HO.out d e.symm; omega
          have kt8 := gb_cell g8 kt' (by simp)
          have ft8 := gb_frozen g8 kt' ft' (by simp)
          have kt9 := gb_cell hgrow kt8 hne
          have ft9 := gb_frozen hgrow kt8 ft8 hne
          have hgw : w.grownBy w9 (some d) := gb_own (gb_trans HG.out (gb_none g8 _)) hgrow HO.out
          have hg0 : w.heap.size ≤ g := by
            rcases hat with e | e
            · exact HO.out g e
            · have h1 := g8.size
              have h2 := HG.out.size
              omega
          have hrow9 : Row (w9.setCell ⟨d, 0, none⟩ (.string (s.extract 38 s.size))) 4 (.slice (some ⟨g, off, none⟩) (k + 1) cap) (k + 1) (ucs t 38 (k + 1)) := by
            rw [HI.out] at hrowA
            exact Row.kept hrowA (gb_set w9 d 0 _) (fun b hb e => by simp [Value.ownBlock] at hb; have := Option.some.inj e; omega)
          have HR9 := Lib.hid hrow9
          clear hrow9 hrowA hnews hone hrow1
          go_wp2_with fail
          exact ⟨⟨k + 1, by omega, Lib.hid (fun j hj => by
            obtain h | rfl : j < k ∨ j = k := by omega
            · exact HE.out j h
            · exact he), HR9, Lib.hid (fun b hb => by simp [Value.ownBlock] at hb; omega), by rw [← HX.out]; simp [go_sem, kt9], by simp [go_sem, ft9], Lib.hid (gb_trans hgw (gb_set w9 d 0 _))⟩, by rw [HL.out]; simp [left, go_sem, kt9]; omega⟩
      · have hne : (upE (pcs t 38 k) != 0) = true := by simpa using he
        go_wp2_with fail
        refine (nrefuse_yes _ _).mono ?_
        rintro e w6 ⟨rfl, rfl⟩
        exact ⟨rfl, Or.inr ⟨fun hh => he (hh k hkl), rfl⟩, gb_trans HG.out (gb_trans (gb_below hb5 _) (gb_alloc _ _ _))⟩
    · obtain rfl : k = n := by omega
      have hend : (rst t 38 k).toList.isEmpty = true := by rw [rst_end t 38 k (by omega)]; simp [ByteArray.toList_eq]
      go_wp2_with fail
      go_ret
      exact ⟨Or.inl ⟨HE.out, _, rfl, HR.out, HO.out⟩, HG.out⟩
end Go.Proofs.Ythlkpbpcfkgljaa.Ac
