/-
  Nodes: the reference's Unpack: the loop, family 6. (made by mk_zf.py)
-/
import Derived.Test.YthlkpbpcfkgljaaZf0
set_option linter.unusedVariables false
namespace Go.Proofs.Ythlkpbpcfkgljaa.Ac
open Go Go.RowKit Go.Proofs.Ythlkpbpcfkgljaa.Hz Go.Proofs.Ythlkpbpcfkgljaa.Sx Go.Proofs.Ythlkpbpcfkgljaa.Rg

set_option maxRecDepth 100000 in
set_option maxHeartbeats 4000000 in
theorem RUn_6 (t : ByteArray) (n : Nat) (w : World) (h : t.size = n * 38) (hn : n ≤ 3000) :
    Calls Try.prog 6 #[.string t, .int .i64 6] w fun e w' => ((∀ i, i < n → upE (pcs t 38 i) = 0) ∧ (∃ v, e = .returned (.tuple #[v, .int .i64 0]) ∧ Row w' 4 v n (ucs t 38 n)) ∨ (¬ (∀ i, i < n → upE (pcs t 38 i) = 0)) ∧ e = .returned (.tuple #[.slice none 0 0, .int .i64 12])) ∧ Below w.heap.size w w' := by
  have hmm := @run_makeMap Try.prog
  obtain ⟨w1, w2, r1, r2, r3, hg⟩ := Ze.look_any 6 (by decide) w
  rw [show Ze.szf 6 = 38 from rfl] at r3
  have HG0 := Lib.hid hg
  clear hg
  have g : ((t.size : Int) % 38 != 0) = false := by simp; omega
  have htb : t.size ≤ 200000 := by omega
  have HU := Lib.hid RUnpack_any
  have HT := Lib.hid h
  have hi3 : (Try.prog.info? 36).map (fun i => (i.zero, i.size, i.bytes)) = some (some (.agg #[.string ⟨#[]⟩, .int .i64 0, .string ⟨#[]⟩, .int .i64 0]), 4, 48) := by kernel_rfl
  obtain ⟨i0, hi, hz0, hz1, hz2⟩ := info_parts hi3
  have H0 := Lib.hid hi
  have H1 := Lib.hid hz0
  have H2 := Lib.hid hz1
  have H3 := Lib.hid hz2
  clear hi hz0 hz1 hz2 hi3 h
  go_enter Try.func6, Try.ntmps6
  go_wp2_with fail
  clear r1 r2 r3 hmm
  go_loopw [8, 7] (fun i v wr => ∃ (k m : Nat), k ≤ n ∧ Hid (m = k * 38) ∧ m ≤ t.size ∧ i = .int .i64 (m : Int) ∧ Hid (∀ j, j < k → upE (pcs t 38 j) = 0) ∧ Hid (Row wr 4 v k (ucs t 38 k)) ∧ Hid (∀ b, v.ownBlock = some b → w.heap.size ≤ b) ∧ Hid (w.grownBy wr none)) (fun i _ _ => t.size - (intOf i).toNat)
  case atStart => exact ⟨0, 0, Nat.zero_le _, Lib.hid (by omega), Nat.zero_le _, rfl, Lib.hid (fun j hj => by omega), Lib.hid (Row.nil _ _), Lib.hid (fun b hb => by cases hb), HG0⟩
  case round =>
    obtain ⟨k, m, hk, HM, hm, rfl, HE, HR, HO, HG⟩ := hrel
    by_cases hkl : k < n
    · have hmz : m + 38 ≤ t.size := by rw [HT.out, HM.out]; omega
      have hml : (m : Int) < (t.size : Int) := by omega
      have hm0 : (0 : Int) ≤ (m : Int) := by omega
      have hm1 : (m : Int) + 20 ≤ (t.size : Int) := by omega
      have hm2 : (m : Int) + 38 ≤ (t.size : Int) := by omega
      have hm3 : (0 : Int) ≤ (m : Int) + 20 := by omega
      have hm4 : ((m : Int) + 20).toNat = m + 20 := by omega
      have hm5 : ((m : Int) + 38).toNat = m + 38 := by omega
      have hm6 : (m : Int) ≤ (m : Int) + 20 := by omega
      have hm7 : (m : Int) + 20 ≤ (m : Int) + 38 := by omega
      have hm8 : IntKind.i64.wrap ((m : Int) + 20) = (m : Int) + 20 := IntWalk.i64_in _ (by omega)
      have hm9 : IntKind.i64.wrap ((m : Int) + 38) = (m : Int) + 38 := IntWalk.i64_in _ (by omega)
      have HP := Lib.hid (show t.extract (m + 20) (m + 38) = pcs t 38 k from by rw [HM.out]; rfl)
      have HI := Lib.hid (show t.extract m (m + 20) = t.extract (k * 38) (k * 38 + 20) from by rw [HM.out])
      have HN := Lib.hid (show m + 38 = (k + 1) * 38 from by rw [HM.out]; omega)
      have HL := Lib.hid hmz
      clear hmz
      go_wp2_with fail
      refine (HU.out _ _).mono ?_
      rintro e w5 ⟨rfl, hb5⟩
      rw [HP.out]
      by_cases he : upE (pcs t 38 k) = 0
      · rw [he]
        go_wp2_with fail
        obtain ⟨w7, hw7⟩ : ∃ w7, w5.alloc (.cells #[.int .i64 (upF (pcs t 38 k)), .string (upI (pcs t 38 k)), .int .i64 (upP (pcs t 38 k))] 34) = w7 := ⟨_, rfl⟩
        have j0 : w7.cell? ⟨w5.heap.size, 0, none⟩ = some (.int .i64 (upF (pcs t 38 k))) := by rw [← hw7]; simp [go_sem]
        have j1 : w7.cell? ⟨w5.heap.size, 1, none⟩ = some (.string (upI (pcs t 38 k))) := by rw [← hw7]; simp [go_sem]
        have j2 : w7.cell? ⟨w5.heap.size, 2, none⟩ = some (.int .i64 (upP (pcs t 38 k))) := by rw [← hw7]; simp [go_sem]
        have g7 : wr.grownBy w7 none := by rw [← hw7]; exact gb_trans (gb_below hb5 _) (gb_alloc _ _ _)
        rw [hw7]
        clear hw7
        have hnews : Hid (∀ j u, ([.string (t.extract m (m + 20)), .int .i64 (upF (pcs t 38 k)), .string (upI (pcs t 38 k)), .int .i64 (upP (pcs t 38 k))] : List Value)[j]? = some u → (w7.alloc (.cells #[.string (t.extract m (m + 20)), .int .i64 (upF (pcs t 38 k)), .string (upI (pcs t 38 k)), .int .i64 (upP (pcs t 38 k))] 36)).drew.cell? ((⟨w7.heap.size, 0, none⟩ : Addr).add j) = some u) :=
          Lib.hid (World.news_of_block (w := (w7.alloc (.cells #[.string (t.extract m (m + 20)), .int .i64 (upF (pcs t 38 k)), .string (upI (pcs t 38 k)), .int .i64 (upP (pcs t 38 k))] 36)).drew) (World.alloc_heap_new w7 _))
        have hone : Hid (∀ u ∈ ([.string (t.extract m (m + 20)), .int .i64 (upF (pcs t 38 k)), .string (upI (pcs t 38 k)), .int .i64 (upP (pcs t 38 k))] : List Value), u.oneCell' = true) := Lib.hid (by simp [Value.oneCell'])
        have g8 : wr.grownBy (w7.alloc (.cells #[.string (t.extract m (m + 20)), .int .i64 (upF (pcs t 38 k)), .string (upI (pcs t 38 k)), .int .i64 (upP (pcs t 38 k))] 36)).drew none := gb_trans g7 (gb_trans (gb_alloc _ _ _) (gb_drew _ 1 _))
        have hrow1 := Lib.hid (HR.out.kept g8 (by simp))
        have hbn1 : k + 1 ≤ maxLen := by unfold maxLen; omega
        have hbn2 : (k + 1) * 48 ≤ 140737488355328 := by omega
        go_region_law (refine step_append_row rfl (.tmp 44) (.tmp 52) 22 rfl 36 i0 (.agg #[.string ⟨#[]⟩, .int .i64 0, .string ⟨#[]⟩, .int .i64 0]) 4 48 Try.underlying22 H0.out H1.out H2.out H3.out rfl (by decide) u7 k (ucs t 38 k) (by simp [Act.eval]) hrow1.out ⟨w7.heap.size, 0, none⟩ 1 [.string (t.extract m (m + 20)), .int .i64 (upF (pcs t 38 k)), .string (upI (pcs t 38 k)), .int .i64 (upP (pcs t 38 k))] (by simp [Act.eval]) rfl hnews.out hone.out hbn1 hbn2 ?_; intro g off cap w9 hrowA hgrow hat)
        all_goals
          have hgw : w.grownBy w9 none := gb_ownr (gb_trans HG.out g8) hgrow HO.out
          have hg0 : w.heap.size ≤ g := by
            rcases hat with e | e
            · exact HO.out g e
            · have h1 := g8.size
              have h2 := HG.out.size
              omega
          have hrow9 : Row w9 4 (.slice (some ⟨g, off, none⟩) (k + 1) cap) (k + 1) (ucs t 38 (k + 1)) := by
            rw [HI.out] at hrowA
            exact hrowA
          have HR9 := Lib.hid hrow9
          clear hrow9 hrowA hnews hone hrow1
          go_wp2_with fail
          exact ⟨⟨k + 1, m + 38, by omega, HN, HL.out, by go_num, Lib.hid (fun j hj => by
            obtain h | rfl : j < k ∨ j = k := by omega
            · exact HE.out j h
            · exact he), HR9, Lib.hid (fun b hb => by simp [Value.ownBlock] at hb; omega), Lib.hid hgw⟩, by simp [intOf]; omega⟩
      · have hne : (upE (pcs t 38 k) != 0) = true := by simpa using he
        go_wp2_with fail
        go_ret2
        exact ⟨Or.inr ⟨fun hh => he (hh k hkl), rfl⟩, below_gb (gb_trans HG.out (gb_trans (gb_below hb5 _) (gb_alloc _ _ _)))⟩
    · obtain rfl : k = n := by omega
      have hend : ¬ ((m : Int) < (t.size : Int)) := by rw [HT.out, HM.out]; omega
      go_wp2_with fail
      go_ret2
      exact ⟨Or.inl ⟨HE.out, _, rfl, HR.out⟩, below_gb HG.out⟩
end Go.Proofs.Ythlkpbpcfkgljaa.Ac
