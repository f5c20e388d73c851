/-
  Named; SameInts; within of the law.
-/
import Derived.Test.YtdkfniijoamaoacFh
import Derived.Test.YtdkfniijoamaoacFd
namespace Go.Proofs.Ytdkfniijoamaoac.Fl
open Go Go.RowKit Go.Proofs.Ytdkfniijoamaoac.Hz Go.Proofs.Ytdkfniijoamaoac.Rw Go.Proofs.Ytdkfniijoamaoac.Or

/-- the numbers that marks name -/
def nv (ack : Int) (l : List Int) : List Int := l.map fun d => (ack + d) % 65536

set_option maxHeartbeats 1600000 in
theorem NamedF_yes (pa pm : Nat) (ack : Int) (s : ByteArray) (w : World) (hn : num ack = true) (hs : s.size ≤ 4)
    (ca : w.cell? ⟨pa, 0, none⟩ = some (.int .i64 ack)) (cm : w.cell? ⟨pm, 0, none⟩ = some (.string s)) :
    Calls Try.prog 37 #[.pointer (some ⟨pa, 0, none⟩), .pointer (some ⟨pm, 0, none⟩)] w fun e w' => ∃ a n cap, e = .returned (.slice a n cap) ∧ (n = (nv ack (nmI s (8 * s.size))).length ∧ OR w' w.heap.size (.slice a n cap) (nv ack (nmI s (8 * s.size))) ∧ Below w.heap.size w w') := by
  obtain ⟨i0, hi, hz0, hz1, hz2⟩ := info_parts int_info
  have la : pa < w.heap.size := World.block_lt_of_cell? w _ ca
  have hna := hn
  unfold num at hna
  simp at hna
  obtain ⟨na0, na1⟩ := hna
  have HN := Lib.hid (isNumber_any ack)
  rw [hn] at HN
  have HM := Lib.hid (named_any s w (by omega))
  have hln := nmI_len s (8 * s.size)
  have hin := nmI_in s (8 * s.size)
  generalize nmI s (8 * s.size) = l at *
  have hl40 : l.length ≤ 32 := by omega
  have hs4 : decide ((4 : Int) < (s.size : Int)) = false := by simp; omega
  have hlw : ∀ z, z ∈ l → 2 ≤ z ∧ z ≤ 33 := fun z hz => by have := hin z hz; omega
  clear hn hln hin
  go_enter Try.func37, Try.ntmps37
  go_wp2_with fail
  refine (HN.out _).mono ?_
  rintro e w1 ⟨rfl, rfl⟩
  go_wp2_with fail
  refine (Fb.refuse_no _ _).mono ?_
  rintro e w1 ⟨rfl, rfl⟩
  go_wp2_with fail
  refine (Fb.refuse_no _ _).mono ?_
  rintro e w1 ⟨rfl, rfl⟩
  go_wp2_with fail
  refine HM.out.mono ?_
  rintro e w1 ⟨v, rfl, hor, hb1⟩
  obtain ⟨a1, cap1, rfl, hrow⟩ := hor.row_ (fun z hz => WalkArith.wf_i64 (by have := hlw z hz; omega))
  obtain ⟨h1, h2, h3, h4⟩ := hrow
  clear hor HM
  go_wp2_with fail
  go_loopw [3, 5, 17] (fun v _ i wr => ∃ k : Nat, k ≤ l.length ∧ i = .int .i64 k ∧ OR wr w1.heap.size v (nv ack (l.take k)) ∧ Below w1.heap.size w1 wr) (fun _ _ i _ => l.length - (intOf i).toNat)
  case atStart => exact ⟨0, Nat.zero_le _, rfl, OR.nil_ _ _, Below.refl _ _⟩
  case round =>
    obtain ⟨k, hk, rfl, hown, hbl⟩ := hrel
    have ca' := (hbl.cell (p := ⟨pa, 0, none⟩) (Nat.lt_of_lt_of_le la hb1.size)).trans ((hb1.cell (p := ⟨pa, 0, none⟩) la).trans ca)
    by_cases hlt : k < l.length
    · obtain ⟨b, off, rfl, hbb, hcell⟩ := h4 (by omega)
      have hc := hcell k hlt
      rw [← hbl.cell (p := ⟨b, off + k, none⟩) hbb] at hc
      have hgd : l.getD k 0 = l[k] := by simp [List.getD, hlt]
      rw [hgd] at hc
      have hzb := hlw l[k] (List.getElem_mem hlt)
      have htk : nv ack (l.take (k + 1)) = nv ack (l.take k) ++ [(ack + l[k]) % 65536] := by unfold nv; rw [List.take_succ_eq_append_getElem hlt, List.map_append]; rfl
      have hlen : (nv ack (l.take k)).length ≤ k := by unfold nv; rw [List.length_map, List.length_take]; omega
      generalize l[k] = z at *
      obtain ⟨z0, z1⟩ := hzb
      have HT := Lib.hid (turn_any (ack + z))
      have hown1 := hown.alloc_ (.cells #[.int .i64 ((ack + z) % 65536)] 3)
      have hbl1 := hbl.alloc hbl.size (.cells #[.int .i64 ((ack + z) % 65536)] 3)
      generalize (ack + z) % 65536 = d at *
      have HTK := Lib.hid htk
      generalize nv ack (l.take k) = y at *
      have hll := cI_len y
      have HLL := Lib.hid hll
      clear hcell h4 hgd htk hll
      go_wp2_with fail
      refine (HT.out _).mono ?_
      rintro e w2 ⟨rfl, rfl⟩
      go_wp2_with (at_builtin; refine wpList_append_own _ rfl _ _ 36 rfl w1.heap.size 3 i0 (.int .i64 0) 1 8 Try.underlying36 hi hz0 hz1 hz2 rfl (by decide) _ _ _ rfl hown1 ⟨wr.heap.size, 0, none⟩ 1 1 [.int .i64 d] rfl rfl (cell_one_new _ _ _) (by simp [Value.oneCell']) (by unfold maxLen; omega) (by omega) hbl1.size ?_; intro v' w2 hown' hgrow _; have hbl2 := hown1.grow_ hbl1 hgrow hbl1.size; clear hgrow)
      exact ⟨⟨k + 1, by omega, by go_num, by rw [HTK.out]; unfold OR; rw [cI_snoc, List.length_append]; exact hown', hbl2⟩, by simp [intOf]; omega⟩
    · obtain rfl : k = l.length := by omega
      rw [List.take_length] at hown
      obtain ⟨a2, cap2, rfl⟩ := hown.slice_
      have hF : OR wr w.heap.size (.slice a2 (nv ack l).length cap2) (nv ack l) := by
        obtain ⟨q1, q2 | ⟨g, cp, cur, q3, q4, q5⟩⟩ := hown
        · exact ⟨q1, .inl q2⟩
        · exact ⟨q1, .inr ⟨g, cp, cur, q3, Nat.le_trans hb1.size q4, q5⟩⟩
      have hFB : Below w.heap.size w wr := hb1.trans (hbl.mono hb1.size)
      have HF := Lib.hid hF
      have HFB := Lib.hid hFB
      clear hown h4 hF hFB h3
      go_wp2_with fail
      go_ret
      exact ⟨a2, _, cap2, rfl, rfl, HF.out, HFB.out⟩

set_option maxHeartbeats 800000 in
theorem NamedF_big (pa pm : Nat) (ack : Int) (s : ByteArray) (w : World) (hn : num ack = true) (hs : 4 < s.size) (hz : s.size ≤ 140737488351232)
    (ca : w.cell? ⟨pa, 0, none⟩ = some (.int .i64 ack)) (cm : w.cell? ⟨pm, 0, none⟩ = some (.string s)) :
    Calls Try.prog 37 #[.pointer (some ⟨pa, 0, none⟩), .pointer (some ⟨pm, 0, none⟩)] w fun e w' => e = .panicked [{ v := .iface 25 (.int .i64 11), recovered := false }] ∧ Below w.heap.size w w' := by
  have HN := Lib.hid (isNumber_any ack)
  rw [hn] at HN
  have hs4 : decide ((4 : Int) < (s.size : Int)) = true := by simp; omega
  clear hn
  go_enter Try.func37, Try.ntmps37
  go_wp2_with fail
  refine (HN.out _).mono ?_
  rintro e w1 ⟨rfl, rfl⟩
  go_wp2_with fail
  refine (Fb.refuse_no _ _).mono ?_
  rintro e w1 ⟨rfl, rfl⟩
  go_wp2_with fail
  refine (Fb.refuse_yes _ _).mono ?_
  rintro e w1 ⟨rfl, rfl⟩
  go_wp2_with fail
  simp [bodyPost]
  exact Below.refl _ _

theorem enterNamed (args : Array Value) (w : World) : (callFunc 37 args).run Try.prog w = .ok (.enter 37 args) w := by kernel_rfl

theorem or_set {w : World} {base c : Nat} {v u : Value} {zs : List Int} (h : OR w base v zs) (hc : c < base) : OR (w.setCell ⟨c, 0, none⟩ u) base v zs :=
  World.ownsRow.kept (row := some c) h ⟨rfl, rfl, rfl, by simp, fun k _ hn => Below.heap_setCell w _ _ k (fun e => hn (by rw [e]))⟩ (by
    cases e : v.ownBlock
    · exact .inl rfl
    · rename_i g
      refine .inr (fun e2 => ?_)
      have e3 := Option.some.inj e2
      have := (World.ownsRow.lt (n := zs.length) h g e).1
      omega)
theorem nv_wf (ack : Int) (l : List Int) : ∀ z, z ∈ nv ack l → (Lit.int .i64 z).wf = true := by
  intro z hz
  unfold nv at hz
  obtain ⟨y, _, rfl⟩ := List.mem_map.1 hz
  exact WalkArith.wf_i64 (by omega)

set_option maxHeartbeats 1600000 in
theorem Named_yes (ack : Int) (s : ByteArray) (w : World) (hn : num ack = true) (hs : s.size ≤ 4) :
    Calls Try.prog 16 #[.int .i64 ack, .string s] w fun e w' => ∃ a cap, e = .returned (.tuple #[.slice a (nv ack (nmI s (8 * s.size))).length cap, .int .i64 0]) ∧ IntRow .i64 w' a (nv ack (nmI s (8 * s.size))).length cap (nv ack (nmI s (8 * s.size))) ∧ Below w.heap.size w w' := by
  have hmf : ∀ (fn : Fn) (first cap : Array Value) (w : World), (Instr.makeFunc fn first cap).run Try.prog w = .ok (.func fn first cap) w := fun _ _ _ _ => rfl
  obtain ⟨W, hW⟩ : ∃ W, (w.alloc (.cells #[.int .i64 ack] 3)).alloc (.cells #[.string s] 9) = W := ⟨_, rfl⟩
  have hWs : W.heap.size = w.heap.size + 2 := by rw [← hW]; simp
  have hWB : Below w.heap.size w W := by rw [← hW]; exact ((Below.refl _ w).alloc (Nat.le_refl _) _).alloc (by simp) _
  have h1 : (Fd.aw W).cell? ⟨w.heap.size, 0, none⟩ = some (.int .i64 ack) := by rw [← hW]; simp [Fd.aw, go_sem]
  have h2 : (Fd.aw W).cell? ⟨w.heap.size + 1, 0, none⟩ = some (.string s) := by rw [← hW]; simp [Fd.aw, go_sem]
  have hAs : (Fd.aw W).heap.size = W.heap.size + 2 := by simp [Fd.aw]
  have hF := NamedF_yes w.heap.size (w.heap.size + 1) ack s (Fd.aw W) hn hs h1 h2
  have hwf := nv_wf ack (nmI s (8 * s.size))
  generalize nv ack (nmI s (8 * s.size)) = l at *
  have hA := Fd.attempt_ex _ _ W (fun a n cap w1 => n = l.length ∧ OR w1 (Fd.aw W).heap.size (.slice a n cap) l ∧ Below (Fd.aw W).heap.size (Fd.aw W) w1) enterNamed hF
    (fun a n cap w1 h => by
      have hb := h.2.2
      have c0 : (Fd.aw W).cell? ⟨W.heap.size, 0, none⟩ = some (.slice none 0 0) := by simp [Fd.aw, go_sem]
      have c1 : (Fd.aw W).cell? ⟨W.heap.size + 1, 0, none⟩ = some (.int .i64 0) := by simp [Fd.aw, go_sem]
      have f0 : (Fd.aw W).frozen? ⟨W.heap.size, 0, none⟩ = false := by simp [Fd.aw, go_sem]
      have f1 : (Fd.aw W).frozen? ⟨W.heap.size + 1, 0, none⟩ = false := by simp [Fd.aw, go_sem]
      exact ⟨⟨_, kcell hb c0⟩, (hb.frozen (by simp [Fd.aw]; omega)).trans f0, ⟨_, kcell hb c1⟩, (hb.frozen (by simp [Fd.aw])).trans f1⟩)
  have HA := Lib.hid hA
  rw [← hW] at HA
  have HW := Lib.hid hW
  have HWS := Lib.hid hWs
  have HAS := Lib.hid hAs
  clear hA hF h1 h2 hW hWs hAs hn
  go_enter Try.func16, Try.ntmps16
  go_wp2_with fail
  refine HA.out.mono ?_
  rintro e w' ⟨a, n, cap, w1, rfl, ⟨rfl, hor, hbb⟩, rfl⟩
  rw [HW.out] at hor hbb ⊢
  have hs1 := HAS.out
  have hor2 := or_set (c := W.heap.size + 1) (u := .int .i64 0) (or_set (c := W.heap.size) (u := .slice a l.length cap) hor (by omega)) (by omega)
  have hBF : Below w.heap.size w ((w1.setCell ⟨W.heap.size, 0, none⟩ (.slice a l.length cap)).setCell ⟨W.heap.size + 1, 0, none⟩ (.int .i64 0)) := by
    have hWA : Below w.heap.size w (Fd.aw W) := by unfold Fd.aw; exact (hWB.alloc hWB.size _).alloc (by simp; have := hWB.size; omega) _
    exact ((hWA.trans (hbb.mono hWA.size)).setCell (p := ⟨W.heap.size, 0, none⟩) hWB.size _).setCell (p := ⟨W.heap.size + 1, 0, none⟩) (by show _ ≤ W.heap.size + 1; have := hWB.size; omega) _
  obtain ⟨a', cap', he, hrow⟩ := hor2.row_ hwf
  injection he with he1 he2 he3
  subst he1 he3
  have HROW := Lib.hid hrow
  have HBF := Lib.hid hBF
  clear hrow hBF hor2 hor hbb hwf hWB hs1
  go_wp2_with fail
  go_ret2
  exact ⟨a, cap, rfl, HROW.out, HBF.out⟩

set_option maxHeartbeats 800000 in
theorem Named_big (ack : Int) (s : ByteArray) (w : World) (hn : num ack = true) (hs : 4 < s.size) (hz : s.size ≤ 140737488351232) :
    Calls Try.prog 16 #[.int .i64 ack, .string s] w fun e w' => e = .returned (.tuple #[.slice none 0 0, .int .i64 11]) ∧ Below w.heap.size w w' := by
  have hmf : ∀ (fn : Fn) (first cap : Array Value) (w : World), (Instr.makeFunc fn first cap).run Try.prog w = .ok (.func fn first cap) w := fun _ _ _ _ => rfl
  have h1 : (Fd.aw ((w.alloc (.cells #[.int .i64 ack] 3)).alloc (.cells #[.string s] 9))).cell? ⟨w.heap.size, 0, none⟩ = some (.int .i64 ack) := by simp [Fd.aw, go_sem]
  have h2 : (Fd.aw ((w.alloc (.cells #[.int .i64 ack] 3)).alloc (.cells #[.string s] 9))).cell? ⟨w.heap.size + 1, 0, none⟩ = some (.string s) := by simp [Fd.aw, go_sem]
  have HF := Lib.hid (Fd.attempt_err _ _ 11 _ enterNamed (NamedF_big w.heap.size (w.heap.size + 1) ack s _ hn hs hz h1 h2))
  clear h1 h2 hn
  go_enter Try.func16, Try.ntmps16
  go_wp2_with fail
  refine HF.out.mono ?_
  rintro e w1 ⟨rfl, hb1⟩
  go_wp2
  go_ret2
  exact ⟨rfl, below_alloc _ (below_alloc _ hb1)⟩

set_option maxHeartbeats 800000 in
theorem SameInts_eq (a b : Option Addr) (len c d : Nat) (zs : List Int) (w : World) (ha : IntRow .i64 w a len c zs) (hb : IntRow .i64 w b len d zs) :
    Calls Try.prog 17 #[.slice a len c, .slice b len d] w fun e w' => e = .returned (.bool true) ∧ ∃ n, w' = w.drewN n := by
  obtain ⟨h1, h2, h3, h4⟩ := ha
  obtain ⟨k1, k2, k3, k4⟩ := hb
  unfold maxLen at h2
  go_enter Try.func17, Try.ntmps17
  go_wp2_with fail
  go_loopw [5, 13] (fun _ i wr => ∃ k : Nat, k ≤ len ∧ i = .int .i64 k ∧ ∃ n, wr = w.drewN n) (fun _ i _ => len - (intOf i).toNat)
  case atStart => exact ⟨0, Nat.zero_le _, rfl, 0, rfl⟩
  case round =>
    obtain ⟨k, hk, rfl, n, rfl⟩ := hrel
    by_cases hlt : k < len
    · obtain ⟨ba, oa, rfl, _, hca⟩ := h4 (by omega)
      obtain ⟨bb, ob, rfl, _, hcb⟩ := k4 (by omega)
      have q1 := hca k hlt
      have q2 := hcb k hlt
      generalize zs.getD k 0 = z at *
      clear hca hcb h4 k4 k2 h3 k3
      go_wp2_with fail
      go_quiet (fail)
      go_wp2_with fail
      refine ⟨⟨k + 1, by omega, by go_num, _, rfl⟩, by simp [intOf]; omega⟩
    · clear h4 k4 h3 k3 k2
      go_wp2_with fail
      go_ret
      exact ⟨rfl, n, rfl⟩

theorem Lwithin_any (n a b : Int) (w : World) : Calls Try.prog 14 #[.int .i64 n, .int .i64 a, .int .i64 b] w fun e w' => e = .returned (.bool (decide (a ≤ n) && decide (n ≤ b))) ∧ w = w' := by
  by_cases h1 : a ≤ n
  · go_enter Try.func14, Try.ntmps14
    go_wp2
    all_goals
      go_ret
      exact ⟨by simp [h1], rfl⟩
  · go_enter Try.func14, Try.ntmps14
    go_wp2
    go_ret
    exact ⟨by simp; omega, rfl⟩
theorem Lnum (n : Int) (w : World) : Calls Try.prog 14 #[.int .i64 n, .int .i64 0, .int .i64 65535] w fun e w' => e = .returned (.bool (num n)) ∧ w = w' := Lwithin_any n 0 65535 w
end Go.Proofs.Ytdkfniijoamaoac.Fl
