/-
  Fields of bits: the program's Runs, the reference's Runs, the law's.
-/
import Derived.Test.YtbeaohnjifcgaaaDoorCp
import Derived.Test.YtbeaohnjifcgaaaDoorBg
import Derived.Test.YtbeaohnjifcgaaaDoorCh
namespace Go.Proofs.YtbeaohnjifcgaaaDoor.Bh
open Go Go.RowKit Go.Shelf Go.Proofs.YtbeaohnjifcgaaaDoor.Sx Go.Proofs.YtbeaohnjifcgaaaDoor.Na Go.Proofs.YtbeaohnjifcgaaaDoor.Ba

theorem OU.rl {w : World} {base : Nat} {v : Value} {l : List (Nat × Nat)} (h : OU w base v l) : ∃ a cap, v = .slice a l.length cap ∧ RL w a (RI l) := by
  obtain ⟨h1, ⟨rfl, h2⟩ | ⟨g, cap, cur, rfl, hb, hh, hn, hc, hz, ht⟩⟩ := h
  · exact ⟨none, 0, by rw [h2], fun h => by rw [RI_len] at h; omega⟩
  · refine ⟨_, cap, rfl, fun h0 => ⟨g, 0, rfl, fun i hi => ?_⟩⟩
    rw [RI_len] at hi
    rw [RI_at, Nat.zero_add, cell_of_row _ _ _ _ _ _ hh, cell_of_row _ _ _ _ _ _ hh]
    have e : ∀ j, j < l.length * 2 → cur[j]? = (rC l)[j]? := fun j hj => by
      rw [← ht, List.getElem?_take_of_lt hj, Array.getElem?_toList]
    rw [e _ (by omega), e _ (by omega)]
    exact rC_get l i hi
theorem enterRuns0 (args : Array Value) (w : World) : (callFunc 88 args).run Tryd.prog w = .ok (.enter 88 args) w := by kernel_rfl

set_option maxRecDepth 100000 in
set_option maxHeartbeats 1600000 in
theorem Runs0_any (n : Int) (s : ByteArray) (c cs : Nat) (w : World) (hs : s.size ≤ 140737488351232) (hc : w.cell? ⟨c, 0, none⟩ = some (.int .i64 n)) (hcs : w.cell? ⟨cs, 0, none⟩ = some (.string s)) (h : chk n s = 0) :
    Calls Tryd.prog 88 #[.pointer (some ⟨c, 0, none⟩), .pointer (some ⟨cs, 0, none⟩)] w fun e w' => ∃ a len cap, e = .returned (.slice a len cap) ∧ OU w' w.heap.size (.slice a len cap) (ruL n s) ∧ w.grownBy w' none := by
  rw [show ruL n s = rnl (bt s) n.toNat from if_pos h]
  have HA := Lib.hid (askField_ok n s w hs h)
  obtain ⟨N, rfl, h1, h2, h3⟩ := vd_t (chk_t h)
  rw [Int.toNat_natCast]
  have HX := Lib.hid (fun w => runs_any N s w (by omega) (by omega))
  have HC := Lib.hid hc
  have HS := Lib.hid hcs
  obtain ⟨l, hl⟩ : ∃ l, rnl (bt s) N = l := ⟨_, rfl⟩
  simp only [hl] at HX ⊢
  clear hl h h1 h2 h3
  go_enter Tryd.func88, Tryd.ntmps88
  go_wp2_with fail
  refine HA.out.mono ?_
  rintro e w1 ⟨rfl, hg⟩
  have hc1 := gb_cell hg HC.out (by simp)
  have hs1 := gb_cell hg HS.out (by simp)
  have HG := Lib.hid hg
  clear hg hc hcs
  go_wp2_with fail
  refine (HX.out _).mono ?_
  rintro e w2 ⟨v, rfl, ho, hb⟩
  obtain ⟨a, cap, rfl, _⟩ := OU.rl ho
  have HO := Lib.hid (row_weak ho HG.out.size)
  have HB := Lib.hid (gb_trans HG.out (gb_below hb none))
  clear hb ho
  go_wp2
  go_ret
  exact ⟨_, _, _, rfl, HO.out, HB.out⟩
set_option maxRecDepth 100000 in
set_option maxHeartbeats 1600000 in
theorem Runs0_no (n : Int) (s : ByteArray) (c cs : Nat) (w : World) (hs : s.size ≤ 140737488351232) (hc : w.cell? ⟨c, 0, none⟩ = some (.int .i64 n)) (hcs : w.cell? ⟨cs, 0, none⟩ = some (.string s)) (h : chk n s ≠ 0) :
    Calls Tryd.prog 88 #[.pointer (some ⟨c, 0, none⟩), .pointer (some ⟨cs, 0, none⟩)] w fun e w' => e = .panicked [{ v := .iface 24 (.int .i64 (chk n s)), recovered := false }] ∧ w.grownBy w' none := by
  have HA := Lib.hid (askField_no n s w hs h)
  obtain ⟨z, hz⟩ : ∃ z, chk n s = z := ⟨_, rfl⟩
  rw [hz] at HA ⊢
  clear hz h
  go_enter Tryd.func88, Tryd.ntmps88
  go_wp2_with fail
  refine HA.out.mono ?_
  rintro e w1 ⟨rfl, hg⟩
  exact ⟨rfl, rfl, hg⟩
theorem ruL_no {n : Int} {s : ByteArray} (h : chk n s ≠ 0) : ruL n s = [] := if_neg h
theorem OU_nil (w : World) (base : Nat) : OU w base (.slice none 0 0) [] := ⟨rfl, .inl ⟨rfl, rfl⟩⟩

set_option maxRecDepth 100000 in
set_option maxHeartbeats 800000 in
theorem Runs_any (n : Int) (s : ByteArray) (w : World) (hs : s.size ≤ 140737488351232) :
    Calls Tryd.prog 42 #[.int .i64 n, .string s] w fun e w' => ∃ a cap, e = .returned (.tuple #[.slice a (ruL n s).length cap, .int .i64 (chk n s)]) ∧ RL w' a (RI (ruL n s)) ∧ w.grownBy w' none := by
  have hmf : ∀ (fn : Fn) (first cap : Array Value) (w : World), (Instr.makeFunc fn first cap).run Tryd.prog w = .ok (.func fn first cap) w := fun _ _ _ _ => rfl
  have g := Bg.aw_gb (bxs w n s)
  have H : Hid (Calls Tryd.prog 87 #[.func (Fn.func 88) #[] #[.pointer (some ⟨w.heap.size, 0, none⟩), .pointer (some ⟨w.heap.size + 1, 0, none⟩)]] (bxs w n s) fun e w' => ∃ a cap, e = .returned (.tuple #[.slice a (ruL n s).length cap, .int .i64 (chk n s)]) ∧ RL w' a (RI (ruL n s)) ∧ (bxs w n s).grownBy w' none) := by
    refine Lib.hid ?_
    by_cases h : chk n s = 0
    · rw [h]
      refine (Bg.att_ex 88 _ (bxs w n s) none (fun a len cap W => OU W ((bxs w n s).heap.size + 2) (.slice a len cap) (ruL n s)) (fun a len cap => row_sta (by omega)) (fun _ h => by cases h) enterRuns0 ((Runs0_any n s _ _ _ hs (gb_cell g (bxs_k0 w n s) (by simp)) (gb_cell g (bxs_k1 w n s) (by simp)) h).mono fun e w' ⟨a, len, cap, h1, h2, h3⟩ => ⟨a, len, cap, h1, by rw [Bg.aw_size] at h2; exact h2, h3⟩)).mono ?_
      rintro e w' ⟨a, len, cap, h1, h2, h3⟩
      obtain ⟨a', cap', e0, hr⟩ := OU.rl h2
      cases e0
      exact ⟨_, _, h1, hr, h3⟩
    · refine (Bg.att_no 88 _ (chk n s) (bxs w n s) none (fun _ => True) (sta_true _) (fun _ h => by cases h) enterRuns0 ((Runs0_no n s _ _ _ hs (gb_cell g (bxs_k0 w n s) (by simp)) (gb_cell g (bxs_k1 w n s) (by simp)) h).mono fun e w' hh => ⟨hh.1, trivial, hh.2⟩)).mono fun e w' hh => ⟨none, 0, by rw [ruL_no h]; exact hh.1, by rw [ruL_no h]; exact fun h => absurd h (by decide), hh.2.2⟩
  obtain ⟨x, hx⟩ : ∃ x, ruL n s = x := ⟨_, rfl⟩
  obtain ⟨y, hy⟩ : ∃ y, chk n s = y := ⟨_, rfl⟩
  rw [hx, hy] at H ⊢
  have HW := Lib.hid (bxs_gb w n s)
  clear hx hy g
  unfold bxs bx at H HW
  go_enter Tryd.func42, Tryd.ntmps42
  go_wp2_with fail
  refine H.out.mono ?_
  rintro e w1 ⟨a, cap, rfl, ho, hg⟩
  have HG := Lib.hid (gb_trans HW.out hg)
  have HO := Lib.hid ho
  clear hg ho
  go_wp2
  go_ret2
  exact ⟨a, cap, rfl, HO.out, HG.out⟩

theorem liL_len3 (n : Int) (s : ByteArray) : (liL n s).length ≤ 4096 := by
  by_cases hc : chk n s = 0
  · rw [liL, if_pos hc]
    obtain ⟨N, rfl, h1, _⟩ := vd_t (chk_t hc)
    have := nbl_len (bt s) N
    rw [Int.toNat_natCast]; omega
  · rw [liL, if_neg hc]; simp
theorem take_at (l : List Int) (k : Nat) (h : k < l.length) : l.take (k + 1) = l.take k ++ [l.getD k 0] := by
  rw [List.take_succ_eq_append_getElem h]; simp [List.getD, h]
theorem rnL_take (l : List Int) (k : Nat) (h : k < l.length) : rnL (l.take (k + 1)) = rstep (rnL (l.take k)) (l.getD k 0).toNat := by rw [take_at l k h, rnL_snoc]
theorem getD_memI {l : List Int} {k : Nat} (h : k < l.length) : l.getD k 0 ∈ l := by simp [List.getD, h]
theorem rstep_le {l : List (Nat × Nat)} {z M : Nat} (h : ∀ p ∈ l, p.1 + p.2 ≤ M) (hz : z < M) : ∀ p ∈ rstep l z, p.1 + p.2 ≤ M := by
  intro p hp
  rcases List.eq_nil_or_concat l with hnil | ⟨l', q, hcat⟩
  · rw [hnil, rstep_nil] at hp
    obtain rfl : p = (z, 1) := by simpa using hp
    simp; omega
  · rw [List.concat_eq_append] at hcat
    rw [hcat] at h hp
    rw [rstep_snoc] at hp
    have hq := h q (by simp)
    split at hp
    · rcases List.mem_append.1 hp with hp | hp
      · exact h p (by simp [hp])
      · obtain rfl : p = (q.1, q.2 + 1) := by simpa using hp
        simp; omega
    · rcases List.mem_append.1 hp with hp | hp
      · exact h p hp
      · obtain rfl : p = (z, 1) := by simpa using hp
        simp; omega
theorem rnL_le (l : List Int) (h : ∀ z ∈ l, 0 ≤ z ∧ z < 5000) : ∀ k, k ≤ l.length → (rnL (l.take k)).length ≤ k ∧ ∀ p ∈ rnL (l.take k), p.1 + p.2 ≤ 5000 := by
  intro k
  induction k with
  | zero => intro _; simp [rnL]
  | succ k ih =>
    intro hk
    obtain ⟨h1, h2⟩ := ih (by omega)
    have hz := h _ (getD_memI (show k < l.length by omega))
    rw [rnL_take l k (by omega)]
    exact ⟨by have := rstep_len (rnL (l.take k)) (l.getD k 0).toNat; omega, rstep_le h2 (by omega)⟩

set_option maxRecDepth 1000000 in
set_option maxHeartbeats 3200000 in
theorem RRuns_any (n : Int) (s : ByteArray) (w : World) (hs : s.size ≤ 140737488351232) :
    Calls Tryd.prog 43 #[.int .i64 n, .string s] w fun e w' => ∃ a cap, e = .returned (.tuple #[.slice a (ruL n s).length cap, .int .i64 (chk n s)]) ∧ RL w' a (RI (ruL n s)) ∧ w.grownBy w' none := by
  obtain ⟨i0, hi, hz0, hz1, hz2⟩ := info_parts run_info
  have HL := Lib.hid (RList_any n s w hs)
  have hll := liL_len3 n s
  have hru : rnL (liL n s) = ruL n s := by
    unfold liL ruL
    split
    · exact rnL_nbl _ _
    · rfl
  have hlt0 : ∀ z ∈ liL n s, 0 ≤ z ∧ z < 5000 := by
    intro z hz
    by_cases hc : chk n s = 0
    · rw [liL, if_pos hc] at hz
      obtain ⟨N, rfl, h1, _⟩ := vd_t (chk_t hc)
      rw [Int.toNat_natCast] at hz
      have := nbl_lt _ _ z hz
      omega
    · rw [liL, if_neg hc] at hz; simp at hz
  obtain ⟨l, hl⟩ : ∃ l, liL n s = l := ⟨_, rfl⟩
  obtain ⟨r, hr⟩ : ∃ r, ruL n s = r := ⟨_, rfl⟩
  obtain ⟨y, hy⟩ : ∃ y, chk n s = y := ⟨_, rfl⟩
  rw [hl, hr] at hru
  rw [hl] at hll hlt0
  rw [hl, hy] at HL
  rw [hr, hy]
  have HRU := Lib.hid hru
  have HLT := Lib.hid hlt0
  have HLE := Lib.hid (rnL_le l hlt0)
  clear hl hr hy hru hs hlt0
  go_enter Tryd.func43, Tryd.ntmps43
  go_wp2_with fail
  refine HL.out.mono ?_
  rintro e w1 ⟨v, rfl, ho, hb⟩
  obtain ⟨a, cap, rfl, hil⟩ := OR.il ho
  have HI := Lib.hid hil
  have HB := Lib.hid (gb_below hb none)
  clear ho hb hil HL
  obtain ⟨len, hlen⟩ : ∃ len, l.length = len := ⟨_, rfl⟩
  have HLN := Lib.hid hlen
  rw [hlen] at hll ⊢
  clear hlen
  go_wp2_with fail
  go_loopw [8, 10, 11, 20] (fun v _ _ j wr => ∃ (k : Nat) (a2 : Option Addr) (cap2 : Nat), k ≤ len ∧ j = .int .i64 k ∧ v = .slice a2 (rnL (l.take k)).length cap2 ∧ Hid (OU wr w1.heap.size (.slice a2 (rnL (l.take k)).length cap2) (rnL (l.take k))) ∧ Hid (Below w1.heap.size w1 wr)) (fun _ _ _ j _ => len - (intOf j).toNat)
  case atStart => exact ⟨0, none, 0, Nat.zero_le _, rfl, rfl, Lib.hid (OU_nil _ _), Lib.hid (Below.refl _ _)⟩
  case round =>
    obtain ⟨k, a2, cap2, hk, rfl, rfl, HO, HBk⟩ := hrel
    by_cases hlt : k < len
    · have hlt' : (k : Int) < (len : Int) := by omega
      obtain ⟨zb, off, rfl, hzc⟩ := HI.out (by rw [HLN.out]; omega)
      have cz := gb_cell (gb_below HBk.out none) (hzc k (by rw [HLN.out]; exact hlt)) (by simp)
      have hst := rnL_take l k (by rw [HLN.out]; exact hlt)
      have hz5 := HLT.out _ (getD_memI (show k < l.length by rw [HLN.out]; exact hlt))
      obtain ⟨hle1, hle2⟩ := HLE.out k (by rw [HLN.out]; exact hk)
      clear hzc
      obtain ⟨z, hz⟩ : ∃ z, l.getD k 0 = z := ⟨_, rfl⟩
      rw [hz] at cz hst hz5
      clear hz
      obtain ⟨Z, rfl⟩ : ∃ Z : Nat, z = Z := ⟨z.toNat, by omega⟩
      rw [Int.toNat_natCast] at hst
      have hZ5 : Z < 5000 := by omega
      have hWs := HBk.out.size
      have hou := HO.out
      rcases List.eq_nil_or_concat (rnL (l.take k)) with hnil | ⟨l', p, hcat⟩
      · rw [hnil] at hst
        rw [rstep_nil] at hst
        have hou' : wr.ownsRow w1.heap.size 85 2 (.slice a2 0 cap2) 0 (rC []) := by have := hou; rw [hnil] at this; exact this
        rw [show (rnL (l.take k)).length = 0 from by rw [hnil]; rfl]
        have dL : decide ((0 : Int) ≤ -1) = false := by decide
        clear hnil hle1 hle2 hou
        go_wp2_with fail
        go_quiet (fail)
        have hown1 := World.ownsRow.alloc (hou'.kept (gb_drew wr nq none) (by cases h : (Value.slice a2 0 cap2).ownBlock <;> simp)) (.cells #[.int .i64 (Z : Int), .int .i64 1] 85)
        have hbl1 : Below w1.heap.size w1 ((wr.drewN nq).alloc (.cells #[.int .i64 (Z : Int), .int .i64 1] 85)) := (HBk.out.grown (gb_drew wr nq none) hWs (fun _ e => by cases e)).alloc hWs _
        have hs1 : w1.heap.size ≤ ((wr.drewN nq).alloc (.cells #[.int .i64 (Z : Int), .int .i64 1] 85)).heap.size := by simp; omega
        have HST := Lib.hid hst
        clear hst
        go_wp2_with (at_builtin; refine wpList_append_own_at _ rfl _ _ 45 rfl w1.heap.size 85 i0 (.agg #[.int .i64 0, .int .i64 0]) 2 16 Tryd.underlying45 hi hz0 hz1 hz2 rfl (by decide) _ _ _ rfl hown1 ⟨(wr.drewN nq).heap.size, 0, none⟩ 1 1 [.int .i64 (Z : Int), .int .i64 1] rfl rfl (cells_two _ _ _ _) (by simp [Value.oneCell']) (by unfold maxLen; omega) (by omega) hs1 ?_; intro v' w2 hown' hgrow _ hat; have hbl2 := hbl1.grown hgrow hs1 (fun j e => (World.ownsRow.lt hown1 j e).1); have hown2 : OU w2 w1.heap.size v' (([] : List (Nat × Nat)) ++ [(Z, 1)]) := (by unfold OU; rw [rC_snoc, List.length_append]; exact hown'); obtain ⟨a3, cap3, rfl, _⟩ := OU.rl hown2)
        exact ⟨⟨k + 1, a3, cap3, by omega, by go_num, by rw [HST.out] <;> first | rfl | (simp [HLl.out]), Lib.hid (by rw [HST.out]; exact hown2), Lib.hid hbl2⟩, by simp [intOf]; omega⟩
      · obtain ⟨f, c⟩ := p
        rw [List.concat_eq_append] at hcat
        rw [hcat] at hst hle1 hle2
        rw [rstep_snoc] at hst
        have hle := hle2 (f, c) (by simp)
        simp only [] at hst hle
        obtain ⟨L, hL⟩ : ∃ L, l'.length = L := ⟨_, rfl⟩
        have hlen1 : (rnL (l.take k)).length = L + 1 := by rw [hcat, List.length_append, hL]; rfl
        have hou' : wr.ownsRow w1.heap.size 85 2 (.slice a2 (L + 1) cap2) (L + 1) (rC (l' ++ [(f, c)])) := by have := hou; unfold OU at this; rw [hlen1, hcat] at this; exact this
        rw [hlen1]
        have hL5 : L + 1 ≤ 5000 := by rw [List.length_append, hL] at hle1; simp at hle1; omega
        obtain ⟨g, gcap, eg⟩ := ownsRow_succ hou'
        obtain ⟨rfl, rfl⟩ : a2 = some ⟨g, 0, none⟩ ∧ cap2 = gcap := by cases eg; exact ⟨rfl, rfl⟩
        have k0 : wr.cell? ⟨g, L * 2, none⟩ = some (.int .i64 (f : Int)) := (hou'.cellAt (L * 2) (by omega)).trans (by rw [← hL]; exact rC_at0 l' (f, c))
        have k1 : wr.cell? ⟨g, L * 2 + 1, none⟩ = some (.int .i64 (c : Int)) := (hou'.cellAt (L * 2 + 1) (by omega)).trans (by rw [← hL]; exact rC_at1 l' (f, c))
        have kf := hou'.frozenAt (L * 2 + 1)
        have hgb := (OU.cells_ hou').1
        have dL : decide ((0 : Int) ≤ (L : Int)) = true := by simp
        clear hcat hle1 hle2 hou hlen1 eg
        by_cases he : f + c = Z
        · rw [if_pos he] at hst
          have d1 : ((f : Int) + (c : Int) == (Z : Int)) = true := by rw [beq_iff_eq]; omega
          have HST := Lib.hid hst
          have hX : ∀ nq, OU ((wr.drewN nq).setCell ⟨g, L * 2 + 1, none⟩ (.int .i64 ((c : Int) + 1))) w1.heap.size (.slice (some ⟨g, 0, none⟩) (L + 1) cap2) (l' ++ [(f, c + 1)]) ∧ Below w1.heap.size w1 ((wr.drewN nq).setCell ⟨g, L * 2 + 1, none⟩ (.int .i64 ((c : Int) + 1))) := fun nq => by
            have own1 := hou'.kept (gb_drew wr nq none) (.inr (by simp [Value.ownBlock]))
            obtain ⟨st, hg⟩ := own1.stored (L * 2 + 1) (.int .i64 ((c + 1 : Nat) : Int))
            rw [show ((c + 1 : Nat) : Int) = (c : Int) + 1 from by omega] at st hg
            refine ⟨?_, HBk.out.grown (gb_trans (gb_drew wr nq (some g)) hg) hWs (fun j e => by cases e; exact hgb)⟩
            unfold OU
            rw [List.length_append, hL, ← rC_set l' f c (c + 1), hL, show ((c + 1 : Nat) : Int) = (c : Int) + 1 from by omega]
            exact st
          have HX := Lib.hid hX
          have HLl := Lib.hid hL
          clear hst he hX hou' hL
          go_wp2_with fail
          go_quiet (fail)
          go_wp2_with fail
          exact ⟨⟨k + 1, some ⟨g, 0, none⟩, cap2, by omega, by go_num, by rw [HST.out, List.length_append, HLl.out]; rfl, Lib.hid (by rw [HST.out, List.length_append, HLl.out]; exact (HX.out _).1), Lib.hid (HX.out _).2⟩, by simp [intOf]; omega⟩
        · rw [if_neg he] at hst
          have d1 : ((f : Int) + (c : Int) == (Z : Int)) = false := by rw [beq_eq_false_iff_ne]; omega
          have HLl := Lib.hid hL
          clear he hL
          go_wp2_with fail
          go_quiet (fail)
          have hown1 := World.ownsRow.alloc (hou'.kept (gb_drew wr nq none) (by cases h : (Value.slice (some ⟨g, 0, none⟩) (L + 1) cap2).ownBlock <;> simp)) (.cells #[.int .i64 (Z : Int), .int .i64 1] 85)
          have hbl1 : Below w1.heap.size w1 ((wr.drewN nq).alloc (.cells #[.int .i64 (Z : Int), .int .i64 1] 85)) := (HBk.out.grown (gb_drew wr nq none) hWs (fun _ e => by cases e)).alloc hWs _
          have hs1 : w1.heap.size ≤ ((wr.drewN nq).alloc (.cells #[.int .i64 (Z : Int), .int .i64 1] 85)).heap.size := by simp; omega
          have HST := Lib.hid hst
          clear hst
          go_wp2_with (at_builtin; refine wpList_append_own_at _ rfl _ _ 45 rfl w1.heap.size 85 i0 (.agg #[.int .i64 0, .int .i64 0]) 2 16 Tryd.underlying45 hi hz0 hz1 hz2 rfl (by decide) _ _ _ rfl hown1 ⟨(wr.drewN nq).heap.size, 0, none⟩ 1 1 [.int .i64 (Z : Int), .int .i64 1] rfl rfl (cells_two _ _ _ _) (by simp [Value.oneCell']) (by unfold maxLen; omega) (by omega) hs1 ?_; intro v' w2 hown' hgrow _ hat; have hbl2 := hbl1.grown hgrow hs1 (fun j e => (World.ownsRow.lt hown1 j e).1); have hown2 : OU w2 w1.heap.size v' ((l' ++ [(f, c)]) ++ [(Z, 1)]) := (by unfold OU; rw [rC_snoc, List.length_append, show (l' ++ [(f, c)]).length = L + 1 from (by rw [List.length_append, HLl.out]; rfl)]; exact hown'); obtain ⟨a3, cap3, rfl, _⟩ := OU.rl hown2)
          exact ⟨⟨k + 1, a3, cap3, by omega, by go_num, by rw [HST.out] <;> first | rfl | (simp [HLl.out]), Lib.hid (by rw [HST.out]; exact hown2), Lib.hid hbl2⟩, by simp [intOf]; omega⟩
    · obtain rfl : k = len := by omega
      have hrr : rnL (l.take k) = r := by rw [← HRU.out, ← HLN.out, List.take_length]
      have hou := HO.out
      rw [hrr] at hou
      rw [show (rnL (l.take k)).length = r.length from by rw [hrr]]
      obtain ⟨a3, cap3, e3, hrl⟩ := OU.rl hou
      obtain ⟨rfl, rfl⟩ : a2 = a3 ∧ cap2 = cap3 := by cases e3; exact ⟨rfl, rfl⟩
      have HRL := Lib.hid hrl
      have HG := Lib.hid (gb_trans HB.out (gb_below HBk.out none))
      clear hrr hou e3 hrl
      go_wp2_with fail
      go_ret2
      exact ⟨a2, cap2, rfl, HRL.out, HG.out⟩

set_option maxRecDepth 100000 in
set_option maxHeartbeats 1600000 in
/-- two rows of the same runs -/
theorem LRuns_any (a b : Option Addr) (ca cb : Nat) (l : List (Int × Int)) (w : World) (ha : RL w a l) (hb : RL w b l) (hl : l.length ≤ 100000) :
    Calls Tryd.prog 46 #[.slice a l.length ca, .slice b l.length cb] w fun e w' => e = .returned (.bool true) ∧ w.grownBy w' none := by
  have HIA := Lib.hid ha
  have HIB := Lib.hid hb
  obtain ⟨len, hlen⟩ : ∃ len, l.length = len := ⟨_, rfl⟩
  have HLE := Lib.hid hlen
  rw [hlen] at hl ⊢
  clear hlen ha hb
  go_enter Tryd.func46, Tryd.ntmps46
  go_wp2_with fail
  go_loopw [5, 13] (fun _ i wr => ∃ k : Nat, k ≤ len ∧ i = .int .i64 k ∧ Hid (w.grownBy wr none)) (fun _ i _ => len - (intOf i).toNat)
  case atStart => exact ⟨0, Nat.zero_le _, rfl, Lib.hid (gb_refl _ _)⟩
  case round =>
    obtain ⟨k, hk, rfl, HG⟩ := hrel
    by_cases hlt : k < len
    · have hlt' : (k : Int) < (len : Int) := by omega
      obtain ⟨za, offa, rfl, hza⟩ := HIA.out (by rw [HLE.out]; omega)
      obtain ⟨zb, offb, rfl, hzb⟩ := HIB.out (by rw [HLE.out]; omega)
      have c1 := gb_cell HG.out (hza k (by rw [HLE.out]; exact hlt)).1 (by simp)
      have c1' := gb_cell HG.out (hza k (by rw [HLE.out]; exact hlt)).2 (by simp)
      have c2 := gb_cell HG.out (hzb k (by rw [HLE.out]; exact hlt)).1 (by simp)
      have c2' := gb_cell HG.out (hzb k (by rw [HLE.out]; exact hlt)).2 (by simp)
      clear hza hzb
      obtain ⟨z, hz⟩ : ∃ z, l.getD k (0, 0) = z := ⟨_, rfl⟩
      rw [hz] at c1 c2 c1' c2'
      clear hz
      obtain ⟨f, c⟩ := z
      simp only [] at c1 c2 c1' c2'
      go_wp2_with fail
      go_quiet (fail)
      go_wp2
      go_roundw
      case rel => exact ⟨k + 1, by omega, by go_num, Lib.hid (gb_trans HG.out (gb_drew _ _ _))⟩
      case measure => simp [intOf]; omega
    · obtain rfl : k = len := by omega
      go_wp2_with fail
      go_ret
      exact ⟨rfl, HG.out⟩
end Go.Proofs.YtbeaohnjifcgaaaDoor.Bh
