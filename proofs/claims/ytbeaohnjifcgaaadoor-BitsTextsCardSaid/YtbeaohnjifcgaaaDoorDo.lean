/-
  Texts of bits: Parse of the program and of the reference.
-/
import Derived.Test.YtbeaohnjifcgaaaDoorDm
namespace Go.Proofs.YtbeaohnjifcgaaaDoor.Db
open Go Go.RowKit Go.Shelf Go.Proofs.YtbeaohnjifcgaaaDoor.Sx Go.Proofs.YtbeaohnjifcgaaaDoor.Na Go.Proofs.YtbeaohnjifcgaaaDoor.Ba Go.Proofs.YtbeaohnjifcgaaaDoor.Bh Go.Proofs.YtbeaohnjifcgaaaDoor.Da

theorem rnl_zero (β : Nat → Bool) : ∀ k, (∀ j, j < k → β j = false) → rnl β k = [] := by
  intro k
  induction k with
  | zero => intro _; rfl
  | succ k ih =>
    intro h
    rw [rnl, if_neg (by rw [h k (by omega)]; decide)]
    exact ih fun j hj => h j (by omega)
theorem ruL_zero {N : Nat} (hN : N ≤ 4096) : ruL N (tf N fun _ => false) = [] := by
  unfold ruL
  split
  · rw [Int.toNat_natCast]
    exact rnl_zero _ _ fun j hj => bt_tf _ hj
  · rfl
theorem teS_nil {n : Int} {f : ByteArray} (h : ruL n f = []) : teS n f = ⟨#[]⟩ := by rw [teS_ruL, h]; rfl
theorem item_ne (k : Nat) (p : Nat × Nat) : item k p ≠ [] := by
  intro h
  unfold item at h
  have h1 := (dec_all p.1).1
  rw [← len_data] at h1
  have h2 := congrArg List.length h
  rw [List.length_append, List.length_append] at h2
  simp only [List.length_nil] at h2
  omega
theorem txk_ne (l : List (Nat × Nat)) (h : txk l l.length = []) : l = [] := by
  cases hk : l.length with
  | zero => exact List.eq_nil_of_length_eq_zero hk
  | succ k =>
    rw [hk, txk] at h
    exact absurd (List.append_eq_nil_iff.1 h).2 (item_ne _ _)
theorem good_nil {n : Int} {f : ByteArray} (h : good n ⟨#[]⟩ f) : f = tf n.toNat fun _ => false := by
  have h1 := h.2
  rw [teS_ruL] at h1
  have h2 : txk (ruL n f) (ruL n f).length = [] := by
    have h3 : (txB (ruL n f) (ruL n f).length).data.toList = [] := by rw [h1]
    exact h3
  have h3 := txk_ne _ h2
  obtain ⟨e1, e2⟩ := fr_runs h.1
  rw [h3] at e1 e2
  rw [← e2]
  unfold frS
  rw [if_pos e1]
  rfl
theorem PR_nil {N : Nat} (hN : N ≤ 4096) : PR N ⟨#[]⟩ (tf N fun _ => false) 0 :=
  .inl ⟨rfl, ⟨chk_of (vd_tf _ hN), teS_nil (ruL_zero hN)⟩, fun f g => by rw [good_nil g, Int.toNat_natCast]⟩
/-- what Parse answers at any number -/
def PRR (n : Int) (t s : ByteArray) (e : Int) : Prop := (rgt n = false ∧ s = ⟨#[]⟩ ∧ e = 7) ∨ (rgt n = true ∧ PR n t s e)
theorem PRR.one {n : Int} {t s s' : ByteArray} {e e' : Int} (h : PRR n t s e) (h' : PRR n t s' e') : s = s' ∧ e = e' := by
  rcases h with ⟨h, rfl, rfl⟩ | ⟨h, p⟩ <;> rcases h' with ⟨h', rfl, rfl⟩ | ⟨h', p'⟩
  · exact ⟨rfl, rfl⟩
  · rw [h] at h'; cases h'
  · rw [h] at h'; cases h'
  · exact p.one p'
theorem PRR.own {n : Int} {t s f : ByteArray} {e : Int} (h : PRR n t s e) (g : good n t f) : s = f ∧ e = 0 := by
  rcases h with ⟨h, _⟩ | ⟨_, ⟨rfl, g', u⟩ | ⟨_, _, u⟩⟩
  · have := g.1
    unfold chk at this
    rw [if_neg (by rw [h]; decide)] at this
    exact absurd this (by decide)
  · exact ⟨(u f g).symm, rfl⟩
  · exact absurd g (u f)
theorem PRR.good {n : Int} {t s : ByteArray} (h : PRR n t s 0) : good n t s := by
  rcases h with ⟨_, _, h⟩ | ⟨_, ⟨_, g, _⟩ | ⟨h, _⟩⟩
  · exact absurd h (by decide)
  · exact g
  · exact absurd h (by decide)
theorem good_par1 {N : Nat} {t : ByteArray} (hN : N ≤ 4096) (h0 : t.data.toList ≠ []) (hp : parL N (cutL 44 t.data.toList) (fun _ => false) = none) : PR N t ⟨#[]⟩ 2 :=
  PR.no fun f g => by
    obtain ⟨γ, e, _⟩ := good_par hN g h0
    rw [hp] at e; cases e
theorem good_par2 {N : Nat} {t : ByteArray} {γ : Nat → Bool} (hN : N ≤ 4096) (h0 : t.data.toList ≠ []) (hp : parL N (cutL 44 t.data.toList) (fun _ => false) = some γ) (hx : txt N (tf N γ) = t) : PR N t (tf N γ) 0 :=
  .inl ⟨rfl, ⟨chk_of (vd_tf _ hN), by unfold teS; rw [if_pos (chk_of (vd_tf _ hN)), Int.toNat_natCast]; exact hx⟩, fun f g => by
    obtain ⟨γ', e, e2⟩ := good_par hN g h0
    rw [hp] at e; cases e
    exact e2.symm⟩
theorem good_par3 {N : Nat} {t : ByteArray} {γ : Nat → Bool} (hN : N ≤ 4096) (h0 : t.data.toList ≠ []) (hp : parL N (cutL 44 t.data.toList) (fun _ => false) = some γ) (hx : txt N (tf N γ) ≠ t) : PR N t ⟨#[]⟩ 2 :=
  PR.no fun f g => by
    obtain ⟨γ', e, e2⟩ := good_par hN g h0
    rw [hp] at e; cases e
    refine hx ?_
    have := g.2
    unfold teS at this
    rw [if_pos g.1, Int.toNat_natCast] at this
    rw [e2]; exact this
/-- how long an own text is -/
theorem item_len10 (k : Nat) (p : Nat × Nat) (h : p.1 + p.2 ≤ 5000) : (item k p).length ≤ 10 := by
  have h1 := (dec_okN p.1 (by omega)).2.1
  have h2 := (dec_okN (p.1 + p.2 - 1) (by omega)).2.1
  rw [← len_data] at h1 h2
  unfold item
  rw [List.length_append, List.length_append]
  have h3 : (if k = 0 then ([] : List UInt8) else [44]).length ≤ 1 := by split <;> simp
  have h4 : (if 1 < p.2 then (45 : UInt8) :: (Hh.dec (p.1 + p.2 - 1)).data.toList else []).length ≤ 5 := by
    split
    · rw [List.length_cons]; omega
    · simp
  omega
theorem txk_len10 (l : List (Nat × Nat)) (hl : ∀ p ∈ l, p.1 + p.2 ≤ 5000) : ∀ k, k ≤ l.length → (txk l k).length ≤ 10 * k := by
  intro k
  induction k with
  | zero => intro _; simp [txk]
  | succ k ih =>
    intro h
    have := ih (by omega)
    have := item_len10 k _ (hl _ (getD_mem (show k < l.length by omega)))
    rw [txk, List.length_append]
    omega
theorem teS_len (n : Int) (s : ByteArray) : (teS n s).size ≤ 65536 := by
  rw [teS_ruL]
  have h1 := ruL_len n s
  have h2 := txk_len10 (ruL n s) (fun p hp => by have := ruL_le n s p hp; omega) (ruL n s).length (Nat.le_refl _)
  rw [← len_data]
  show (txk (ruL n s) (ruL n s).length).length ≤ 65536
  omega

theorem enterParse0 (args : Array Value) (w : World) : (callFunc 95 args).run Tryd.prog w = .ok (.enter 95 args) w := by kernel_rfl
theorem enterParse1 (args : Array Value) (w : World) : (callFunc 96 args).run Tryd.prog w = .ok (.enter 96 args) w := by kernel_rfl
set_option maxRecDepth 100000 in
set_option maxHeartbeats 800000 in
theorem P0_range (n : Int) (cn cs : Nat) (w : World) (hcn : w.cell? ⟨cn, 0, none⟩ = some (.int .i64 n)) (h : rgt n = false) :
    Calls Tryd.prog 95 #[.pointer (some ⟨cn, 0, none⟩), .pointer (some ⟨cs, 0, none⟩)] w fun e w' => e = .panicked [{ v := .iface 24 (.int .i64 7), recovered := false }] ∧ w.grownBy w' none := by
  have HA := Lib.hid (fun w => askSize_no n w h)
  clear h
  go_enter Tryd.func95, Tryd.ntmps95
  go_wp2_with fail
  refine (HA.out _).mono ?_
  rintro e w1 ⟨rfl, rfl⟩
  exact ⟨rfl, rfl, gb_refl _ _⟩
set_option maxRecDepth 100000 in
set_option maxHeartbeats 800000 in
theorem P0_empty (N : Nat) (hN : N ≤ 4096) (cn cs : Nat) (w : World) (hcn : w.cell? ⟨cn, 0, none⟩ = some (.int .i64 (N : Int))) (hcs : w.cell? ⟨cs, 0, none⟩ = some (.string ⟨#[]⟩)) :
    Calls Tryd.prog 95 #[.pointer (some ⟨cn, 0, none⟩), .pointer (some ⟨cs, 0, none⟩)] w fun e w' => e = .returned (.string (tf N fun _ => false)) ∧ w.grownBy w' none := by
  have hmf : ∀ (fn : Fn) (first cap : Array Value) (w : World), (Instr.makeFunc fn first cap).run Tryd.prog w = .ok (.func fn first cap) w := fun _ _ _ _ => rfl
  have HA := Lib.hid (fun w => askSize_ok (N : Int) w (rgt_of hN))
  have HN := Lib.hid (fun k w => Bc.refuse_no k w)
  rw [← tf_zero]
  have HB := Lib.hid (build_ok 96 #[] N _ rfl (by omega) (fun _ => 0) w none enterParse1 (fun w1 b hg hb H => by
    go_enter Tryd.func96, Tryd.ntmps96
    go_wp2
    go_end0
    exact ⟨rfl, H, hg⟩))
  obtain ⟨z, hz⟩ : ∃ z, bsOf ((N + 7) / 8) (fun _ => 0) = z := ⟨_, rfl⟩
  rw [hz] at HB ⊢
  clear hz
  go_enter Tryd.func95, Tryd.ntmps95
  go_wp2_with fail
  refine (HA.out _).mono ?_
  rintro e w1 ⟨rfl, rfl⟩
  go_wp2_with fail
  refine (HN.out _ _).mono ?_
  rintro e w1 ⟨rfl, rfl⟩
  go_wp2_with fail
  refine HB.out.mono ?_
  rintro e w1 ⟨rfl, hg⟩
  go_wp2
  go_ret
  exact ⟨rfl, hg⟩
theorem bxs_size (w : World) (n : Int) (s : ByteArray) : (bxs w n s).heap.size = w.heap.size + 2 := by simp [bxs, Bh.bx]
theorem Parse_inner (n : Int) (t : ByteArray) (w : World) (ht3 : t.size ≤ 65536) (hmx : Mx w) (ht : Hh.Tab w) :
    ∃ s k, PRR n t s k ∧ Calls Tryd.prog 56 #[.func (Fn.func 95) #[] #[.pointer (some ⟨w.heap.size, 0, none⟩), .pointer (some ⟨w.heap.size + 1, 0, none⟩)]] (bxs w n t) fun e w' => e = .returned (.tuple #[.string s, .int .i64 k]) ∧ (bxs w n t).grownBy w' none := by
  have ht2 : Hh.Tab (Bc.aw (bxs w n t)) := ht.below (below_of (gb_trans (bxs_gb w n t) (Bc.aw_gb _)))
  have hm2 : Mx (Bc.aw (bxs w n t)) := hmx.gb (gb_trans (bxs_gb w n t) (Bc.aw_gb _))
  have c0 := bxs_c0 w n t
  have c1 := bxs_c1 w n t
  have NO : ∀ k : Int, Calls Tryd.prog 95 #[.pointer (some ⟨w.heap.size, 0, none⟩), .pointer (some ⟨w.heap.size + 1, 0, none⟩)] (Bc.aw (bxs w n t)) (fun e w' => e = .panicked [{ v := .iface 24 (.int .i64 k), recovered := false }] ∧ (Bc.aw (bxs w n t)).grownBy w' none) → Calls Tryd.prog 56 #[.func (Fn.func 95) #[] #[.pointer (some ⟨w.heap.size, 0, none⟩), .pointer (some ⟨w.heap.size + 1, 0, none⟩)]] (bxs w n t) fun e w' => e = .returned (.tuple #[.string ⟨#[]⟩, .int .i64 k]) ∧ (bxs w n t).grownBy w' none := fun k H =>
    (Bc.att_no 95 _ k (bxs w n t) none (fun _ => True) (sta_true _) (fun _ h => by cases h) enterParse0 (H.mono fun e w' hh => ⟨hh.1, trivial, hh.2⟩)).mono fun e w' hh => ⟨hh.1, hh.2.2⟩
  have OK : ∀ s : ByteArray, Calls Tryd.prog 95 #[.pointer (some ⟨w.heap.size, 0, none⟩), .pointer (some ⟨w.heap.size + 1, 0, none⟩)] (Bc.aw (bxs w n t)) (fun e w' => e = .returned (.string s) ∧ (Bc.aw (bxs w n t)).grownBy w' none) → Calls Tryd.prog 56 #[.func (Fn.func 95) #[] #[.pointer (some ⟨w.heap.size, 0, none⟩), .pointer (some ⟨w.heap.size + 1, 0, none⟩)]] (bxs w n t) fun e w' => e = .returned (.tuple #[.string s, .int .i64 0]) ∧ (bxs w n t).grownBy w' none := fun s H =>
    (Bc.att_ok 95 _ _ (bxs w n t) none (fun _ => True) (sta_true _) (fun _ h => by cases h) enterParse0 (H.mono fun e w' hh => ⟨hh.1, trivial, hh.2⟩)).mono fun e w' hh => ⟨hh.1, hh.2.2⟩
  generalize Bc.aw (bxs w n t) = W at *
  cases hr : rgt n
  · exact ⟨⟨#[]⟩, 7, .inl ⟨hr, rfl, rfl⟩, NO 7 (P0_range n _ _ W c0 hr)⟩
  · obtain ⟨n0, n1⟩ := rgt_t hr
    obtain ⟨N, rfl⟩ : ∃ N : Nat, n = N := ⟨n.toNat, by omega⟩
    have hN : N ≤ 4096 := by omega
    cases h0 : t.toList.isEmpty
    · have hd : t.data.toList ≠ [] := fun e => by rw [ByteArray.toList_eq, e] at h0; exact absurd h0 (by decide)
      cases hp : parL N (cutL 44 t.data.toList) (fun _ => false) with
      | none => exact ⟨⟨#[]⟩, 2, .inr ⟨hr, good_par1 hN hd hp⟩, NO 2 (P0_none N hN t ht3 h0 _ _ W c0 c1 hm2 ht2 hp)⟩
      | some γ =>
        by_cases hx : txt N (tf N γ) = t
        · exact ⟨_, 0, .inr ⟨hr, good_par2 hN hd hp hx⟩, OK _ (P0_good N hN t ht3 h0 _ _ W c0 c1 hm2 ht2 γ hp hx)⟩
        · exact ⟨⟨#[]⟩, 2, .inr ⟨hr, good_par3 hN hd hp hx⟩, NO 2 (P0_bad N hN t ht3 h0 _ _ W c0 c1 hm2 ht2 γ hp hx)⟩
    · obtain rfl : t = ⟨#[]⟩ := bx (by rw [ByteArray.toList_eq] at h0; simpa using h0)
      exact ⟨_, 0, .inr ⟨hr, PR_nil hN⟩, OK _ (P0_empty N hN _ _ W c0 c1)⟩

set_option maxRecDepth 100000 in
set_option maxHeartbeats 800000 in
theorem Parse_any (n : Int) (t : ByteArray) (w : World) (ht3 : t.size ≤ 65536) (hmx : Mx w) (ht : Hh.Tab w) :
    ∃ s k, PRR n t s k ∧ Calls Tryd.prog 49 #[.int .i64 n, .string t] w fun e w' => e = .returned (.tuple #[.string s, .int .i64 k]) ∧ w.grownBy w' none := by
  have hmf : ∀ (fn : Fn) (first cap : Array Value) (w : World), (Instr.makeFunc fn first cap).run Tryd.prog w = .ok (.func fn first cap) w := fun _ _ _ _ => rfl
  obtain ⟨s, k, hpr, H0⟩ := Parse_inner n t w ht3 hmx ht
  refine ⟨s, k, hpr, ?_⟩
  have H := Lib.hid H0
  have HW := Lib.hid (bxs_gb w n t)
  clear ht hmx H0 hpr ht3
  unfold bxs Bh.bx at H HW
  go_enter Tryd.func49, Tryd.ntmps49
  go_wp2_with fail
  refine H.out.mono ?_
  rintro e w1 ⟨rfl, hg⟩
  have HG := Lib.hid (gb_trans HW.out hg)
  clear hg
  go_wp2
  go_ret2
  exact ⟨rfl, HG.out⟩
/-- the program's Parse of an own text -/
theorem Parse_own (n : Int) (s : ByteArray) (w : World) (hc : chk n s = 0) (hmx : Mx w) (ht : Hh.Tab w) :
    Calls Tryd.prog 49 #[.int .i64 n, .string (teS n s)] w fun e w' => e = .returned (.tuple #[.string s, .int .i64 0]) ∧ w.grownBy w' none := by
  obtain ⟨x, k, hpr, H⟩ := Parse_any n (teS n s) w (teS_len n s) hmx ht
  obtain ⟨rfl, rfl⟩ := hpr.own (f := s) ⟨hc, rfl⟩
  exact H

set_option maxRecDepth 100000 in
set_option maxHeartbeats 800000 in
theorem RParse_any (n : Int) (t : ByteArray) (w : World) (h3 : t.size ≤ 3000) :
    Calls Tryd.prog 50 #[.int .i64 n, .string t] w fun e w' => ∃ s k, e = .returned (.tuple #[.string s, .int .i64 k]) ∧ PRR n t s k ∧ w.grownBy w' none := by
  cases hr : rgt n
  · have HR := Lib.hid (fun w => right_f n w hr)
    have HP : Hid (PRR n t ⟨#[]⟩ 7) := Lib.hid (.inl ⟨hr, rfl, rfl⟩)
    clear hr
    go_enter Tryd.func50, Tryd.ntmps50
    go_wp2_with fail
    refine (HR.out _).mono ?_
    rintro e w1 ⟨rfl, rfl⟩
    go_wp2
    go_ret2
    exact ⟨_, _, rfl, HP.out, gb_refl _ _⟩
  · cases h0 : t.toList.isEmpty
    · exact (RParse_main n t w hr h3 h0).mono fun e w' ⟨s, k, e1, p, g⟩ => ⟨s, k, e1, .inr ⟨hr, p⟩, g⟩
    · obtain rfl : t = ⟨#[]⟩ := bx (by rw [ByteArray.toList_eq] at h0; simpa using h0)
      obtain ⟨n0, n1⟩ := rgt_t hr
      obtain ⟨N, rfl⟩ : ∃ N : Nat, n = N := ⟨n.toNat, by omega⟩
      have hN : N ≤ 4096 := by omega
      have HR := Lib.hid (fun w => right_t (N : Int) w hr)
      have HW := Lib.hid (fun w => RNew_any (N : Int) w)
      rw [show nwS (N : Int) = tf N (fun _ => false) from if_pos hr, show nwE (N : Int) = 0 from if_pos hr] at HW
      have HP : Hid (PRR N ⟨#[]⟩ (tf N fun _ => false) 0) := Lib.hid (.inr ⟨hr, PR_nil hN⟩)
      obtain ⟨z, hz⟩ : ∃ z, tf N (fun _ => false) = z := ⟨_, rfl⟩
      rw [hz] at HW HP
      clear hz hr h0
      go_enter Tryd.func50, Tryd.ntmps50
      go_wp2_with fail
      refine (HR.out _).mono ?_
      rintro e w1 ⟨rfl, rfl⟩
      go_wp2_with fail
      refine (HW.out _).mono ?_
      rintro e w1 ⟨rfl, hg⟩
      go_wp2
      go_ret2
      exact ⟨_, _, rfl, HP.out, hg⟩
end Go.Proofs.YtbeaohnjifcgaaaDoor.Db
