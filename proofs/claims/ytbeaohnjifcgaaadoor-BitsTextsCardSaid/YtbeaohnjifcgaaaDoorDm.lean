/-
  Texts of bits: the program's Parse. (made by mk_dm.py)
-/
import Derived.Test.YtbeaohnjifcgaaaDoorDl
import Derived.Deep.RegionHeld3
namespace Go.Proofs.YtbeaohnjifcgaaaDoor.Db
open Go Go.RowKit Go.Shelf Go.Proofs.YtbeaohnjifcgaaaDoor.Sx Go.Proofs.YtbeaohnjifcgaaaDoor.Na Go.Proofs.YtbeaohnjifcgaaaDoor.Ba Go.Proofs.YtbeaohnjifcgaaaDoor.Bh Go.Proofs.YtbeaohnjifcgaaaDoor.Da

theorem enterPa (args : Array Value) (w : World) : (callFunc 97 args).run Tryd.prog w = .ok (.enter 97 args) w := by kernel_rfl
theorem pp_lt {N : Nat} {p : List UInt8} {a c : Nat} (h : pp N p = some (a, c)) : a + c ≤ N := by
  unfold pp at h
  split at h
  · rename_i h1
    have e1 : numV (Lib.cut p [45]).1 < N := h1.2
    split at h
    · split at h
      · rename_i h2
        have e2 : numV (Lib.cut p [45]).2.1 < N := h2.2
        have := Option.some.inj h
        simp only [Prod.mk.injEq] at this
        omega
      · cases h
    · have := Option.some.inj h
      simp only [Prod.mk.injEq] at this
      omega
  · cases h
theorem parL_out (N : Nat) : ∀ (P : List (List UInt8)) (β γ : Nat → Bool), parL N P β = some γ → (∀ i, N ≤ i → β i = false) → ∀ i, N ≤ i → γ i = false := by
  intro P
  induction P with
  | nil => intro β γ h hb; cases h; exact hb
  | cons p r ih =>
    intro β γ h hb
    cases e : pp N p with
    | none => rw [parL_none e] at h; cases h
    | some q =>
      obtain ⟨a, c⟩ := q
      rw [parL_some e] at h
      have hl := pp_lt e
      exact ih _ γ h (fun i hi => by
        unfold setR
        rw [hb i hi, decide_eq_false (show ¬ i < a + c by omega)]
        simp)
theorem kcD {w w' : World} {b o : Nat} {v : Value} (g : w.grownBy w' none) (h : w.cell? ⟨b, o, none⟩ = some v) : w'.cell? ⟨b, o, none⟩ = some v := gb_cell g h (by simp)
theorem tab_gbD {w w' : World} (h : Hh.Tab w) (g : w.grownBy w' none) : Hh.Tab w' := h.below (below_of g)

set_option maxRecDepth 100000 in
set_option maxHeartbeats 800000 in
theorem P0_none (N : Nat) (hN : N ≤ 4096) (t : ByteArray) (ht3 : t.size ≤ 65536) (h0 : t.toList.isEmpty = false) (cn cs : Nat) (w : World) (hcn : w.cell? ⟨cn, 0, none⟩ = some (.int .i64 (N : Int))) (hcs : w.cell? ⟨cs, 0, none⟩ = some (.string t)) (hmx : Mx w) (ht : Hh.Tab w) (hp : parL N (cutL 44 t.data.toList) (fun _ => false) = none) :
    Calls Tryd.prog 95 #[.pointer (some ⟨cn, 0, none⟩), .pointer (some ⟨cs, 0, none⟩)] w fun e w' => e = .panicked [{ v := .iface 24 (.int .i64 2), recovered := false }] ∧ w.grownBy w' none := by
  have hmf : ∀ (fn : Fn) (first cap : Array Value) (w : World), (Instr.makeFunc fn first cap).run Tryd.prog w = .ok (.func fn first cap) w := fun _ _ _ _ => rfl
  have HA := Lib.hid (fun w => askSize_ok (N : Int) w (rgt_of hN))
  have HN := Lib.hid (fun k w => Bc.refuse_no k w)
  have HY := Lib.hid (fun k w => Bc.refuse_yes k w)
  have ht1 : decide ((65536 : Int) < (t.size : Int)) = false := by simp; omega
  have HB := Lib.hid (build_no 97 #[.pointer (some ⟨cs, 0, none⟩), .pointer (some ⟨cn, 0, none⟩)] N _ rfl hN 2 w none enterPa (fun w1 b hg hb H =>
    (Pa_any N _ rfl hN t ht3 b cs cn w w1 hcs hcn hmx H hg hb).mono fun e w2 hq => ⟨hq.2.1 hp, hq.2.2⟩))
  clear hp hmx ht
  go_enter Tryd.func95, Tryd.ntmps95
  go_wp2_with fail
  refine (HA.out _).mono ?_
  rintro e w1 ⟨rfl, rfl⟩
  go_wp2_with fail
  refine (HN.out _ _).mono ?_
  rintro e w1 ⟨rfl, rfl⟩
  go_wp2_with fail
  refine HB.out.mono ?_
  rintro e w2 ⟨rfl, hg⟩
  exact ⟨rfl, rfl, hg⟩
set_option maxRecDepth 100000 in
set_option maxHeartbeats 800000 in
theorem P0_good (N : Nat) (hN : N ≤ 4096) (t : ByteArray) (ht3 : t.size ≤ 65536) (h0 : t.toList.isEmpty = false) (cn cs : Nat) (w : World) (hcn : w.cell? ⟨cn, 0, none⟩ = some (.int .i64 (N : Int))) (hcs : w.cell? ⟨cs, 0, none⟩ = some (.string t)) (hmx : Mx w) (ht : Hh.Tab w) (γ : Nat → Bool) (hγ : parL N (cutL 44 t.data.toList) (fun _ => false) = some γ) (hx : txt N (tf N γ) = t) :
    Calls Tryd.prog 95 #[.pointer (some ⟨cn, 0, none⟩), .pointer (some ⟨cs, 0, none⟩)] w fun e w' => e = .returned (.string (tf N γ)) ∧ w.grownBy w' none := by
  have hmf : ∀ (fn : Fn) (first cap : Array Value) (w : World), (Instr.makeFunc fn first cap).run Tryd.prog w = .ok (.func fn first cap) w := fun _ _ _ _ => rfl
  have HA := Lib.hid (fun w => askSize_ok (N : Int) w (rgt_of hN))
  have HN := Lib.hid (fun k w => Bc.refuse_no k w)
  have HY := Lib.hid (fun k w => Bc.refuse_yes k w)
  have ht1 : decide ((65536 : Int) < (t.size : Int)) = false := by simp; omega
  have HB := Lib.hid (build_ok 97 #[.pointer (some ⟨cs, 0, none⟩), .pointer (some ⟨cn, 0, none⟩)] N _ rfl hN (bN γ) w none enterPa (fun w1 b hg hb H =>
    (Pa_any N _ rfl hN t ht3 b cs cn w w1 hcs hcn hmx H hg hb).mono fun e w2 hp => ⟨(hp.1 γ hγ).1, (hp.1 γ hγ).2, hp.2.2⟩))
  rw [bsOf_bN, tf_out (parL_out N _ _ γ hγ (fun _ _ => rfl))] at HB
  obtain ⟨V, v1, v2, v3, _⟩ := vd_t (vd_tf γ hN)
  obtain rfl : N = V := by omega
  have HTE := Lib.hid (fun w ht => text_any N (tf N γ) w hN (by omega) (by omega) ht)
  obtain ⟨o, ho⟩ : ∃ o, tf N γ = o := ⟨_, rfl⟩
  rw [ho] at HTE HB
  rw [ho] at hx ⊢
  obtain ⟨T, hT⟩ : ∃ T, txt N o = T := ⟨_, rfl⟩
  rw [hT] at HTE hx
  have HT := Lib.hid ht
  have HCN := Lib.hid hcn
  have HCS := Lib.hid hcs
  clear v1 v2 v3 hT ho hγ ht hmx
  subst hx
  have f1 : (T.toList != T.toList) = false := by simp
  go_enter Tryd.func95, Tryd.ntmps95
  go_wp2_with fail
  refine (HA.out _).mono ?_
  rintro e w1 ⟨rfl, rfl⟩
  go_wp2_with fail
  refine (HN.out _ _).mono ?_
  rintro e w1 ⟨rfl, rfl⟩
  go_wp2_with fail
  refine HB.out.mono ?_
  rintro e w2 ⟨rfl, hg⟩
  have kn := kcD hg HCN.out
  have ks := kcD hg HCS.out
  have hS0 : Hid ((fun w' => w'.cell? ⟨cn, 0, none⟩ = some (.int .i64 (N : Int)) ∧ w'.cell? ⟨cs, 0, none⟩ = some (.string T) ∧ Hh.Tab w' ∧ w.grownBy w' none) w2.drew) := Lib.hid ⟨kn, ks, tab_gbD HT.out (gb_trans hg (gb_drew1 _ _)), gb_trans hg (gb_drew1 _ _)⟩
  clear hg
  go_wp2_with fail
  go_region_held3 (fun w' => w'.cell? ⟨cn, 0, none⟩ = some (.int .i64 (N : Int)) ∧ w'.cell? ⟨cs, 0, none⟩ = some (.string T) ∧ Hh.Tab w' ∧ w.grownBy w' none)
    (first
      | exact hS0.out
      | assumption
      | (go_split_ands; exact ⟨kcD hbx (by assumption), kcD hbx (by assumption), tab_gbD (by assumption) hbx, gb_trans (by assumption) hbx⟩))
    (first
      | (go_at_call 93; refine (HTE.out _ (by go_split_ands; assumption)).mono ?_; rintro e w3 ⟨rfl, hby⟩; have hbx := gb_below hby none; clear hby)
      | (go_at_call 68; refine (HN.out _ _).mono ?_; rintro e w3 ⟨rfl, rfl⟩))
  go_split_ands
  go_wp2
  go_ret
  exact ⟨rfl, by assumption⟩
set_option maxRecDepth 100000 in
set_option maxHeartbeats 800000 in
theorem P0_bad (N : Nat) (hN : N ≤ 4096) (t : ByteArray) (ht3 : t.size ≤ 65536) (h0 : t.toList.isEmpty = false) (cn cs : Nat) (w : World) (hcn : w.cell? ⟨cn, 0, none⟩ = some (.int .i64 (N : Int))) (hcs : w.cell? ⟨cs, 0, none⟩ = some (.string t)) (hmx : Mx w) (ht : Hh.Tab w) (γ : Nat → Bool) (hγ : parL N (cutL 44 t.data.toList) (fun _ => false) = some γ) (hx : txt N (tf N γ) ≠ t) :
    Calls Tryd.prog 95 #[.pointer (some ⟨cn, 0, none⟩), .pointer (some ⟨cs, 0, none⟩)] w fun e w' => e = .panicked [{ v := .iface 24 (.int .i64 2), recovered := false }] ∧ w.grownBy w' none := by
  have hmf : ∀ (fn : Fn) (first cap : Array Value) (w : World), (Instr.makeFunc fn first cap).run Tryd.prog w = .ok (.func fn first cap) w := fun _ _ _ _ => rfl
  have HA := Lib.hid (fun w => askSize_ok (N : Int) w (rgt_of hN))
  have HN := Lib.hid (fun k w => Bc.refuse_no k w)
  have HY := Lib.hid (fun k w => Bc.refuse_yes k w)
  have ht1 : decide ((65536 : Int) < (t.size : Int)) = false := by simp; omega
  have HB := Lib.hid (build_ok 97 #[.pointer (some ⟨cs, 0, none⟩), .pointer (some ⟨cn, 0, none⟩)] N _ rfl hN (bN γ) w none enterPa (fun w1 b hg hb H =>
    (Pa_any N _ rfl hN t ht3 b cs cn w w1 hcs hcn hmx H hg hb).mono fun e w2 hp => ⟨(hp.1 γ hγ).1, (hp.1 γ hγ).2, hp.2.2⟩))
  rw [bsOf_bN, tf_out (parL_out N _ _ γ hγ (fun _ _ => rfl))] at HB
  obtain ⟨V, v1, v2, v3, _⟩ := vd_t (vd_tf γ hN)
  obtain rfl : N = V := by omega
  have HTE := Lib.hid (fun w ht => text_any N (tf N γ) w hN (by omega) (by omega) ht)
  obtain ⟨o, ho⟩ : ∃ o, tf N γ = o := ⟨_, rfl⟩
  rw [ho] at HTE HB
  rw [ho] at hx
  obtain ⟨T, hT⟩ : ∃ T, txt N o = T := ⟨_, rfl⟩
  rw [hT] at HTE hx
  have HT := Lib.hid ht
  have HCN := Lib.hid hcn
  have HCS := Lib.hid hcs
  clear v1 v2 v3 hT ho hγ ht hmx
  have f1 : (T.toList != t.toList) = true := by
    rw [bne_iff_ne]
    intro h
    rw [ByteArray.toList_eq, ByteArray.toList_eq] at h
    exact hx (bx h)
  have f2 : (T.toList == t.toList) = false := by rw [← Bool.not_eq_true']; exact f1
  clear hx
  go_enter Tryd.func95, Tryd.ntmps95
  go_wp2_with fail
  refine (HA.out _).mono ?_
  rintro e w1 ⟨rfl, rfl⟩
  go_wp2_with fail
  refine (HN.out _ _).mono ?_
  rintro e w1 ⟨rfl, rfl⟩
  go_wp2_with fail
  refine HB.out.mono ?_
  rintro e w2 ⟨rfl, hg⟩
  have kn := kcD hg HCN.out
  have ks := kcD hg HCS.out
  have hS0 : Hid ((fun w' => w'.cell? ⟨cn, 0, none⟩ = some (.int .i64 (N : Int)) ∧ w'.cell? ⟨cs, 0, none⟩ = some (.string t) ∧ Hh.Tab w' ∧ w.grownBy w' none) w2.drew) := Lib.hid ⟨kn, ks, tab_gbD HT.out (gb_trans hg (gb_drew1 _ _)), gb_trans hg (gb_drew1 _ _)⟩
  clear hg
  go_wp2_with fail
  refine wp_region_held_drew (S := fun w' => w'.cell? ⟨cn, 0, none⟩ = some (.int .i64 (N : Int)) ∧ w'.cell? ⟨cs, 0, none⟩ = some (.string t) ∧ Hh.Tab w' ∧ w.grownBy w' none) (by kernel_rfl) hS0.out (fun hHeld => ?_)
  refine wpAnyH_take (i := 0) (oi := ⟨some 17, .load 3 (.tmp 0), 3, "bits.go:359", #[], none⟩) (v := .int .i64 (N : Int)) rfl (by kernel_rfl) (by kernel_rfl) (by kernel_rfl) (fun _ _ _ h => h) ?_ (by assumption) ?_
  · refine Or.inl ⟨by rfl, ?_⟩
    intro w hSw
    try dsimp only at hSw
    go_split_ands
    first | (go_simp; done) | (go_simp; with_reducible rfl)
  try simp only [Act.put, List.setIfInBounds_toArray, List.set_cons_zero, List.set_cons_succ]
  refine wpAnyH_take (i := 1) (oi := ⟨some 18, .move (.tmp 3), 9, "bits.go:359", #[], none⟩) (v := .string o) rfl (by kernel_rfl) (by kernel_rfl) (by kernel_rfl) (fun _ _ _ h => h) ?_ (by assumption) ?_
  · refine Or.inl ⟨by rfl, ?_⟩
    intro w hSw
    try dsimp only at hSw
    go_split_ands
    first | (go_simp; done) | (go_simp; with_reducible rfl)
  try simp only [Act.put, List.setIfInBounds_toArray, List.set_cons_zero, List.set_cons_succ]
  refine wpAnyH_take (i := 3) (oi := ⟨some 20, .load 9 (.tmp 1), 9, "bits.go:359", #[], none⟩) (v := .string t) rfl (by kernel_rfl) (by kernel_rfl) (by kernel_rfl) (fun _ _ _ h => h) ?_ (by assumption) ?_
  · refine Or.inl ⟨by rfl, ?_⟩
    intro w hSw
    try dsimp only at hSw
    go_split_ands
    first | (go_simp; done) | (go_simp; with_reducible rfl)
  try simp only [Act.put, List.setIfInBounds_toArray, List.set_cons_zero, List.set_cons_succ]
  refine wpAnyH_ready (rs := [2]) (by kernel_rfl) (by simp) ?_
  refine AllReadyH.cons rfl (fun K0 hK0 => ?_) AllReadyH.nil
  go_simp
  refine (HTE.out _ (by (try dsimp only at hHeld); go_split_ands; assumption)).mono ?_
  rintro e w3 ⟨rfl, hby⟩
  have hbx := gb_below hby none
  refine hK0.out _ _ (by (try dsimp only at hHeld); (try dsimp only); go_split_ands; exact ⟨kcD hbx (by assumption), kcD hbx (by assumption), tab_gbD (by assumption) hbx, gb_trans (by assumption) hbx⟩) (fun hHeld2 => ?_)
  clear hK0 K0 hHeld hby hbx
  try simp only [Act.put, List.setIfInBounds_toArray, List.set_cons_zero, List.set_cons_succ]
  refine wpAnyH_ready (rs := [4]) (by kernel_rfl) (by simp) ?_
  refine AllReadyH.cons rfl (fun K0 hK0 => ?_) AllReadyH.nil
  go_simp
  refine hK0.out _ _ hHeld2 (fun hHeld3 => ?_)
  clear hK0 K0 hHeld2
  try simp only [Act.put, List.setIfInBounds_toArray, List.set_cons_zero, List.set_cons_succ]
  refine wpAnyH_ready (rs := [5]) (by kernel_rfl) (by simp) ?_
  refine AllReadyH.cons rfl (fun K0 hK0 => ?_) AllReadyH.nil
  go_simp
  try simp only [f2, Bool.not_false]
  refine (HY.out _ _).mono ?_
  rintro e w4 ⟨rfl, rfl⟩
  try dsimp only at hHeld3
  go_split_ands
  exact ⟨rfl, rfl, by assumption⟩
end Go.Proofs.YtbeaohnjifcgaaaDoor.Db
