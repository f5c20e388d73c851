/-
  Veiled streams: the program's Stream, and the law's walk.
-/
import Derived.Test.YtojgigoknjenoaaDoorVc
import Derived.Deep.RegionHeld3
namespace Go.Proofs.YtojgigoknjenoaaDoor.Vb
open Go Go.RowKit Go.Shelf Go.Proofs.YtojgigoknjenoaaDoor.Hh Go.Proofs.YtojgigoknjenoaaDoor.Sx Go.Proofs.YtojgigoknjenoaaDoor.Hi
theorem kc {w w' : World} {b o : Nat} {v : Value} (g : w.grownBy w' none) (h : w.cell? ⟨b, o, none⟩ = some v) : w'.cell? ⟨b, o, none⟩ = some v := gb_cell g h (by simp)

set_option maxRecDepth 100000 in
set_option maxHeartbeats 1000000 in
theorem vs_one (q : Int) (sh nm : ByteArray) (F C : Int) (cs cn cq cf cc : Nat) (w : World) (hcs : w.cell? ⟨cs, 0, none⟩ = some (.string sh)) (hcn : w.cell? ⟨cn, 0, none⟩ = some (.string nm)) (hcq : w.cell? ⟨cq, 0, none⟩ = some (.int .u8 q)) (hcf : w.cell? ⟨cf, 0, none⟩ = some (.int .i64 F)) (hcc : w.cell? ⟨cc, 0, none⟩ = some (.int .i64 C)) (hs : sh.size ≤ 100) (hn : nm.size ≤ 100) (h : nm.size ≠ 20) :
    Calls Tryd.prog 10 #[.pointer (some ⟨cs, 0, none⟩), .pointer (some ⟨cn, 0, none⟩), .pointer (some ⟨cq, 0, none⟩), .pointer (some ⟨cf, 0, none⟩), .pointer (some ⟨cc, 0, none⟩)] w fun e w' => e = .panicked [{ v := .iface 23 (.int .i64 1), recovered := false }] ∧ w.grownBy w' none := by
  have HN := Lib.hid (fun k w => Va.refuse_no k w)
  have HY := Lib.hid (fun k w => Va.refuse_yes k w)
  have z1 : ¬ (65536 : Int) < (sh.size : Int) := by omega
  have z2 : ¬ (65536 : Int) < (nm.size : Int) := by omega
  have d : ((nm.size : Int) != 20) = true := by rw [bne_iff_ne]; omega
  have d2 : ¬ ((nm.size : Int) = 20) := by omega
  go_enter Tryd.func10, Tryd.ntmps10
  go_wp2_with fail
  refine (HN.out _ _).mono ?_
  rintro e w1 ⟨rfl, rfl⟩
  go_wp2_with fail
  refine (HY.out _ _).mono ?_
  rintro e w1 ⟨rfl, rfl⟩
  exact ⟨rfl, rfl, gb_refl _ _⟩
set_option maxRecDepth 100000 in
set_option maxHeartbeats 1000000 in
theorem vs_who (q : Int) (sh nm : ByteArray) (F C : Int) (cs cn cq cf cc : Nat) (w : World) (hcs : w.cell? ⟨cs, 0, none⟩ = some (.string sh)) (hcn : w.cell? ⟨cn, 0, none⟩ = some (.string nm)) (hcq : w.cell? ⟨cq, 0, none⟩ = some (.int .u8 q)) (hcf : w.cell? ⟨cf, 0, none⟩ = some (.int .i64 F)) (hcc : w.cell? ⟨cc, 0, none⟩ = some (.int .i64 C)) (hs : sh.size ≤ 100) (hn : nm.size ≤ 100) (h : nm.size = 20) (h5 : q ≠ 65) (h6 : q ≠ 66) :
    Calls Tryd.prog 10 #[.pointer (some ⟨cs, 0, none⟩), .pointer (some ⟨cn, 0, none⟩), .pointer (some ⟨cq, 0, none⟩), .pointer (some ⟨cf, 0, none⟩), .pointer (some ⟨cc, 0, none⟩)] w fun e w' => e = .panicked [{ v := .iface 23 (.int .i64 7), recovered := false }] ∧ w.grownBy w' none := by
  have HN := Lib.hid (fun k w => Va.refuse_no k w)
  have HY := Lib.hid (fun k w => Va.refuse_yes k w)
  have z1 : ¬ (65536 : Int) < (sh.size : Int) := by omega
  have z2 : ¬ (65536 : Int) < (nm.size : Int) := by omega
  have d : (nm.size : Int) = 20 := by omega
  have e5 : (q != 65) = true := by rw [bne_iff_ne]; exact h5
  have e6 : (q != 66) = true := by rw [bne_iff_ne]; exact h6
  go_enter Tryd.func10, Tryd.ntmps10
  go_wp2_with fail
  refine (HN.out _ _).mono ?_
  rintro e w1 ⟨rfl, rfl⟩
  go_wp2_with fail
  refine (HN.out _ _).mono ?_
  rintro e w1 ⟨rfl, rfl⟩
  go_wp2_with fail
  refine (HY.out _ _).mono ?_
  rintro e w1 ⟨rfl, rfl⟩
  exact ⟨rfl, rfl, gb_refl _ _⟩
set_option maxRecDepth 100000 in
set_option maxHeartbeats 1000000 in
theorem vs_bad65 (sh nm : ByteArray) (F C : Int) (cs cn cq cf cc : Nat) (w : World) (hcs : w.cell? ⟨cs, 0, none⟩ = some (.string sh)) (hcn : w.cell? ⟨cn, 0, none⟩ = some (.string nm)) (hcq : w.cell? ⟨cq, 0, none⟩ = some (.int .u8 (65 : Int))) (hcf : w.cell? ⟨cf, 0, none⟩ = some (.int .i64 F)) (hcc : w.cell? ⟨cc, 0, none⟩ = some (.int .i64 C)) (hs : sh.size ≤ 100) (hn : nm.size ≤ 100) (ht : Tab w) (h : nm.size = 20) (hb : badS F C) :
    Calls Tryd.prog 10 #[.pointer (some ⟨cs, 0, none⟩), .pointer (some ⟨cn, 0, none⟩), .pointer (some ⟨cq, 0, none⟩), .pointer (some ⟨cf, 0, none⟩), .pointer (some ⟨cc, 0, none⟩)] w fun e w' => e = .panicked [{ v := .iface 23 (.int .i64 7), recovered := false }] ∧ w.grownBy w' none := by
  have HN := Lib.hid (fun k w => Va.refuse_no k w)
  have HY := Lib.hid (fun k w => Va.refuse_yes k w)
  have z1 : ¬ (65536 : Int) < (sh.size : Int) := by omega
  have z2 : ¬ (65536 : Int) < (nm.size : Int) := by omega
  have d : (nm.size : Int) = 20 := by omega
  have HKy := Lib.hid (fun w => streamKey_any (65 : Int) sh nm w hs hn)
  have HSt := Lib.hid (fun w ht => Stream_any (ky (65 : Int) sh nm) F C w (by rw [ky_size]; omega) ht)
  have HT := Lib.hid ht
  have hS0 : Hid ((fun w' => w'.cell? ⟨cq, 0, none⟩ = some (.int .u8 (65 : Int)) ∧ w'.cell? ⟨cs, 0, none⟩ = some (.string sh) ∧ w'.cell? ⟨cn, 0, none⟩ = some (.string nm) ∧ w'.cell? ⟨cf, 0, none⟩ = some (.int .i64 F) ∧ w'.cell? ⟨cc, 0, none⟩ = some (.int .i64 C) ∧ Tab w' ∧ w.grownBy w' none) w.drew) := Lib.hid ⟨hcq, hcs, hcn, hcf, hcc, ht, gb_drew1 _ _⟩
  have HM := Lib.hid (fun x w => must_no x w)
  have e1 : stE F C = 7 := if_pos hb
  rw [e1] at HSt
  obtain ⟨K, hK⟩ : ∃ K, ky (65 : Int) sh nm = K := ⟨_, rfl⟩
  rw [hK] at HSt
  simp only [hK] at HKy
  obtain ⟨T, hT⟩ : ∃ T, stS K F C = T := ⟨_, rfl⟩
  simp only [hT] at HSt
  clear hK hT e1 ht
  go_enter Tryd.func10, Tryd.ntmps10
  go_wp2_with fail
  refine (HN.out _ _).mono ?_
  rintro e w1 ⟨rfl, rfl⟩
  go_wp2_with fail
  refine (HN.out _ _).mono ?_
  rintro e w1 ⟨rfl, rfl⟩
  go_wp2_with fail
  refine (HN.out _ _).mono ?_
  rintro e w1 ⟨rfl, rfl⟩
  go_wp2_with fail
  refine wp_region_held_drew (S := fun w' => w'.cell? ⟨cq, 0, none⟩ = some (.int .u8 (65 : Int)) ∧ w'.cell? ⟨cs, 0, none⟩ = some (.string sh) ∧ w'.cell? ⟨cn, 0, none⟩ = some (.string nm) ∧ w'.cell? ⟨cf, 0, none⟩ = some (.int .i64 F) ∧ w'.cell? ⟨cc, 0, none⟩ = some (.int .i64 C) ∧ Tab w' ∧ w.grownBy w' none) (by kernel_rfl) hS0.out (fun hHeld => ?_)
  refine wpAnyH_take (i := 0) (oi := ⟨some 27, .load 5 (.tmp 2), 5, "veil.go:70", #[], none⟩) (v := .int .u8 (65 : Int)) rfl (by kernel_rfl) (by kernel_rfl) (by kernel_rfl) (fun _ _ _ h => h) ?_ (by assumption) ?_
  · refine Or.inl ⟨by rfl, ?_⟩
    intro w hSw
    try dsimp only at hSw
    go_split_ands
    first | (go_simp; done) | (go_simp; with_reducible rfl)
  try simp only [Act.put, List.setIfInBounds_toArray, List.set_cons_zero, List.set_cons_succ]
  refine wpAnyH_take (i := 1) (oi := ⟨some 28, .load 9 (.tmp 0), 9, "veil.go:70", #[], none⟩) (v := .string sh) rfl (by kernel_rfl) (by kernel_rfl) (by kernel_rfl) (fun _ _ _ h => h) ?_ (by assumption) ?_
  · refine Or.inl ⟨by rfl, ?_⟩
    intro w hSw
    try dsimp only at hSw
    go_split_ands
    first | (go_simp; done) | (go_simp; with_reducible rfl)
  try simp only [Act.put, List.setIfInBounds_toArray, List.set_cons_zero, List.set_cons_succ]
  refine wpAnyH_take (i := 2) (oi := ⟨some 29, .load 9 (.tmp 1), 9, "veil.go:70", #[], none⟩) (v := .string nm) rfl (by kernel_rfl) (by kernel_rfl) (by kernel_rfl) (fun _ _ _ h => h) ?_ (by assumption) ?_
  · refine Or.inl ⟨by rfl, ?_⟩
    intro w hSw
    try dsimp only at hSw
    go_split_ands
    first | (go_simp; done) | (go_simp; with_reducible rfl)
  try simp only [Act.put, List.setIfInBounds_toArray, List.set_cons_zero, List.set_cons_succ]
  refine wpAnyH_take (i := 4) (oi := ⟨some 31, .load 3 (.tmp 3), 3, "veil.go:70", #[], none⟩) (v := .int .i64 F) rfl (by kernel_rfl) (by kernel_rfl) (by kernel_rfl) (fun _ _ _ h => h) ?_ (by assumption) ?_
  · refine Or.inl ⟨by rfl, ?_⟩
    intro w hSw
    try dsimp only at hSw
    go_split_ands
    first | (go_simp; done) | (go_simp; with_reducible rfl)
  try simp only [Act.put, List.setIfInBounds_toArray, List.set_cons_zero, List.set_cons_succ]
  refine wpAnyH_take (i := 5) (oi := ⟨some 32, .load 3 (.tmp 4), 3, "veil.go:70", #[], none⟩) (v := .int .i64 C) rfl (by kernel_rfl) (by kernel_rfl) (by kernel_rfl) (fun _ _ _ h => h) ?_ (by assumption) ?_
  · refine Or.inl ⟨by rfl, ?_⟩
    intro w hSw
    try dsimp only at hSw
    go_split_ands
    first | (go_simp; done) | (go_simp; with_reducible rfl)
  try simp only [Act.put, List.setIfInBounds_toArray, List.set_cons_zero, List.set_cons_succ]
  refine wpAnyH_ready (rs := [3]) (by kernel_rfl) (by simp) ?_
  refine AllReadyH.cons rfl (fun K0 hK0 => ?_) AllReadyH.nil
  go_simp
  refine (HKy.out _).mono ?_
  rintro e w2 ⟨rfl, g2⟩
  refine hK0.out _ _ (by (try dsimp only at hHeld); (try dsimp only); go_split_ands; exact ⟨kc g2 (by assumption), kc g2 (by assumption), kc g2 (by assumption), kc g2 (by assumption), kc g2 (by assumption), tab_gb (by assumption) g2, gb_trans (by assumption) g2⟩) (fun hHeld2 => ?_)
  clear hK0 K0 hHeld g2
  try simp only [Act.put, List.setIfInBounds_toArray, List.set_cons_zero, List.set_cons_succ]
  refine wpAnyH_ready (rs := [6]) (by kernel_rfl) (by simp) ?_
  refine AllReadyH.cons rfl (fun K0 hK0 => ?_) AllReadyH.nil
  go_simp
  refine (HSt.out _ (by (try dsimp only at hHeld2); go_split_ands; assumption)).mono ?_
  rintro e w3 ⟨rfl, g2⟩
  refine hK0.out _ _ (by (try dsimp only at hHeld2); (try dsimp only); go_split_ands; exact ⟨kc g2 (by assumption), kc g2 (by assumption), kc g2 (by assumption), kc g2 (by assumption), kc g2 (by assumption), tab_gb (by assumption) g2, gb_trans (by assumption) g2⟩) (fun hHeld3 => ?_)
  clear hK0 K0 hHeld2 g2
  try simp only [Act.put, List.setIfInBounds_toArray, List.set_cons_zero, List.set_cons_succ]
  refine wpAnyH_take (i := 7) (oi := ⟨some 34, .extract (.tmp 33) 0, 9, "veil.go:70", #[⟨6, .data⟩], none⟩) (v := .string T) rfl (by kernel_rfl) (by kernel_rfl) (by kernel_rfl) (fun _ _ _ h => h) ?_ (by assumption) ?_
  · refine Or.inl ⟨by rfl, ?_⟩
    intro w hSw
    try dsimp only at hSw
    go_split_ands
    first | (go_simp; done) | (go_simp; with_reducible rfl)
  try simp only [Act.put, List.setIfInBounds_toArray, List.set_cons_zero, List.set_cons_succ]
  refine wpAnyH_take (i := 8) (oi := ⟨some 35, .extract (.tmp 33) 1, 23, "veil.go:70", #[⟨6, .data⟩], none⟩) (v := .int .i64 7) rfl (by kernel_rfl) (by kernel_rfl) (by kernel_rfl) (fun _ _ _ h => h) ?_ (by assumption) ?_
  · refine Or.inl ⟨by rfl, ?_⟩
    intro w hSw
    try dsimp only at hSw
    go_split_ands
    first | (go_simp; done) | (go_simp; with_reducible rfl)
  try simp only [Act.put, List.setIfInBounds_toArray, List.set_cons_zero, List.set_cons_succ]
  refine wpAnyH_ready (rs := [9]) (by kernel_rfl) (by simp) ?_
  refine AllReadyH.cons rfl (fun K0 hK0 => ?_) AllReadyH.nil
  go_simp
  refine (HM.out _ _).mono ?_
  rintro e w4 ⟨rfl, rfl⟩
  try dsimp only at hHeld3
  go_split_ands
  exact ⟨rfl, rfl, by assumption⟩
set_option maxRecDepth 100000 in
set_option maxHeartbeats 1000000 in
theorem vs_size65 (sh nm : ByteArray) (F C : Int) (cs cn cq cf cc : Nat) (w : World) (hcs : w.cell? ⟨cs, 0, none⟩ = some (.string sh)) (hcn : w.cell? ⟨cn, 0, none⟩ = some (.string nm)) (hcq : w.cell? ⟨cq, 0, none⟩ = some (.int .u8 (65 : Int))) (hcf : w.cell? ⟨cf, 0, none⟩ = some (.int .i64 F)) (hcc : w.cell? ⟨cc, 0, none⟩ = some (.int .i64 C)) (hs : sh.size ≤ 100) (hn : nm.size ≤ 100) (ht : Tab w) (h : nm.size = 20) (hb : ¬ badS F C) (h8 : sh.size ≠ 8) :
    Calls Tryd.prog 10 #[.pointer (some ⟨cs, 0, none⟩), .pointer (some ⟨cn, 0, none⟩), .pointer (some ⟨cq, 0, none⟩), .pointer (some ⟨cf, 0, none⟩), .pointer (some ⟨cc, 0, none⟩)] w fun e w' => e = .panicked [{ v := .iface 23 (.int .i64 11), recovered := false }] ∧ w.grownBy w' none := by
  have HN := Lib.hid (fun k w => Va.refuse_no k w)
  have HY := Lib.hid (fun k w => Va.refuse_yes k w)
  have z1 : ¬ (65536 : Int) < (sh.size : Int) := by omega
  have z2 : ¬ (65536 : Int) < (nm.size : Int) := by omega
  have d : (nm.size : Int) = 20 := by omega
  have ds : ((sh.size : Int) != 8) = true := by rw [bne_iff_ne]; omega
  have ds2 : ¬ ((sh.size : Int) = 8) := by omega
  have HKy := Lib.hid (fun w => streamKey_any (65 : Int) sh nm w hs hn)
  have HSt := Lib.hid (fun w ht => Stream_any (ky (65 : Int) sh nm) F C w (by rw [ky_size]; omega) ht)
  have HT := Lib.hid ht
  have hS0 : Hid ((fun w' => w'.cell? ⟨cq, 0, none⟩ = some (.int .u8 (65 : Int)) ∧ w'.cell? ⟨cs, 0, none⟩ = some (.string sh) ∧ w'.cell? ⟨cn, 0, none⟩ = some (.string nm) ∧ w'.cell? ⟨cf, 0, none⟩ = some (.int .i64 F) ∧ w'.cell? ⟨cc, 0, none⟩ = some (.int .i64 C) ∧ Tab w' ∧ w.grownBy w' none) w.drew) := Lib.hid ⟨hcq, hcs, hcn, hcf, hcc, ht, gb_drew1 _ _⟩
  have HM := Lib.hid (fun x w => must_ok x w)
  have e1 : stE F C = 0 := if_neg hb
  have e2 : stS (ky (65 : Int) sh nm) F C = sgB (ky (65 : Int) sh nm) F.toNat C.toNat := if_neg hb
  rw [e1, e2] at HSt
  obtain ⟨T, hT⟩ : ∃ T, sgB (ky (65 : Int) sh nm) F.toNat C.toNat = T := ⟨_, rfl⟩
  simp only [hT] at HSt
  obtain ⟨K, hK⟩ : ∃ K, ky (65 : Int) sh nm = K := ⟨_, rfl⟩
  rw [hK] at HSt
  simp only [hK] at HKy
  clear hK hT e1 e2 ht
  go_enter Tryd.func10, Tryd.ntmps10
  go_wp2_with fail
  refine (HN.out _ _).mono ?_
  rintro e w1 ⟨rfl, rfl⟩
  go_wp2_with fail
  refine (HN.out _ _).mono ?_
  rintro e w1 ⟨rfl, rfl⟩
  go_wp2_with fail
  refine (HN.out _ _).mono ?_
  rintro e w1 ⟨rfl, rfl⟩
  go_wp2_with fail
  go_region_held3 (fun w' => w'.cell? ⟨cq, 0, none⟩ = some (.int .u8 (65 : Int)) ∧ w'.cell? ⟨cs, 0, none⟩ = some (.string sh) ∧ w'.cell? ⟨cn, 0, none⟩ = some (.string nm) ∧ w'.cell? ⟨cf, 0, none⟩ = some (.int .i64 F) ∧ w'.cell? ⟨cc, 0, none⟩ = some (.int .i64 C) ∧ Tab w' ∧ w.grownBy w' none)
    (first
      | exact hS0.out
      | assumption
      | (go_split_ands; exact ⟨kc hbx (by assumption), kc hbx (by assumption), kc hbx (by assumption), kc hbx (by assumption), kc hbx (by assumption), tab_gb (by assumption) hbx, gb_trans (by assumption) hbx⟩))
    (first
      | (go_at_call 14; refine (HKy.out _).mono ?_; rintro e w2 ⟨rfl, hbx⟩)
      | (go_at_call 13; refine (HSt.out _ (by go_split_ands; assumption)).mono ?_; rintro e w2 ⟨rfl, hbx⟩)
      | (go_at_call 12; refine (HM.out _ _).mono ?_; rintro e w2 ⟨rfl, rfl⟩))
  go_split_ands
  go_wp2_with fail
  refine (HY.out _ _).mono ?_
  rintro e w5 ⟨rfl, rfl⟩
  exact ⟨rfl, rfl, by assumption⟩
set_option maxRecDepth 100000 in
set_option maxHeartbeats 1000000 in
theorem vs_good65 (sh nm : ByteArray) (F C : Int) (cs cn cq cf cc : Nat) (w : World) (hcs : w.cell? ⟨cs, 0, none⟩ = some (.string sh)) (hcn : w.cell? ⟨cn, 0, none⟩ = some (.string nm)) (hcq : w.cell? ⟨cq, 0, none⟩ = some (.int .u8 (65 : Int))) (hcf : w.cell? ⟨cf, 0, none⟩ = some (.int .i64 F)) (hcc : w.cell? ⟨cc, 0, none⟩ = some (.int .i64 C)) (hs : sh.size ≤ 100) (hn : nm.size ≤ 100) (ht : Tab w) (h : nm.size = 20) (hb : ¬ badS F C) (h8 : sh.size = 8) :
    Calls Tryd.prog 10 #[.pointer (some ⟨cs, 0, none⟩), .pointer (some ⟨cn, 0, none⟩), .pointer (some ⟨cq, 0, none⟩), .pointer (some ⟨cf, 0, none⟩), .pointer (some ⟨cc, 0, none⟩)] w fun e w' => e = .returned (.string (sgB (ky (65 : Int) sh nm) F.toNat C.toNat)) ∧ w.grownBy w' none := by
  have HN := Lib.hid (fun k w => Va.refuse_no k w)
  have HY := Lib.hid (fun k w => Va.refuse_yes k w)
  have z1 : ¬ (65536 : Int) < (sh.size : Int) := by omega
  have z2 : ¬ (65536 : Int) < (nm.size : Int) := by omega
  have d : (nm.size : Int) = 20 := by omega
  have ds : (sh.size : Int) = 8 := by omega
  have HKy := Lib.hid (fun w => streamKey_any (65 : Int) sh nm w hs hn)
  have HSt := Lib.hid (fun w ht => Stream_any (ky (65 : Int) sh nm) F C w (by rw [ky_size]; omega) ht)
  have HT := Lib.hid ht
  have hS0 : Hid ((fun w' => w'.cell? ⟨cq, 0, none⟩ = some (.int .u8 (65 : Int)) ∧ w'.cell? ⟨cs, 0, none⟩ = some (.string sh) ∧ w'.cell? ⟨cn, 0, none⟩ = some (.string nm) ∧ w'.cell? ⟨cf, 0, none⟩ = some (.int .i64 F) ∧ w'.cell? ⟨cc, 0, none⟩ = some (.int .i64 C) ∧ Tab w' ∧ w.grownBy w' none) w.drew) := Lib.hid ⟨hcq, hcs, hcn, hcf, hcc, ht, gb_drew1 _ _⟩
  have HM := Lib.hid (fun x w => must_ok x w)
  have e1 : stE F C = 0 := if_neg hb
  have e2 : stS (ky (65 : Int) sh nm) F C = sgB (ky (65 : Int) sh nm) F.toNat C.toNat := if_neg hb
  rw [e1, e2] at HSt
  obtain ⟨T, hT⟩ : ∃ T, sgB (ky (65 : Int) sh nm) F.toNat C.toNat = T := ⟨_, rfl⟩
  simp only [hT] at HSt ⊢
  obtain ⟨K, hK⟩ : ∃ K, ky (65 : Int) sh nm = K := ⟨_, rfl⟩
  rw [hK] at HSt
  simp only [hK] at HKy
  clear hK hT e1 e2 ht
  go_enter Tryd.func10, Tryd.ntmps10
  go_wp2_with fail
  refine (HN.out _ _).mono ?_
  rintro e w1 ⟨rfl, rfl⟩
  go_wp2_with fail
  refine (HN.out _ _).mono ?_
  rintro e w1 ⟨rfl, rfl⟩
  go_wp2_with fail
  refine (HN.out _ _).mono ?_
  rintro e w1 ⟨rfl, rfl⟩
  go_wp2_with fail
  go_region_held3 (fun w' => w'.cell? ⟨cq, 0, none⟩ = some (.int .u8 (65 : Int)) ∧ w'.cell? ⟨cs, 0, none⟩ = some (.string sh) ∧ w'.cell? ⟨cn, 0, none⟩ = some (.string nm) ∧ w'.cell? ⟨cf, 0, none⟩ = some (.int .i64 F) ∧ w'.cell? ⟨cc, 0, none⟩ = some (.int .i64 C) ∧ Tab w' ∧ w.grownBy w' none)
    (first
      | exact hS0.out
      | assumption
      | (go_split_ands; exact ⟨kc hbx (by assumption), kc hbx (by assumption), kc hbx (by assumption), kc hbx (by assumption), kc hbx (by assumption), tab_gb (by assumption) hbx, gb_trans (by assumption) hbx⟩))
    (first
      | (go_at_call 14; refine (HKy.out _).mono ?_; rintro e w2 ⟨rfl, hbx⟩)
      | (go_at_call 13; refine (HSt.out _ (by go_split_ands; assumption)).mono ?_; rintro e w2 ⟨rfl, hbx⟩)
      | (go_at_call 12; refine (HM.out _ _).mono ?_; rintro e w2 ⟨rfl, rfl⟩))
  go_split_ands
  go_wp2_with fail
  refine (HN.out _ _).mono ?_
  rintro e w5 ⟨rfl, rfl⟩
  go_wp2
  go_ret
  exact ⟨rfl, by assumption⟩
set_option maxRecDepth 100000 in
set_option maxHeartbeats 1000000 in
theorem vs_bad66 (sh nm : ByteArray) (F C : Int) (cs cn cq cf cc : Nat) (w : World) (hcs : w.cell? ⟨cs, 0, none⟩ = some (.string sh)) (hcn : w.cell? ⟨cn, 0, none⟩ = some (.string nm)) (hcq : w.cell? ⟨cq, 0, none⟩ = some (.int .u8 (66 : Int))) (hcf : w.cell? ⟨cf, 0, none⟩ = some (.int .i64 F)) (hcc : w.cell? ⟨cc, 0, none⟩ = some (.int .i64 C)) (hs : sh.size ≤ 100) (hn : nm.size ≤ 100) (ht : Tab w) (h : nm.size = 20) (hb : badS F C) :
    Calls Tryd.prog 10 #[.pointer (some ⟨cs, 0, none⟩), .pointer (some ⟨cn, 0, none⟩), .pointer (some ⟨cq, 0, none⟩), .pointer (some ⟨cf, 0, none⟩), .pointer (some ⟨cc, 0, none⟩)] w fun e w' => e = .panicked [{ v := .iface 23 (.int .i64 7), recovered := false }] ∧ w.grownBy w' none := by
  have HN := Lib.hid (fun k w => Va.refuse_no k w)
  have HY := Lib.hid (fun k w => Va.refuse_yes k w)
  have z1 : ¬ (65536 : Int) < (sh.size : Int) := by omega
  have z2 : ¬ (65536 : Int) < (nm.size : Int) := by omega
  have d : (nm.size : Int) = 20 := by omega
  have HKy := Lib.hid (fun w => streamKey_any (66 : Int) sh nm w hs hn)
  have HSt := Lib.hid (fun w ht => Stream_any (ky (66 : Int) sh nm) F C w (by rw [ky_size]; omega) ht)
  have HT := Lib.hid ht
  have hS0 : Hid ((fun w' => w'.cell? ⟨cq, 0, none⟩ = some (.int .u8 (66 : Int)) ∧ w'.cell? ⟨cs, 0, none⟩ = some (.string sh) ∧ w'.cell? ⟨cn, 0, none⟩ = some (.string nm) ∧ w'.cell? ⟨cf, 0, none⟩ = some (.int .i64 F) ∧ w'.cell? ⟨cc, 0, none⟩ = some (.int .i64 C) ∧ Tab w' ∧ w.grownBy w' none) w.drew) := Lib.hid ⟨hcq, hcs, hcn, hcf, hcc, ht, gb_drew1 _ _⟩
  have HM := Lib.hid (fun x w => must_no x w)
  have e1 : stE F C = 7 := if_pos hb
  rw [e1] at HSt
  obtain ⟨K, hK⟩ : ∃ K, ky (66 : Int) sh nm = K := ⟨_, rfl⟩
  rw [hK] at HSt
  simp only [hK] at HKy
  obtain ⟨T, hT⟩ : ∃ T, stS K F C = T := ⟨_, rfl⟩
  simp only [hT] at HSt
  clear hK hT e1 ht
  go_enter Tryd.func10, Tryd.ntmps10
  go_wp2_with fail
  refine (HN.out _ _).mono ?_
  rintro e w1 ⟨rfl, rfl⟩
  go_wp2_with fail
  refine (HN.out _ _).mono ?_
  rintro e w1 ⟨rfl, rfl⟩
  go_wp2_with fail
  refine (HN.out _ _).mono ?_
  rintro e w1 ⟨rfl, rfl⟩
  go_wp2_with fail
  refine wp_region_held_drew (S := fun w' => w'.cell? ⟨cq, 0, none⟩ = some (.int .u8 (66 : Int)) ∧ w'.cell? ⟨cs, 0, none⟩ = some (.string sh) ∧ w'.cell? ⟨cn, 0, none⟩ = some (.string nm) ∧ w'.cell? ⟨cf, 0, none⟩ = some (.int .i64 F) ∧ w'.cell? ⟨cc, 0, none⟩ = some (.int .i64 C) ∧ Tab w' ∧ w.grownBy w' none) (by kernel_rfl) hS0.out (fun hHeld => ?_)
  refine wpAnyH_take (i := 0) (oi := ⟨some 27, .load 5 (.tmp 2), 5, "veil.go:70", #[], none⟩) (v := .int .u8 (66 : Int)) rfl (by kernel_rfl) (by kernel_rfl) (by kernel_rfl) (fun _ _ _ h => h) ?_ (by assumption) ?_
  · refine Or.inl ⟨by rfl, ?_⟩
    intro w hSw
    try dsimp only at hSw
    go_split_ands
    first | (go_simp; done) | (go_simp; with_reducible rfl)
  try simp only [Act.put, List.setIfInBounds_toArray, List.set_cons_zero, List.set_cons_succ]
  refine wpAnyH_take (i := 1) (oi := ⟨some 28, .load 9 (.tmp 0), 9, "veil.go:70", #[], none⟩) (v := .string sh) rfl (by kernel_rfl) (by kernel_rfl) (by kernel_rfl) (fun _ _ _ h => h) ?_ (by assumption) ?_
  · refine Or.inl ⟨by rfl, ?_⟩
    intro w hSw
    try dsimp only at hSw
    go_split_ands
    first | (go_simp; done) | (go_simp; with_reducible rfl)
  try simp only [Act.put, List.setIfInBounds_toArray, List.set_cons_zero, List.set_cons_succ]
  refine wpAnyH_take (i := 2) (oi := ⟨some 29, .load 9 (.tmp 1), 9, "veil.go:70", #[], none⟩) (v := .string nm) rfl (by kernel_rfl) (by kernel_rfl) (by kernel_rfl) (fun _ _ _ h => h) ?_ (by assumption) ?_
  · refine Or.inl ⟨by rfl, ?_⟩
    intro w hSw
    try dsimp only at hSw
    go_split_ands
    first | (go_simp; done) | (go_simp; with_reducible rfl)
  try simp only [Act.put, List.setIfInBounds_toArray, List.set_cons_zero, List.set_cons_succ]
  refine wpAnyH_take (i := 4) (oi := ⟨some 31, .load 3 (.tmp 3), 3, "veil.go:70", #[], none⟩) (v := .int .i64 F) rfl (by kernel_rfl) (by kernel_rfl) (by kernel_rfl) (fun _ _ _ h => h) ?_ (by assumption) ?_
  · refine Or.inl ⟨by rfl, ?_⟩
    intro w hSw
    try dsimp only at hSw
    go_split_ands
    first | (go_simp; done) | (go_simp; with_reducible rfl)
  try simp only [Act.put, List.setIfInBounds_toArray, List.set_cons_zero, List.set_cons_succ]
  refine wpAnyH_take (i := 5) (oi := ⟨some 32, .load 3 (.tmp 4), 3, "veil.go:70", #[], none⟩) (v := .int .i64 C) rfl (by kernel_rfl) (by kernel_rfl) (by kernel_rfl) (fun _ _ _ h => h) ?_ (by assumption) ?_
  · refine Or.inl ⟨by rfl, ?_⟩
    intro w hSw
    try dsimp only at hSw
    go_split_ands
    first | (go_simp; done) | (go_simp; with_reducible rfl)
  try simp only [Act.put, List.setIfInBounds_toArray, List.set_cons_zero, List.set_cons_succ]
  refine wpAnyH_ready (rs := [3]) (by kernel_rfl) (by simp) ?_
  refine AllReadyH.cons rfl (fun K0 hK0 => ?_) AllReadyH.nil
  go_simp
  refine (HKy.out _).mono ?_
  rintro e w2 ⟨rfl, g2⟩
  refine hK0.out _ _ (by (try dsimp only at hHeld); (try dsimp only); go_split_ands; exact ⟨kc g2 (by assumption), kc g2 (by assumption), kc g2 (by assumption), kc g2 (by assumption), kc g2 (by assumption), tab_gb (by assumption) g2, gb_trans (by assumption) g2⟩) (fun hHeld2 => ?_)
  clear hK0 K0 hHeld g2
  try simp only [Act.put, List.setIfInBounds_toArray, List.set_cons_zero, List.set_cons_succ]
  refine wpAnyH_ready (rs := [6]) (by kernel_rfl) (by simp) ?_
  refine AllReadyH.cons rfl (fun K0 hK0 => ?_) AllReadyH.nil
  go_simp
  refine (HSt.out _ (by (try dsimp only at hHeld2); go_split_ands; assumption)).mono ?_
  rintro e w3 ⟨rfl, g2⟩
  refine hK0.out _ _ (by (try dsimp only at hHeld2); (try dsimp only); go_split_ands; exact ⟨kc g2 (by assumption), kc g2 (by assumption), kc g2 (by assumption), kc g2 (by assumption), kc g2 (by assumption), tab_gb (by assumption) g2, gb_trans (by assumption) g2⟩) (fun hHeld3 => ?_)
  clear hK0 K0 hHeld2 g2
  try simp only [Act.put, List.setIfInBounds_toArray, List.set_cons_zero, List.set_cons_succ]
  refine wpAnyH_take (i := 7) (oi := ⟨some 34, .extract (.tmp 33) 0, 9, "veil.go:70", #[⟨6, .data⟩], none⟩) (v := .string T) rfl (by kernel_rfl) (by kernel_rfl) (by kernel_rfl) (fun _ _ _ h => h) ?_ (by assumption) ?_
  · refine Or.inl ⟨by rfl, ?_⟩
    intro w hSw
    try dsimp only at hSw
    go_split_ands
    first | (go_simp; done) | (go_simp; with_reducible rfl)
  try simp only [Act.put, List.setIfInBounds_toArray, List.set_cons_zero, List.set_cons_succ]
  refine wpAnyH_take (i := 8) (oi := ⟨some 35, .extract (.tmp 33) 1, 23, "veil.go:70", #[⟨6, .data⟩], none⟩) (v := .int .i64 7) rfl (by kernel_rfl) (by kernel_rfl) (by kernel_rfl) (fun _ _ _ h => h) ?_ (by assumption) ?_
  · refine Or.inl ⟨by rfl, ?_⟩
    intro w hSw
    try dsimp only at hSw
    go_split_ands
    first | (go_simp; done) | (go_simp; with_reducible rfl)
  try simp only [Act.put, List.setIfInBounds_toArray, List.set_cons_zero, List.set_cons_succ]
  refine wpAnyH_ready (rs := [9]) (by kernel_rfl) (by simp) ?_
  refine AllReadyH.cons rfl (fun K0 hK0 => ?_) AllReadyH.nil
  go_simp
  refine (HM.out _ _).mono ?_
  rintro e w4 ⟨rfl, rfl⟩
  try dsimp only at hHeld3
  go_split_ands
  exact ⟨rfl, rfl, by assumption⟩
set_option maxRecDepth 100000 in
set_option maxHeartbeats 1000000 in
theorem vs_size66 (sh nm : ByteArray) (F C : Int) (cs cn cq cf cc : Nat) (w : World) (hcs : w.cell? ⟨cs, 0, none⟩ = some (.string sh)) (hcn : w.cell? ⟨cn, 0, none⟩ = some (.string nm)) (hcq : w.cell? ⟨cq, 0, none⟩ = some (.int .u8 (66 : Int))) (hcf : w.cell? ⟨cf, 0, none⟩ = some (.int .i64 F)) (hcc : w.cell? ⟨cc, 0, none⟩ = some (.int .i64 C)) (hs : sh.size ≤ 100) (hn : nm.size ≤ 100) (ht : Tab w) (h : nm.size = 20) (hb : ¬ badS F C) (h8 : sh.size ≠ 8) :
    Calls Tryd.prog 10 #[.pointer (some ⟨cs, 0, none⟩), .pointer (some ⟨cn, 0, none⟩), .pointer (some ⟨cq, 0, none⟩), .pointer (some ⟨cf, 0, none⟩), .pointer (some ⟨cc, 0, none⟩)] w fun e w' => e = .panicked [{ v := .iface 23 (.int .i64 11), recovered := false }] ∧ w.grownBy w' none := by
  have HN := Lib.hid (fun k w => Va.refuse_no k w)
  have HY := Lib.hid (fun k w => Va.refuse_yes k w)
  have z1 : ¬ (65536 : Int) < (sh.size : Int) := by omega
  have z2 : ¬ (65536 : Int) < (nm.size : Int) := by omega
  have d : (nm.size : Int) = 20 := by omega
  have ds : ((sh.size : Int) != 8) = true := by rw [bne_iff_ne]; omega
  have ds2 : ¬ ((sh.size : Int) = 8) := by omega
  have HKy := Lib.hid (fun w => streamKey_any (66 : Int) sh nm w hs hn)
  have HSt := Lib.hid (fun w ht => Stream_any (ky (66 : Int) sh nm) F C w (by rw [ky_size]; omega) ht)
  have HT := Lib.hid ht
  have hS0 : Hid ((fun w' => w'.cell? ⟨cq, 0, none⟩ = some (.int .u8 (66 : Int)) ∧ w'.cell? ⟨cs, 0, none⟩ = some (.string sh) ∧ w'.cell? ⟨cn, 0, none⟩ = some (.string nm) ∧ w'.cell? ⟨cf, 0, none⟩ = some (.int .i64 F) ∧ w'.cell? ⟨cc, 0, none⟩ = some (.int .i64 C) ∧ Tab w' ∧ w.grownBy w' none) w.drew) := Lib.hid ⟨hcq, hcs, hcn, hcf, hcc, ht, gb_drew1 _ _⟩
  have HM := Lib.hid (fun x w => must_ok x w)
  have e1 : stE F C = 0 := if_neg hb
  have e2 : stS (ky (66 : Int) sh nm) F C = sgB (ky (66 : Int) sh nm) F.toNat C.toNat := if_neg hb
  rw [e1, e2] at HSt
  obtain ⟨T, hT⟩ : ∃ T, sgB (ky (66 : Int) sh nm) F.toNat C.toNat = T := ⟨_, rfl⟩
  simp only [hT] at HSt
  obtain ⟨K, hK⟩ : ∃ K, ky (66 : Int) sh nm = K := ⟨_, rfl⟩
  rw [hK] at HSt
  simp only [hK] at HKy
  clear hK hT e1 e2 ht
  go_enter Tryd.func10, Tryd.ntmps10
  go_wp2_with fail
  refine (HN.out _ _).mono ?_
  rintro e w1 ⟨rfl, rfl⟩
  go_wp2_with fail
  refine (HN.out _ _).mono ?_
  rintro e w1 ⟨rfl, rfl⟩
  go_wp2_with fail
  refine (HN.out _ _).mono ?_
  rintro e w1 ⟨rfl, rfl⟩
  go_wp2_with fail
  go_region_held3 (fun w' => w'.cell? ⟨cq, 0, none⟩ = some (.int .u8 (66 : Int)) ∧ w'.cell? ⟨cs, 0, none⟩ = some (.string sh) ∧ w'.cell? ⟨cn, 0, none⟩ = some (.string nm) ∧ w'.cell? ⟨cf, 0, none⟩ = some (.int .i64 F) ∧ w'.cell? ⟨cc, 0, none⟩ = some (.int .i64 C) ∧ Tab w' ∧ w.grownBy w' none)
    (first
      | exact hS0.out
      | assumption
      | (go_split_ands; exact ⟨kc hbx (by assumption), kc hbx (by assumption), kc hbx (by assumption), kc hbx (by assumption), kc hbx (by assumption), tab_gb (by assumption) hbx, gb_trans (by assumption) hbx⟩))
    (first
      | (go_at_call 14; refine (HKy.out _).mono ?_; rintro e w2 ⟨rfl, hbx⟩)
      | (go_at_call 13; refine (HSt.out _ (by go_split_ands; assumption)).mono ?_; rintro e w2 ⟨rfl, hbx⟩)
      | (go_at_call 12; refine (HM.out _ _).mono ?_; rintro e w2 ⟨rfl, rfl⟩))
  go_split_ands
  go_wp2_with fail
  refine (HY.out _ _).mono ?_
  rintro e w5 ⟨rfl, rfl⟩
  exact ⟨rfl, rfl, by assumption⟩
set_option maxRecDepth 100000 in
set_option maxHeartbeats 1000000 in
theorem vs_good66 (sh nm : ByteArray) (F C : Int) (cs cn cq cf cc : Nat) (w : World) (hcs : w.cell? ⟨cs, 0, none⟩ = some (.string sh)) (hcn : w.cell? ⟨cn, 0, none⟩ = some (.string nm)) (hcq : w.cell? ⟨cq, 0, none⟩ = some (.int .u8 (66 : Int))) (hcf : w.cell? ⟨cf, 0, none⟩ = some (.int .i64 F)) (hcc : w.cell? ⟨cc, 0, none⟩ = some (.int .i64 C)) (hs : sh.size ≤ 100) (hn : nm.size ≤ 100) (ht : Tab w) (h : nm.size = 20) (hb : ¬ badS F C) (h8 : sh.size = 8) :
    Calls Tryd.prog 10 #[.pointer (some ⟨cs, 0, none⟩), .pointer (some ⟨cn, 0, none⟩), .pointer (some ⟨cq, 0, none⟩), .pointer (some ⟨cf, 0, none⟩), .pointer (some ⟨cc, 0, none⟩)] w fun e w' => e = .returned (.string (sgB (ky (66 : Int) sh nm) F.toNat C.toNat)) ∧ w.grownBy w' none := by
  have HN := Lib.hid (fun k w => Va.refuse_no k w)
  have HY := Lib.hid (fun k w => Va.refuse_yes k w)
  have z1 : ¬ (65536 : Int) < (sh.size : Int) := by omega
  have z2 : ¬ (65536 : Int) < (nm.size : Int) := by omega
  have d : (nm.size : Int) = 20 := by omega
  have ds : (sh.size : Int) = 8 := by omega
  have HKy := Lib.hid (fun w => streamKey_any (66 : Int) sh nm w hs hn)
  have HSt := Lib.hid (fun w ht => Stream_any (ky (66 : Int) sh nm) F C w (by rw [ky_size]; omega) ht)
  have HT := Lib.hid ht
  have hS0 : Hid ((fun w' => w'.cell? ⟨cq, 0, none⟩ = some (.int .u8 (66 : Int)) ∧ w'.cell? ⟨cs, 0, none⟩ = some (.string sh) ∧ w'.cell? ⟨cn, 0, none⟩ = some (.string nm) ∧ w'.cell? ⟨cf, 0, none⟩ = some (.int .i64 F) ∧ w'.cell? ⟨cc, 0, none⟩ = some (.int .i64 C) ∧ Tab w' ∧ w.grownBy w' none) w.drew) := Lib.hid ⟨hcq, hcs, hcn, hcf, hcc, ht, gb_drew1 _ _⟩
  have HM := Lib.hid (fun x w => must_ok x w)
  have e1 : stE F C = 0 := if_neg hb
  have e2 : stS (ky (66 : Int) sh nm) F C = sgB (ky (66 : Int) sh nm) F.toNat C.toNat := if_neg hb
  rw [e1, e2] at HSt
  obtain ⟨T, hT⟩ : ∃ T, sgB (ky (66 : Int) sh nm) F.toNat C.toNat = T := ⟨_, rfl⟩
  simp only [hT] at HSt ⊢
  obtain ⟨K, hK⟩ : ∃ K, ky (66 : Int) sh nm = K := ⟨_, rfl⟩
  rw [hK] at HSt
  simp only [hK] at HKy
  clear hK hT e1 e2 ht
  go_enter Tryd.func10, Tryd.ntmps10
  go_wp2_with fail
  refine (HN.out _ _).mono ?_
  rintro e w1 ⟨rfl, rfl⟩
  go_wp2_with fail
  refine (HN.out _ _).mono ?_
  rintro e w1 ⟨rfl, rfl⟩
  go_wp2_with fail
  refine (HN.out _ _).mono ?_
  rintro e w1 ⟨rfl, rfl⟩
  go_wp2_with fail
  go_region_held3 (fun w' => w'.cell? ⟨cq, 0, none⟩ = some (.int .u8 (66 : Int)) ∧ w'.cell? ⟨cs, 0, none⟩ = some (.string sh) ∧ w'.cell? ⟨cn, 0, none⟩ = some (.string nm) ∧ w'.cell? ⟨cf, 0, none⟩ = some (.int .i64 F) ∧ w'.cell? ⟨cc, 0, none⟩ = some (.int .i64 C) ∧ Tab w' ∧ w.grownBy w' none)
    (first
      | exact hS0.out
      | assumption
      | (go_split_ands; exact ⟨kc hbx (by assumption), kc hbx (by assumption), kc hbx (by assumption), kc hbx (by assumption), kc hbx (by assumption), tab_gb (by assumption) hbx, gb_trans (by assumption) hbx⟩))
    (first
      | (go_at_call 14; refine (HKy.out _).mono ?_; rintro e w2 ⟨rfl, hbx⟩)
      | (go_at_call 13; refine (HSt.out _ (by go_split_ands; assumption)).mono ?_; rintro e w2 ⟨rfl, hbx⟩)
      | (go_at_call 12; refine (HM.out _ _).mono ?_; rintro e w2 ⟨rfl, rfl⟩))
  go_split_ands
  go_wp2_with fail
  refine (HN.out _ _).mono ?_
  rintro e w5 ⟨rfl, rfl⟩
  go_wp2
  go_ret
  exact ⟨rfl, by assumption⟩

theorem enterV (args : Array Value) (w : World) : (callFunc 10 args).run Tryd.prog w = .ok (.enter 10 args) w := by kernel_rfl
/-- the five boxes of Stream -/
def wb5 (q : Int) (sh nm : ByteArray) (F C : Int) (w : World) : World := ((((w.alloc (.cells #[.int .u8 q] 5)).alloc (.cells #[.string sh] 9)).alloc (.cells #[.string nm] 9)).alloc (.cells #[.int .i64 F] 3)).alloc (.cells #[.int .i64 C] 3)
theorem cell_next (w : World) (v : Value) (t : TypeId) (n : Nat) (h : w.heap.size = n) : (w.alloc (.cells #[v] t)).cell? ⟨n, 0, none⟩ = some v := by
  subst h
  exact cell_one_new w v t 0 _ rfl
theorem gb5 (q : Int) (sh nm : ByteArray) (F C : Int) (w : World) : w.grownBy (wb5 q sh nm F C w) none := by
  unfold wb5
  exact gb_trans (gb_trans (gb_trans (gb_trans (gb_alloc _ _ _) (gb_alloc _ _ _)) (gb_alloc _ _ _)) (gb_alloc _ _ _)) (gb_alloc _ _ _)
theorem cells5 (q : Int) (sh nm : ByteArray) (F C : Int) (w : World) (n : Nat) (hn : w.heap.size = n) :
    (wb5 q sh nm F C w).cell? ⟨n, 0, none⟩ = some (.int .u8 q) ∧ (wb5 q sh nm F C w).cell? ⟨n + 1, 0, none⟩ = some (.string sh) ∧ (wb5 q sh nm F C w).cell? ⟨n + 1 + 1, 0, none⟩ = some (.string nm) ∧ (wb5 q sh nm F C w).cell? ⟨n + 1 + 1 + 1, 0, none⟩ = some (.int .i64 F) ∧ (wb5 q sh nm F C w).cell? ⟨n + 1 + 1 + 1 + 1, 0, none⟩ = some (.int .i64 C) := by
  unfold wb5
  refine ⟨?_, ?_, ?_, ?_, ?_⟩
  · exact kc (gb_trans (gb_trans (gb_trans (gb_alloc _ _ _) (gb_alloc _ _ _)) (gb_alloc _ _ _)) (gb_alloc _ _ _)) (cell_next _ _ _ _ hn)
  · exact kc (gb_trans (gb_trans (gb_alloc _ _ _) (gb_alloc _ _ _)) (gb_alloc _ _ _)) (cell_next _ _ _ _ (by simp [hn]))
  · exact kc (gb_trans (gb_alloc _ _ _) (gb_alloc _ _ _)) (cell_next _ _ _ _ (by simp [hn]))
  · exact kc (gb_alloc _ _ _) (cell_next _ _ _ _ (by simp [hn]))
  · exact cell_next _ _ _ _ (by simp [hn])
theorem VStream_inner (q : Int) (sh nm : ByteArray) (F C : Int) (w : World) (hs : sh.size ≤ 100) (hn : nm.size ≤ 100) (ht : Tab w) :
    Calls Tryd.prog 9 #[.func (Fn.func 10) #[] #[.pointer (some ⟨w.heap.size + 1, 0, none⟩), .pointer (some ⟨w.heap.size + 1 + 1, 0, none⟩), .pointer (some ⟨w.heap.size, 0, none⟩), .pointer (some ⟨w.heap.size + 1 + 1 + 1, 0, none⟩), .pointer (some ⟨w.heap.size + 1 + 1 + 1 + 1, 0, none⟩)]] (wb5 q sh nm F C w) fun e w' => e = .returned (.tuple #[.string (vS q sh nm F C), .int .i64 (vE q sh nm F C)]) ∧ w.grownBy w' none := by
  have hg5 := gb5 q sh nm F C w
  obtain ⟨a0, a1, a2, a3, a4⟩ := cells5 q sh nm F C w _ rfl
  generalize wb5 q sh nm F C w = W at *
  have hta : Tab (Va.aw W) := tab_gb ht (gb_trans hg5 (Va.aw_gb W))
  have c0 := kc (Va.aw_gb W) a0
  have c1 := kc (Va.aw_gb W) a1
  have c2 := kc (Va.aw_gb W) a2
  have c3 := kc (Va.aw_gb W) a3
  have c4 := kc (Va.aw_gb W) a4
  have NO : ∀ k : Int, vE q sh nm F C = k → vS q sh nm F C = ⟨#[]⟩ → Calls Tryd.prog 10 #[.pointer (some ⟨w.heap.size + 1, 0, none⟩), .pointer (some ⟨w.heap.size + 1 + 1, 0, none⟩), .pointer (some ⟨w.heap.size, 0, none⟩), .pointer (some ⟨w.heap.size + 1 + 1 + 1, 0, none⟩), .pointer (some ⟨w.heap.size + 1 + 1 + 1 + 1, 0, none⟩)] (Va.aw W) (fun e w' => e = .panicked [{ v := .iface 23 (.int .i64 k), recovered := false }] ∧ (Va.aw W).grownBy w' none) → Calls Tryd.prog 9 #[.func (Fn.func 10) #[] #[.pointer (some ⟨w.heap.size + 1, 0, none⟩), .pointer (some ⟨w.heap.size + 1 + 1, 0, none⟩), .pointer (some ⟨w.heap.size, 0, none⟩), .pointer (some ⟨w.heap.size + 1 + 1 + 1, 0, none⟩), .pointer (some ⟨w.heap.size + 1 + 1 + 1 + 1, 0, none⟩)]] W fun e w' => e = .returned (.tuple #[.string (vS q sh nm F C), .int .i64 (vE q sh nm F C)]) ∧ w.grownBy w' none := by
    intro k e1 e2 H
    rw [e1, e2]
    exact (Va.att_no _ _ k W none (fun _ => True) (sta_true _) (by simp) enterV (H.mono fun e w' h => ⟨h.1, trivial, h.2⟩)).mono fun e w' h => ⟨h.1, gb_trans hg5 h.2.2⟩
  by_cases h : nm.size = 20
  · by_cases h2 : q ≠ 65 ∧ q ≠ 66
    · obtain ⟨e1, e2⟩ := v_seven (sh := sh) (F := F) (C := C) h (.inl h2)
      exact NO 7 e1 e2 (vs_who q sh nm F C _ _ _ _ _ _ c1 c2 c0 c3 c4 hs hn h h2.1 h2.2)
    · by_cases h3 : badS F C
      · obtain ⟨e1, e2⟩ := v_seven (q := q) (sh := sh) h (.inr h3)
        refine NO 7 e1 e2 ?_
        have hq : q = 65 ∨ q = 66 := by omega
        rcases hq with rfl | rfl
        · exact vs_bad65 sh nm F C _ _ _ _ _ _ c1 c2 c0 c3 c4 hs hn hta h h3
        · exact vs_bad66 sh nm F C _ _ _ _ _ _ c1 c2 c0 c3 c4 hs hn hta h h3
      · by_cases h4 : sh.size = 8
        · obtain ⟨e1, e2⟩ := v_zero h (fun h => h.elim h2 h3) h4
          rw [e1, e2]
          have H : Calls Tryd.prog 10 #[.pointer (some ⟨w.heap.size + 1, 0, none⟩), .pointer (some ⟨w.heap.size + 1 + 1, 0, none⟩), .pointer (some ⟨w.heap.size, 0, none⟩), .pointer (some ⟨w.heap.size + 1 + 1 + 1, 0, none⟩), .pointer (some ⟨w.heap.size + 1 + 1 + 1 + 1, 0, none⟩)] (Va.aw W) fun e w' => e = .returned (.string (sgB (ky q sh nm) F.toNat C.toNat)) ∧ (Va.aw W).grownBy w' none := by
            have hq : q = 65 ∨ q = 66 := by omega
            rcases hq with rfl | rfl
            · exact vs_good65 sh nm F C _ _ _ _ _ _ c1 c2 c0 c3 c4 hs hn hta h h3 h4
            · exact vs_good66 sh nm F C _ _ _ _ _ _ c1 c2 c0 c3 c4 hs hn hta h h3 h4
          exact (Va.att_ok _ _ _ W none (fun _ => True) (sta_true _) (by simp) enterV (H.mono fun e w' h => ⟨h.1, trivial, h.2⟩)).mono fun e w' h => ⟨h.1, gb_trans hg5 h.2.2⟩
        · obtain ⟨e1, e2⟩ := v_eleven h (fun h => h.elim h2 h3) h4
          refine NO 11 e1 e2 ?_
          have hq : q = 65 ∨ q = 66 := by omega
          rcases hq with rfl | rfl
          · exact vs_size65 sh nm F C _ _ _ _ _ _ c1 c2 c0 c3 c4 hs hn hta h h3 h4
          · exact vs_size66 sh nm F C _ _ _ _ _ _ c1 c2 c0 c3 c4 hs hn hta h h3 h4
  · obtain ⟨e1, e2⟩ := v_one (q := q) (sh := sh) (F := F) (C := C) h
    exact NO 1 e1 e2 (vs_one q sh nm F C _ _ _ _ _ _ c1 c2 c0 c3 c4 hs hn h)
set_option maxRecDepth 100000 in
set_option maxHeartbeats 1000000 in
theorem VStream_any (q : Int) (sh nm : ByteArray) (F C : Int) (w : World) (hs : sh.size ≤ 100) (hn : nm.size ≤ 100) (ht : Tab w) :
    Calls Tryd.prog 5 #[.int .u8 q, .string sh, .string nm, .int .i64 F, .int .i64 C] w fun e w' => e = .returned (.tuple #[.string (vS q sh nm F C), .int .i64 (vE q sh nm F C)]) ∧ w.grownBy w' none := by
  have hmf : ∀ (fn : Fn) (first cap : Array Value) (w : World), (Instr.makeFunc fn first cap).run Tryd.prog w = .ok (.func fn first cap) w := fun _ _ _ _ => rfl
  have H := Lib.hid (VStream_inner q sh nm F C w hs hn ht)
  unfold wb5 at H
  obtain ⟨x, hx⟩ : ∃ x, vS q sh nm F C = x := ⟨_, rfl⟩
  obtain ⟨y, hy⟩ : ∃ y, vE q sh nm F C = y := ⟨_, rfl⟩
  rw [hx, hy] at H ⊢
  clear hx hy ht
  go_enter Tryd.func5, Tryd.ntmps5
  go_wp2_with fail
  refine H.out.mono ?_
  rintro e w1 ⟨rfl, hg⟩
  go_wp2
  go_ret2
  exact ⟨rfl, hg⟩
end Go.Proofs.YtojgigoknjenoaaDoor.Vb
