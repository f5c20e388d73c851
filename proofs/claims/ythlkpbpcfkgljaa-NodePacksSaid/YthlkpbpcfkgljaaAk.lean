/-
  Addresses: the closure of the program's Unpack. (made by mk_ak.py)
-/
import Derived.Test.YthlkpbpcfkgljaaAj
import Derived.LoopN
import Derived.Deep.RegionWith
import Derived.Laws.Rows
set_option linter.unusedVariables false
namespace Go.Proofs.Ythlkpbpcfkgljaa.Ac
open Go Go.RowKit Go.Proofs.Ythlkpbpcfkgljaa.Hz Go.Proofs.Ythlkpbpcfkgljaa.Sx

theorem set3 (w : World) (b : Nat) (A B C v0 v1 v2 : Value) (t : TypeId) (h : w.heap[b]? = some (.cells #[A, B, C] t)) : (((w.setCell ⟨b, 0, none⟩ v0).setCell ⟨b, 1, none⟩ v1).setCell ⟨b, 2, none⟩ v2).heap[b]? = some (.cells #[v0, v1, v2] t) := by
  have h1 := heap_setCell_same w b 0 _ t v0 h
  have h2 := heap_setCell_same _ b 1 _ t v1 h1
  have h3 := heap_setCell_same _ b 2 _ t v2 h2
  simpa using h3

set_option maxRecDepth 100000 in
set_option maxHeartbeats 2000000 in
theorem Unp_6ok (s : ByteArray) (c : Nat) (w : World) (k0 : w.cell? ⟨c, 0, none⟩ = some (.string s)) (hcl : c < w.heap.size) (hz : s.size = 6) (hp : prt s 4 ≠ 0) : Calls Try.prog 35 #[.pointer (some ⟨c, 0, none⟩)] w fun e w' => e = .returned (.agg #[.int .i64 4, .string (s.extract 0 4), .int .i64 (prt s 4)]) ∧ Below w.heap.size w w' := by
  have HL := Lib.hid (fun w => askLong_ok s w (by omega))
  have HU := Lib.hid (fun w => unpack_ok s 4 4 (by omega) (by omega) w hp)
  clear hp
  have m4 := meth4
  have m6 := meth6
  obtain ⟨w1, hw1⟩ : ∃ w1, w.alloc (.cells #[.int .i64 0, .string ⟨#[]⟩, .int .i64 0] 34) = w1 := ⟨_, rfl⟩
  have hs1 : w1.heap.size = w.heap.size + 1 := by rw [← hw1]; simp
  have hB1 : Below w.heap.size w w1 := by rw [← hw1]; exact (Below.refl _ _).alloc (Nat.le_refl _) _
  have kr1 : w1.heap[w.heap.size]? = some (.cells #[.int .i64 0, .string ⟨#[]⟩, .int .i64 0] 34) := by rw [← hw1]; exact World.alloc_heap_new _ _
  obtain ⟨w2, hw2⟩ : ∃ w2, w1.alloc (.cells #[.int .i64 4, .int .i64 6] 3) = w2 := ⟨_, rfl⟩
  have hs2 : w2.heap.size = w.heap.size + 2 := by rw [← hw2]; simp [hs1]
  have hB2 : Below w.heap.size w w2 := by rw [← hw2]; exact blw_alloc hB1
  have kr2 : w2.heap[w.heap.size]? = some (.cells #[.int .i64 0, .string ⟨#[]⟩, .int .i64 0] 34) := by rw [← hw2]; exact (Below.heap_alloc _ _ _ (by omega)).trans kr1
  have ks1 : w1.cell? ⟨c, 0, none⟩ = some (.string s) := by rw [← hw1]; exact acell _ k0
  have ks2 : w2.cell? ⟨c, 0, none⟩ = some (.string s) := by rw [← hw2]; exact acell _ ks1
  have ka2 : w2.cell? ⟨w.heap.size + 1, 0, none⟩ = some (.int .i64 4) := by rw [← hw2, ← hs1]; simp [go_sem]
  have kb2 : w2.cell? ⟨w.heap.size + 1, 1, none⟩ = some (.int .i64 6) := by rw [← hw2, ← hs1]; simp [go_sem]
  have HW1 := Lib.hid hw1
  have HW2 := Lib.hid hw2
  have kq := acell (.cells #[.int .i64 0, .string ⟨#[]⟩, .int .i64 0] 34) k0
  clear hw1 hw2 k0
  go_enter Try.func35, Try.ntmps35
  go_wp2_with fail
  rw [HW1.out]
  refine (HL.out _).mono ?_
  rintro e wz ⟨rfl, rfl⟩
  go_wp2_with fail
  rw [HW2.out]
  refine wp_loop_rounds 3 ?_
  rw [rounds_succ]
  go_wp2_with fail
  refine (askFam_4 _).mono ?_
  rintro e wz ⟨rfl, rfl⟩
  go_wp2_with fail
  go_region_with (go_at_call 81; refine (size4 _ _ rfl).mono ?_; rintro e w3 ⟨rfl, hbx⟩; have ks3 : w3.cell? ⟨c, 0, none⟩ = some (.string s) := kcell hbx ks2; have ka3 : w3.cell? ⟨w.heap.size + 1, 0, none⟩ = some (.int .i64 4) := kcell hbx ka2; have kb3 : w3.cell? ⟨w.heap.size + 1, 1, none⟩ = some (.int .i64 6) := kcell hbx kb2; have kr3 : w3.heap[w.heap.size]? = some (.cells #[.int .i64 0, .string ⟨#[]⟩, .int .i64 0] 34) := (hbx.block _ (by have := hB2.size; have := hs2; simp; omega)).trans kr2; have hB3 : Below w.heap.size w w3 := blw hB2.drew hbx; have hs3 : w.heap.size + 2 ≤ w3.heap.size := by have := hbx.size; have := hs2; simp at *; omega)
  all_goals
    go_wp2_with fail
    refine (HU.out _).mono ?_
    rintro e w4 ⟨rfl, hb4⟩
    have kr4 := (hb4.block w.heap.size (by omega)).trans kr3
    have hB4 := blw hB3 hb4
    have c00 : w4.cell? ⟨w.heap.size, 0, none⟩ = some (.int .i64 0) := by simp [World.cell?, kr4]
    have f00 : w4.frozen? ⟨w.heap.size, 0, none⟩ = false := by simp [World.frozen?, kr4]
    have c01 : w4.cell? ⟨w.heap.size, 1, none⟩ = some (.string ⟨#[]⟩) := by simp [World.cell?, kr4]
    have f01 : w4.frozen? ⟨w.heap.size, 1, none⟩ = false := by simp [World.frozen?, kr4]
    have c02 : w4.cell? ⟨w.heap.size, 2, none⟩ = some (.int .i64 0) := by simp [World.cell?, kr4]
    have f02 : w4.frozen? ⟨w.heap.size, 2, none⟩ = false := by simp [World.frozen?, kr4]
    go_wp2
    exact bodyPost_ret (results_cell_row rfl _ _ w.heap.size 34 _ _ _ rfl (set3 _ _ _ _ _ _ _ _ _ kr4) Try.underlying34 rfl (by kernel_rfl)) rfl ⟨rfl, below_gb (gb_new (gb_new (gb_new (gb_below hB4 none) _ _ _ (by omega)) _ _ _ (by omega)) _ _ _ (by omega))⟩

set_option maxRecDepth 100000 in
set_option maxHeartbeats 2000000 in
theorem Unp_6no (s : ByteArray) (c : Nat) (w : World) (k0 : w.cell? ⟨c, 0, none⟩ = some (.string s)) (hcl : c < w.heap.size) (hz : s.size = 6) (hp : prt s 4 = 0) : Calls Try.prog 35 #[.pointer (some ⟨c, 0, none⟩)] w fun e w' => e = .panicked [{ v := .iface 24 (.int .i64 12), recovered := false }] ∧ Below w.heap.size w w' := by
  have HL := Lib.hid (fun w => askLong_ok s w (by omega))
  have HU := Lib.hid (fun w => unpack_no s 4 4 (by omega) (by omega) w hp)
  clear hp
  have m4 := meth4
  have m6 := meth6
  obtain ⟨w1, hw1⟩ : ∃ w1, w.alloc (.cells #[.int .i64 0, .string ⟨#[]⟩, .int .i64 0] 34) = w1 := ⟨_, rfl⟩
  have hs1 : w1.heap.size = w.heap.size + 1 := by rw [← hw1]; simp
  have hB1 : Below w.heap.size w w1 := by rw [← hw1]; exact (Below.refl _ _).alloc (Nat.le_refl _) _
  have kr1 : w1.heap[w.heap.size]? = some (.cells #[.int .i64 0, .string ⟨#[]⟩, .int .i64 0] 34) := by rw [← hw1]; exact World.alloc_heap_new _ _
  obtain ⟨w2, hw2⟩ : ∃ w2, w1.alloc (.cells #[.int .i64 4, .int .i64 6] 3) = w2 := ⟨_, rfl⟩
  have hs2 : w2.heap.size = w.heap.size + 2 := by rw [← hw2]; simp [hs1]
  have hB2 : Below w.heap.size w w2 := by rw [← hw2]; exact blw_alloc hB1
  have kr2 : w2.heap[w.heap.size]? = some (.cells #[.int .i64 0, .string ⟨#[]⟩, .int .i64 0] 34) := by rw [← hw2]; exact (Below.heap_alloc _ _ _ (by omega)).trans kr1
  have ks1 : w1.cell? ⟨c, 0, none⟩ = some (.string s) := by rw [← hw1]; exact acell _ k0
  have ks2 : w2.cell? ⟨c, 0, none⟩ = some (.string s) := by rw [← hw2]; exact acell _ ks1
  have ka2 : w2.cell? ⟨w.heap.size + 1, 0, none⟩ = some (.int .i64 4) := by rw [← hw2, ← hs1]; simp [go_sem]
  have kb2 : w2.cell? ⟨w.heap.size + 1, 1, none⟩ = some (.int .i64 6) := by rw [← hw2, ← hs1]; simp [go_sem]
  have HW1 := Lib.hid hw1
  have HW2 := Lib.hid hw2
  have kq := acell (.cells #[.int .i64 0, .string ⟨#[]⟩, .int .i64 0] 34) k0
  clear hw1 hw2 k0
  go_enter Try.func35, Try.ntmps35
  go_wp2_with fail
  rw [HW1.out]
  refine (HL.out _).mono ?_
  rintro e wz ⟨rfl, rfl⟩
  go_wp2_with fail
  rw [HW2.out]
  refine wp_loop_rounds 3 ?_
  rw [rounds_succ]
  go_wp2_with fail
  refine (askFam_4 _).mono ?_
  rintro e wz ⟨rfl, rfl⟩
  go_wp2_with fail
  go_region_with (go_at_call 81; refine (size4 _ _ rfl).mono ?_; rintro e w3 ⟨rfl, hbx⟩; have ks3 : w3.cell? ⟨c, 0, none⟩ = some (.string s) := kcell hbx ks2; have ka3 : w3.cell? ⟨w.heap.size + 1, 0, none⟩ = some (.int .i64 4) := kcell hbx ka2; have kb3 : w3.cell? ⟨w.heap.size + 1, 1, none⟩ = some (.int .i64 6) := kcell hbx kb2; have kr3 : w3.heap[w.heap.size]? = some (.cells #[.int .i64 0, .string ⟨#[]⟩, .int .i64 0] 34) := (hbx.block _ (by have := hB2.size; have := hs2; simp; omega)).trans kr2; have hB3 : Below w.heap.size w w3 := blw hB2.drew hbx; have hs3 : w.heap.size + 2 ≤ w3.heap.size := by have := hbx.size; have := hs2; simp at *; omega)
  all_goals
    go_wp2_with fail
    refine (HU.out _).mono ?_
    rintro e w4 ⟨rfl, hb4⟩
    exact ⟨rfl, rfl, blw hB3 hb4⟩

set_option maxRecDepth 100000 in
set_option maxHeartbeats 2000000 in
theorem Unp_18ok (s : ByteArray) (c : Nat) (w : World) (k0 : w.cell? ⟨c, 0, none⟩ = some (.string s)) (hcl : c < w.heap.size) (hz : s.size = 18) (hp : prt s 16 ≠ 0) : Calls Try.prog 35 #[.pointer (some ⟨c, 0, none⟩)] w fun e w' => e = .returned (.agg #[.int .i64 6, .string (s.extract 0 16), .int .i64 (prt s 16)]) ∧ Below w.heap.size w w' := by
  have HL := Lib.hid (fun w => askLong_ok s w (by omega))
  have HU := Lib.hid (fun w => unpack_ok s 6 16 (by omega) (by omega) w hp)
  clear hp
  have m4 := meth4
  have m6 := meth6
  obtain ⟨w1, hw1⟩ : ∃ w1, w.alloc (.cells #[.int .i64 0, .string ⟨#[]⟩, .int .i64 0] 34) = w1 := ⟨_, rfl⟩
  have hs1 : w1.heap.size = w.heap.size + 1 := by rw [← hw1]; simp
  have hB1 : Below w.heap.size w w1 := by rw [← hw1]; exact (Below.refl _ _).alloc (Nat.le_refl _) _
  have kr1 : w1.heap[w.heap.size]? = some (.cells #[.int .i64 0, .string ⟨#[]⟩, .int .i64 0] 34) := by rw [← hw1]; exact World.alloc_heap_new _ _
  obtain ⟨w2, hw2⟩ : ∃ w2, w1.alloc (.cells #[.int .i64 4, .int .i64 6] 3) = w2 := ⟨_, rfl⟩
  have hs2 : w2.heap.size = w.heap.size + 2 := by rw [← hw2]; simp [hs1]
  have hB2 : Below w.heap.size w w2 := by rw [← hw2]; exact blw_alloc hB1
  have kr2 : w2.heap[w.heap.size]? = some (.cells #[.int .i64 0, .string ⟨#[]⟩, .int .i64 0] 34) := by rw [← hw2]; exact (Below.heap_alloc _ _ _ (by omega)).trans kr1
  have ks1 : w1.cell? ⟨c, 0, none⟩ = some (.string s) := by rw [← hw1]; exact acell _ k0
  have ks2 : w2.cell? ⟨c, 0, none⟩ = some (.string s) := by rw [← hw2]; exact acell _ ks1
  have ka2 : w2.cell? ⟨w.heap.size + 1, 0, none⟩ = some (.int .i64 4) := by rw [← hw2, ← hs1]; simp [go_sem]
  have kb2 : w2.cell? ⟨w.heap.size + 1, 1, none⟩ = some (.int .i64 6) := by rw [← hw2, ← hs1]; simp [go_sem]
  have HW1 := Lib.hid hw1
  have HW2 := Lib.hid hw2
  have kq := acell (.cells #[.int .i64 0, .string ⟨#[]⟩, .int .i64 0] 34) k0
  clear hw1 hw2 k0
  go_enter Try.func35, Try.ntmps35
  go_wp2_with fail
  rw [HW1.out]
  refine (HL.out _).mono ?_
  rintro e wz ⟨rfl, rfl⟩
  go_wp2_with fail
  rw [HW2.out]
  refine wp_loop_rounds 3 ?_
  rw [rounds_succ]
  go_wp2_with fail
  refine (askFam_4 _).mono ?_
  rintro e wz ⟨rfl, rfl⟩
  go_wp2_with fail
  go_region_with (go_at_call 81; refine (size4 _ _ rfl).mono ?_; rintro e w3 ⟨rfl, hbx⟩; have ks3 : w3.cell? ⟨c, 0, none⟩ = some (.string s) := kcell hbx ks2; have ka3 : w3.cell? ⟨w.heap.size + 1, 0, none⟩ = some (.int .i64 4) := kcell hbx ka2; have kb3 : w3.cell? ⟨w.heap.size + 1, 1, none⟩ = some (.int .i64 6) := kcell hbx kb2; have kr3 : w3.heap[w.heap.size]? = some (.cells #[.int .i64 0, .string ⟨#[]⟩, .int .i64 0] 34) := (hbx.block _ (by have := hB2.size; have := hs2; simp; omega)).trans kr2; have hB3 : Below w.heap.size w w3 := blw hB2.drew hbx; have hs3 : w.heap.size + 2 ≤ w3.heap.size := by have := hbx.size; have := hs2; simp at *; omega)
  all_goals
    go_wp2_with fail
    rw [rounds_succ]
    go_wp2_with fail
    refine (askFam_6 _).mono ?_
    rintro e wz ⟨rfl, rfl⟩
    go_wp2_with fail
    go_region_with (go_at_call 87; refine (size6 _ _ rfl).mono ?_; rintro e w5 ⟨rfl, hbx⟩; have ks5 : w5.cell? ⟨c, 0, none⟩ = some (.string s) := kcell hbx ks3; have ka5 : w5.cell? ⟨w.heap.size + 1, 0, none⟩ = some (.int .i64 4) := kcell hbx ka3; have kb5 : w5.cell? ⟨w.heap.size + 1, 1, none⟩ = some (.int .i64 6) := kcell hbx kb3; have kr5 : w5.heap[w.heap.size]? = some (.cells #[.int .i64 0, .string ⟨#[]⟩, .int .i64 0] 34) := (hbx.block _ (by have := hB3.size; have := hs3; simp; omega)).trans kr3; have hB5 : Below w.heap.size w w5 := blw hB3.drew hbx; have hs5 : w.heap.size + 2 ≤ w5.heap.size := by have := hbx.size; have := hs3; simp at *; omega)
    all_goals
      go_wp2_with fail
      refine (HU.out _).mono ?_
      rintro e w4 ⟨rfl, hb4⟩
      have kr4 := (hb4.block w.heap.size (by omega)).trans kr5
      have hB4 := blw hB5 hb4
      have c00 : w4.cell? ⟨w.heap.size, 0, none⟩ = some (.int .i64 0) := by simp [World.cell?, kr4]
      have f00 : w4.frozen? ⟨w.heap.size, 0, none⟩ = false := by simp [World.frozen?, kr4]
      have c01 : w4.cell? ⟨w.heap.size, 1, none⟩ = some (.string ⟨#[]⟩) := by simp [World.cell?, kr4]
      have f01 : w4.frozen? ⟨w.heap.size, 1, none⟩ = false := by simp [World.frozen?, kr4]
      have c02 : w4.cell? ⟨w.heap.size, 2, none⟩ = some (.int .i64 0) := by simp [World.cell?, kr4]
      have f02 : w4.frozen? ⟨w.heap.size, 2, none⟩ = false := by simp [World.frozen?, kr4]
      go_wp2
      exact bodyPost_ret (results_cell_row rfl _ _ w.heap.size 34 _ _ _ rfl (set3 _ _ _ _ _ _ _ _ _ kr4) Try.underlying34 rfl (by kernel_rfl)) rfl ⟨rfl, below_gb (gb_new (gb_new (gb_new (gb_below hB4 none) _ _ _ (by omega)) _ _ _ (by omega)) _ _ _ (by omega))⟩

set_option maxRecDepth 100000 in
set_option maxHeartbeats 2000000 in
theorem Unp_18no (s : ByteArray) (c : Nat) (w : World) (k0 : w.cell? ⟨c, 0, none⟩ = some (.string s)) (hcl : c < w.heap.size) (hz : s.size = 18) (hp : prt s 16 = 0) : Calls Try.prog 35 #[.pointer (some ⟨c, 0, none⟩)] w fun e w' => e = .panicked [{ v := .iface 24 (.int .i64 12), recovered := false }] ∧ Below w.heap.size w w' := by
  have HL := Lib.hid (fun w => askLong_ok s w (by omega))
  have HU := Lib.hid (fun w => unpack_no s 6 16 (by omega) (by omega) w hp)
  clear hp
  have m4 := meth4
  have m6 := meth6
  obtain ⟨w1, hw1⟩ : ∃ w1, w.alloc (.cells #[.int .i64 0, .string ⟨#[]⟩, .int .i64 0] 34) = w1 := ⟨_, rfl⟩
  have hs1 : w1.heap.size = w.heap.size + 1 := by rw [← hw1]; simp
  have hB1 : Below w.heap.size w w1 := by rw [← hw1]; exact (Below.refl _ _).alloc (Nat.le_refl _) _
  have kr1 : w1.heap[w.heap.size]? = some (.cells #[.int .i64 0, .string ⟨#[]⟩, .int .i64 0] 34) := by rw [← hw1]; exact World.alloc_heap_new _ _
  obtain ⟨w2, hw2⟩ : ∃ w2, w1.alloc (.cells #[.int .i64 4, .int .i64 6] 3) = w2 := ⟨_, rfl⟩
  have hs2 : w2.heap.size = w.heap.size + 2 := by rw [← hw2]; simp [hs1]
  have hB2 : Below w.heap.size w w2 := by rw [← hw2]; exact blw_alloc hB1
  have kr2 : w2.heap[w.heap.size]? = some (.cells #[.int .i64 0, .string ⟨#[]⟩, .int .i64 0] 34) := by rw [← hw2]; exact (Below.heap_alloc _ _ _ (by omega)).trans kr1
  have ks1 : w1.cell? ⟨c, 0, none⟩ = some (.string s) := by rw [← hw1]; exact acell _ k0
  have ks2 : w2.cell? ⟨c, 0, none⟩ = some (.string s) := by rw [← hw2]; exact acell _ ks1
  have ka2 : w2.cell? ⟨w.heap.size + 1, 0, none⟩ = some (.int .i64 4) := by rw [← hw2, ← hs1]; simp [go_sem]
  have kb2 : w2.cell? ⟨w.heap.size + 1, 1, none⟩ = some (.int .i64 6) := by rw [← hw2, ← hs1]; simp [go_sem]
  have HW1 := Lib.hid hw1
  have HW2 := Lib.hid hw2
  have kq := acell (.cells #[.int .i64 0, .string ⟨#[]⟩, .int .i64 0] 34) k0
  clear hw1 hw2 k0
  go_enter Try.func35, Try.ntmps35
  go_wp2_with fail
  rw [HW1.out]
  refine (HL.out _).mono ?_
  rintro e wz ⟨rfl, rfl⟩
  go_wp2_with fail
  rw [HW2.out]
  refine wp_loop_rounds 3 ?_
  rw [rounds_succ]
  go_wp2_with fail
  refine (askFam_4 _).mono ?_
  rintro e wz ⟨rfl, rfl⟩
  go_wp2_with fail
  go_region_with (go_at_call 81; refine (size4 _ _ rfl).mono ?_; rintro e w3 ⟨rfl, hbx⟩; have ks3 : w3.cell? ⟨c, 0, none⟩ = some (.string s) := kcell hbx ks2; have ka3 : w3.cell? ⟨w.heap.size + 1, 0, none⟩ = some (.int .i64 4) := kcell hbx ka2; have kb3 : w3.cell? ⟨w.heap.size + 1, 1, none⟩ = some (.int .i64 6) := kcell hbx kb2; have kr3 : w3.heap[w.heap.size]? = some (.cells #[.int .i64 0, .string ⟨#[]⟩, .int .i64 0] 34) := (hbx.block _ (by have := hB2.size; have := hs2; simp; omega)).trans kr2; have hB3 : Below w.heap.size w w3 := blw hB2.drew hbx; have hs3 : w.heap.size + 2 ≤ w3.heap.size := by have := hbx.size; have := hs2; simp at *; omega)
  all_goals
    go_wp2_with fail
    rw [rounds_succ]
    go_wp2_with fail
    refine (askFam_6 _).mono ?_
    rintro e wz ⟨rfl, rfl⟩
    go_wp2_with fail
    go_region_with (go_at_call 87; refine (size6 _ _ rfl).mono ?_; rintro e w5 ⟨rfl, hbx⟩; have ks5 : w5.cell? ⟨c, 0, none⟩ = some (.string s) := kcell hbx ks3; have ka5 : w5.cell? ⟨w.heap.size + 1, 0, none⟩ = some (.int .i64 4) := kcell hbx ka3; have kb5 : w5.cell? ⟨w.heap.size + 1, 1, none⟩ = some (.int .i64 6) := kcell hbx kb3; have kr5 : w5.heap[w.heap.size]? = some (.cells #[.int .i64 0, .string ⟨#[]⟩, .int .i64 0] 34) := (hbx.block _ (by have := hB3.size; have := hs3; simp; omega)).trans kr3; have hB5 : Below w.heap.size w w5 := blw hB3.drew hbx; have hs5 : w.heap.size + 2 ≤ w5.heap.size := by have := hbx.size; have := hs3; simp at *; omega)
    all_goals
      go_wp2_with fail
      refine (HU.out _).mono ?_
      rintro e w4 ⟨rfl, hb4⟩
      exact ⟨rfl, rfl, blw hB5 hb4⟩

set_option maxRecDepth 100000 in
set_option maxHeartbeats 2000000 in
theorem Unp_other (s : ByteArray) (c : Nat) (w : World) (k0 : w.cell? ⟨c, 0, none⟩ = some (.string s)) (hcl : c < w.heap.size) (hz : s.size ≤ 65536) (z6 : s.size ≠ 6) (z18 : s.size ≠ 18) : Calls Try.prog 35 #[.pointer (some ⟨c, 0, none⟩)] w fun e w' => e = .panicked [{ v := .iface 24 (.int .i64 11), recovered := false }] ∧ Below w.heap.size w w' := by
  have HL := Lib.hid (fun w => askLong_ok s w (by omega))
  have y6 : ((s.size : Int) == 6) = false := by simp; omega
  have y18 : ((s.size : Int) == 18) = false := by simp; omega
  have v6 : ((s.size : Int) == IntKind.i64.wrap 6) = false := y6
  have v18 : ((s.size : Int) == IntKind.i64.wrap 18) = false := y18
  have x6 : ¬ ((s.size : Int) = 6) := by omega
  have x18 : ¬ ((s.size : Int) = 18) := by omega
  have m4 := meth4
  have m6 := meth6
  obtain ⟨w1, hw1⟩ : ∃ w1, w.alloc (.cells #[.int .i64 0, .string ⟨#[]⟩, .int .i64 0] 34) = w1 := ⟨_, rfl⟩
  have hs1 : w1.heap.size = w.heap.size + 1 := by rw [← hw1]; simp
  have hB1 : Below w.heap.size w w1 := by rw [← hw1]; exact (Below.refl _ _).alloc (Nat.le_refl _) _
  have kr1 : w1.heap[w.heap.size]? = some (.cells #[.int .i64 0, .string ⟨#[]⟩, .int .i64 0] 34) := by rw [← hw1]; exact World.alloc_heap_new _ _
  obtain ⟨w2, hw2⟩ : ∃ w2, w1.alloc (.cells #[.int .i64 4, .int .i64 6] 3) = w2 := ⟨_, rfl⟩
  have hs2 : w2.heap.size = w.heap.size + 2 := by rw [← hw2]; simp [hs1]
  have hB2 : Below w.heap.size w w2 := by rw [← hw2]; exact blw_alloc hB1
  have kr2 : w2.heap[w.heap.size]? = some (.cells #[.int .i64 0, .string ⟨#[]⟩, .int .i64 0] 34) := by rw [← hw2]; exact (Below.heap_alloc _ _ _ (by omega)).trans kr1
  have ks1 : w1.cell? ⟨c, 0, none⟩ = some (.string s) := by rw [← hw1]; exact acell _ k0
  have ks2 : w2.cell? ⟨c, 0, none⟩ = some (.string s) := by rw [← hw2]; exact acell _ ks1
  have ka2 : w2.cell? ⟨w.heap.size + 1, 0, none⟩ = some (.int .i64 4) := by rw [← hw2, ← hs1]; simp [go_sem]
  have kb2 : w2.cell? ⟨w.heap.size + 1, 1, none⟩ = some (.int .i64 6) := by rw [← hw2, ← hs1]; simp [go_sem]
  have HW1 := Lib.hid hw1
  have HW2 := Lib.hid hw2
  have kq := acell (.cells #[.int .i64 0, .string ⟨#[]⟩, .int .i64 0] 34) k0
  clear hw1 hw2 k0
  go_enter Try.func35, Try.ntmps35
  go_wp2_with fail
  rw [HW1.out]
  refine (HL.out _).mono ?_
  rintro e wz ⟨rfl, rfl⟩
  go_wp2_with fail
  rw [HW2.out]
  refine wp_loop_rounds 3 ?_
  rw [rounds_succ]
  go_wp2_with fail
  refine (askFam_4 _).mono ?_
  rintro e wz ⟨rfl, rfl⟩
  go_wp2_with fail
  go_region_with (go_at_call 81; refine (size4 _ _ rfl).mono ?_; rintro e w3 ⟨rfl, hbx⟩; have ks3 : w3.cell? ⟨c, 0, none⟩ = some (.string s) := kcell hbx ks2; have ka3 : w3.cell? ⟨w.heap.size + 1, 0, none⟩ = some (.int .i64 4) := kcell hbx ka2; have kb3 : w3.cell? ⟨w.heap.size + 1, 1, none⟩ = some (.int .i64 6) := kcell hbx kb2; have kr3 : w3.heap[w.heap.size]? = some (.cells #[.int .i64 0, .string ⟨#[]⟩, .int .i64 0] 34) := (hbx.block _ (by have := hB2.size; have := hs2; simp; omega)).trans kr2; have hB3 : Below w.heap.size w w3 := blw hB2.drew hbx; have hs3 : w.heap.size + 2 ≤ w3.heap.size := by have := hbx.size; have := hs2; simp at *; omega)
  all_goals
    go_wp2_with fail
    rw [rounds_succ]
    go_wp2_with fail
    refine (askFam_6 _).mono ?_
    rintro e wz ⟨rfl, rfl⟩
    go_wp2_with fail
    go_region_with (go_at_call 87; refine (size6 _ _ rfl).mono ?_; rintro e w5 ⟨rfl, hbx⟩; have ks5 : w5.cell? ⟨c, 0, none⟩ = some (.string s) := kcell hbx ks3; have ka5 : w5.cell? ⟨w.heap.size + 1, 0, none⟩ = some (.int .i64 4) := kcell hbx ka3; have kb5 : w5.cell? ⟨w.heap.size + 1, 1, none⟩ = some (.int .i64 6) := kcell hbx kb3; have kr5 : w5.heap[w.heap.size]? = some (.cells #[.int .i64 0, .string ⟨#[]⟩, .int .i64 0] 34) := (hbx.block _ (by have := hB3.size; have := hs3; simp; omega)).trans kr3; have hB5 : Below w.heap.size w w5 := blw hB3.drew hbx; have hs5 : w.heap.size + 2 ≤ w5.heap.size := by have := hbx.size; have := hs3; simp at *; omega)
    all_goals
      go_wp2_with fail
      rw [rounds_succ]
      go_wp2_with fail
      exact ⟨rfl, rfl, hB5⟩

set_option maxHeartbeats 800000 in
theorem Unp_long (s : ByteArray) (c : Nat) (w : World) (k0 : w.cell? ⟨c, 0, none⟩ = some (.string s)) (hz : 65536 < s.size) : Calls Try.prog 35 #[.pointer (some ⟨c, 0, none⟩)] w fun e w' => e = .panicked [{ v := .iface 24 (.int .i64 3), recovered := false }] ∧ Below w.heap.size w w' := by
  have HL := Lib.hid (fun w => askLong_no s w hz)
  have kq := acell (.cells #[.int .i64 0, .string ⟨#[]⟩, .int .i64 0] 34) k0
  clear k0
  go_enter Try.func35, Try.ntmps35
  go_wp2_with fail
  refine (HL.out _).mono ?_
  rintro e wz ⟨rfl, rfl⟩
  exact ⟨rfl, rfl, (Below.refl _ _).alloc (Nat.le_refl _) _⟩
end Go.Proofs.Ythlkpbpcfkgljaa.Ac
