/-
  Fields of bits: And, Or, Without as called. (made by mk_bs.py)
-/
import Derived.Test.YtbeaohnjifcgaaaDoorBt1
import Derived.Test.YtbeaohnjifcgaaaDoorBt2
import Derived.Test.YtbeaohnjifcgaaaDoorBt3
namespace Go.Proofs.YtbeaohnjifcgaaaDoor.Bh
open Go Go.RowKit Go.Shelf Go.Proofs.YtbeaohnjifcgaaaDoor.Sx Go.Proofs.YtbeaohnjifcgaaaDoor.Na Go.Proofs.YtbeaohnjifcgaaaDoor.Ba

/-- the world in which join's four boxes lie -/
def bxj (w : World) (n : Int) (p q : ByteArray) (f : Value) : World := ((bxs w n p).alloc (.cells #[.string q] 9)).alloc (.cells #[f] 75)
theorem bxj_gb (w : World) (n : Int) (p q : ByteArray) (f : Value) : w.grownBy (bxj w n p q f) none := gb_trans (gb_trans (bxs_gb w n p) (gb_alloc _ _ _)) (gb_alloc _ _ _)
theorem bxs_size (w : World) (n : Int) (p : ByteArray) : (bxs w n p).heap.size = w.heap.size + 2 := by simp [bxs, bx]
theorem bxj_c0 (w : World) (n : Int) (p q : ByteArray) (f : Value) : (Bc.aw (bxj w n p q f)).cell? ⟨w.heap.size, 0, none⟩ = some (.int .i64 n) :=
  gb_cell (gb_trans (gb_trans (gb_trans (gb_alloc _ _ none) (gb_alloc _ _ _)) (gb_alloc _ _ _)) (Bc.aw_gb _)) (by unfold bx; exact cell_one_new _ _ _ 0 _ rfl) (by simp)
theorem bxj_c1 (w : World) (n : Int) (p q : ByteArray) (f : Value) : (Bc.aw (bxj w n p q f)).cell? ⟨w.heap.size + 1, 0, none⟩ = some (.string p) :=
  gb_cell (gb_trans (gb_trans (gb_alloc _ _ none) (gb_alloc _ _ _)) (Bc.aw_gb _)) (by
    have hs : (bx w n).heap.size = w.heap.size + 1 := by simp [bx]
    unfold bxs; rw [← hs]; exact cell_one_new _ _ _ 0 _ rfl) (by simp)
theorem bxj_c2 (w : World) (n : Int) (p q : ByteArray) (f : Value) : (Bc.aw (bxj w n p q f)).cell? ⟨w.heap.size + 1 + 1, 0, none⟩ = some (.string q) :=
  gb_cell (gb_trans (gb_alloc _ _ none) (Bc.aw_gb _)) (by rw [show w.heap.size + 1 + 1 = (bxs w n p).heap.size by rw [bxs_size]]; exact cell_one_new _ _ _ 0 _ rfl) (by simp)
theorem bxj_c3 (w : World) (n : Int) (p q : ByteArray) (f : Value) : (Bc.aw (bxj w n p q f)).cell? ⟨w.heap.size + 1 + 1 + 1, 0, none⟩ = some f :=
  gb_cell (Bc.aw_gb _) (by
    have hs : ((bxs w n p).alloc (.cells #[.string q] 9)).heap.size = w.heap.size + 1 + 1 + 1 := by simp [bxs_size]
    unfold bxj; rw [← hs]; exact cell_one_new _ _ _ 0 _ rfl) (by simp)

set_option maxRecDepth 100000 in
set_option maxHeartbeats 1600000 in
theorem join0_no (n : Int) (p q : ByteArray) (c cp cq cf : Nat) (w : World) (hp : p.size ≤ 140737488351232) (hq : q.size ≤ 140737488351232) (hc : w.cell? ⟨c, 0, none⟩ = some (.int .i64 n)) (hcp : w.cell? ⟨cp, 0, none⟩ = some (.string p)) (hcq : w.cell? ⟨cq, 0, none⟩ = some (.string q)) (h : joE n p q ≠ 0) :
    Calls Tryd.prog 107 #[.pointer (some ⟨c, 0, none⟩), .pointer (some ⟨cp, 0, none⟩), .pointer (some ⟨cq, 0, none⟩), .pointer (some ⟨cf, 0, none⟩)] w fun e w' => e = .panicked [{ v := .iface 24 (.int .i64 (joE n p q)), recovered := false }] ∧ w.grownBy w' none := by
  by_cases h1 : chk n p = 0
  · have e0 : joE n p q = chk n q := if_pos h1
    rw [e0] at h ⊢
    have HA := Lib.hid (askField_ok n p w hp h1)
    have HA2 := Lib.hid (fun w => askField_no n q w hq h)
    obtain ⟨z, hz⟩ : ∃ z, chk n q = z := ⟨_, rfl⟩
    simp only [hz] at HA2 ⊢
    have HC := Lib.hid hc
    have HCQ := Lib.hid hcq
    clear hz h h1 e0
    go_enter Tryd.func107, Tryd.ntmps107
    go_wp2_with fail
    refine HA.out.mono ?_
    rintro e w1 ⟨rfl, hg⟩
    have hc1 := gb_cell hg HC.out (by simp)
    have hq1 := gb_cell hg HCQ.out (by simp)
    have HG := Lib.hid hg
    clear hg hc hcp hcq
    go_wp2_with fail
    refine (HA2.out _).mono ?_
    rintro e w2 ⟨rfl, hg⟩
    exact ⟨rfl, rfl, gb_trans HG.out hg⟩
  · have e0 : joE n p q = chk n p := if_neg h1
    rw [e0]
    have HA := Lib.hid (askField_no n p w hp h1)
    obtain ⟨z, hz⟩ : ∃ z, chk n p = z := ⟨_, rfl⟩
    rw [hz] at HA ⊢
    clear hz h h1 e0
    go_enter Tryd.func107, Tryd.ntmps107
    go_wp2_with fail
    refine HA.out.mono ?_
    rintro e w1 ⟨rfl, hg⟩
    exact ⟨rfl, rfl, hg⟩

set_option maxRecDepth 100000 in
set_option maxHeartbeats 1600000 in
theorem join0_1 (n : Int) (p q : ByteArray) (c cp cq cf : Nat) (w : World) (hp : p.size ≤ 140737488351232) (hq : q.size ≤ 140737488351232) (hc : w.cell? ⟨c, 0, none⟩ = some (.int .i64 n)) (hcp : w.cell? ⟨cp, 0, none⟩ = some (.string p)) (hcq : w.cell? ⟨cq, 0, none⟩ = some (.string q))
    (hcf : w.cell? ⟨cf, 0, none⟩ = some (.func (Fn.func 109) #[] #[])) (h : joE n p q = 0) :
    Calls Tryd.prog 107 #[.pointer (some ⟨c, 0, none⟩), .pointer (some ⟨cp, 0, none⟩), .pointer (some ⟨cq, 0, none⟩), .pointer (some ⟨cf, 0, none⟩)] w fun e w' => e = .returned (.string (joS 1 n p q)) ∧ w.grownBy w' none := by
  have hmf : ∀ (fn : Fn) (first cap : Array Value) (w : World), (Instr.makeFunc fn first cap).run Tryd.prog w = .ok (.func fn first cap) w := fun _ _ _ _ => rfl
  rw [show joS 1 n p q = tf n.toNat (fun i => jb 1 (bt p i) (bt q i)) from if_pos h]
  have h1 : chk n p = 0 := by
    unfold joE at h
    split at h
    · assumption
    · rename_i h'; exact absurd h h'
  have h2 : chk n q = 0 := by unfold joE at h; rwa [if_pos h1] at h
  have HA := Lib.hid (askField_ok n p w hp h1)
  have HA2 := Lib.hid (fun w => askField_ok n q w hq h2)
  obtain ⟨N, rfl, e1, e2, e3⟩ := vd_t (chk_t h1)
  obtain ⟨N', e4, e5, e6, e7⟩ := vd_t (chk_t h2)
  obtain rfl : N = N' := by omega
  rw [Int.toNat_natCast]
  have HB : Hid (∀ w1, w.grownBy w1 none → Calls Tryd.prog 59 #[.int .i64 N, .func (Fn.func 108) #[] #[.pointer (some ⟨cf, 0, none⟩), .pointer (some ⟨cp, 0, none⟩), .pointer (some ⟨cq, 0, none⟩)]] w1 fun e w' => e = .returned (.string (tf N (fun i => jb 1 (bt p i) (bt q i)))) ∧ w1.grownBy w' none) := Lib.hid (fun w1 hg1 =>
    build_ok 108 #[.pointer (some ⟨cf, 0, none⟩), .pointer (some ⟨cp, 0, none⟩), .pointer (some ⟨cq, 0, none⟩)] N _ rfl e1 (bN (lim N fun i => jb 1 (bt p i) (bt q i))) w1 none enterJ1 (fun w2 b hg hb H =>
      join1_1 N _ p q rfl e1 e2 e6 (fun i a b => e3 i a (by omega)) (fun i a b => e7 i a (by omega)) b cp cq cf w1 w2 (gb_cell hg1 hcp (by simp)) (gb_cell hg1 hcq (by simp)) (gb_cell hg1 hcf (by simp)) H hg hb))
  obtain ⟨z, hz⟩ : ∃ z, tf N (fun i => jb 1 (bt p i) (bt q i)) = z := ⟨_, rfl⟩
  simp only [hz] at HB ⊢
  have HC := Lib.hid hc
  have HCQ := Lib.hid hcq
  clear hz h h1 h2 e1 e2 e3 e4 e5 e6 e7 hp hq hcf
  go_enter Tryd.func107, Tryd.ntmps107
  go_wp2_with fail
  refine HA.out.mono ?_
  rintro e w1 ⟨rfl, hg⟩
  have hc1 := gb_cell hg HC.out (by simp)
  have hq1 := gb_cell hg HCQ.out (by simp)
  have HG := Lib.hid hg
  clear hg hc hcp hcq
  go_wp2_with fail
  refine (HA2.out _).mono ?_
  rintro e w2 ⟨rfl, hg⟩
  have hc2 := gb_cell hg hc1 (by simp)
  have HG2 := Lib.hid (gb_trans HG.out hg)
  clear hg hc1 hq1 HG
  go_wp2_with fail
  refine (HB.out _ HG2.out).mono ?_
  rintro e w3 ⟨rfl, hg⟩
  have HG3 := Lib.hid (gb_trans HG2.out hg)
  clear hg
  go_wp2
  go_ret
  exact ⟨rfl, HG3.out⟩

set_option maxRecDepth 100000 in
set_option maxHeartbeats 1600000 in
theorem join_1 (n : Int) (p q : ByteArray) (w : World) (hp : p.size ≤ 140737488351232) (hq : q.size ≤ 140737488351232) :
    Calls Tryd.prog 76 #[.int .i64 n, .string p, .string q, .func (Fn.func 109) #[] #[]] w fun e w' => e = .returned (.tuple #[.string (joS 1 n p q), .int .i64 (joE n p q)]) ∧ w.grownBy w' none := by
  have hmf : ∀ (fn : Fn) (first cap : Array Value) (w : World), (Instr.makeFunc fn first cap).run Tryd.prog w = .ok (.func fn first cap) w := fun _ _ _ _ => rfl
  obtain ⟨F, hF⟩ : ∃ F : Value, .func (Fn.func 109) #[] #[] = F := ⟨_, rfl⟩
  have k3 := bxj_c3 w n p q F
  have H : Hid (Calls Tryd.prog 56 #[.func (Fn.func 107) #[] #[.pointer (some ⟨w.heap.size, 0, none⟩), .pointer (some ⟨w.heap.size + 1, 0, none⟩), .pointer (some ⟨w.heap.size + 1 + 1, 0, none⟩), .pointer (some ⟨w.heap.size + 1 + 1 + 1, 0, none⟩)]] (bxj w n p q F) fun e w' => e = .returned (.tuple #[.string (joS 1 n p q), .int .i64 (joE n p q)]) ∧ (bxj w n p q F).grownBy w' none) := by
    refine Lib.hid ?_
    by_cases h : joE n p q = 0
    · rw [h]
      refine (Bc.att_ok 107 _ _ (bxj w n p q F) none (fun _ => True) (sta_true _) (fun _ h => by cases h) enterJ0 ((join0_1 n p q _ _ _ _ _ hp hq (bxj_c0 w n p q F) (bxj_c1 w n p q F) (bxj_c2 w n p q F) (by rw [k3, ← hF]) h).mono fun e w' hh => ⟨hh.1, trivial, hh.2⟩)).mono fun e w' hh => ⟨hh.1, hh.2.2⟩
    · rw [show joS 1 n p q = ⟨#[]⟩ from if_neg h]
      refine (Bc.att_no 107 _ (joE n p q) (bxj w n p q F) none (fun _ => True) (sta_true _) (fun _ h => by cases h) enterJ0 ((join0_no n p q _ _ _ _ _ hp hq (bxj_c0 w n p q F) (bxj_c1 w n p q F) (bxj_c2 w n p q F) h).mono fun e w' hh => ⟨hh.1, trivial, hh.2⟩)).mono fun e w' hh => ⟨hh.1, hh.2.2⟩
  obtain ⟨x, hx⟩ : ∃ x, joS 1 n p q = x := ⟨_, rfl⟩
  obtain ⟨y, hy⟩ : ∃ y, joE n p q = y := ⟨_, rfl⟩
  rw [hx, hy] at H ⊢
  have HW := Lib.hid (bxj_gb w n p q F)
  clear hx hy k3
  subst hF
  unfold bxj bxs bx at H HW
  go_enter Tryd.func76, Tryd.ntmps76
  go_wp2_with fail
  refine H.out.mono ?_
  rintro e w1 ⟨rfl, hg⟩
  have HG := Lib.hid (gb_trans HW.out hg)
  clear hg
  go_wp2
  go_ret2
  exact ⟨rfl, HG.out⟩
set_option maxRecDepth 100000 in
set_option maxHeartbeats 1600000 in
theorem And_any (n : Int) (p q : ByteArray) (w : World) (hp : p.size ≤ 140737488351232) (hq : q.size ≤ 140737488351232) :
    Calls Tryd.prog 26 #[.int .i64 n, .string p, .string q] w fun e w' => e = .returned (.tuple #[.string (joS 1 n p q), .int .i64 (joE n p q)]) ∧ w.grownBy w' none := by
  have HJ := Lib.hid (fun w => join_1 n p q w hp hq)
  have HJS := Lib.hid (joiners_any w)
  have hix : ∀ w, (Instr.index 76 (.agg #[.func (Fn.func 109) #[] #[], .func (Fn.func 110) #[] #[], .func (Fn.func 111) #[] #[]]) (.int .i64 0)).run Tryd.prog w = .ok (.func (Fn.func 109) #[] #[]) w := fun _ => by kernel_rfl
  obtain ⟨x, hx⟩ : ∃ x, joS 1 n p q = x := ⟨_, rfl⟩
  obtain ⟨y, hy⟩ : ∃ y, joE n p q = y := ⟨_, rfl⟩
  simp only [hx, hy] at HJ ⊢
  clear hx hy
  go_enter Tryd.func26, Tryd.ntmps26
  go_wp2_with fail
  refine HJS.out.mono ?_
  rintro e w1 ⟨rfl, hg⟩
  have HG := Lib.hid hg
  clear hg
  go_wp2_with fail
  refine (HJ.out _).mono ?_
  rintro e w2 ⟨rfl, hg⟩
  have HG2 := Lib.hid (gb_trans HG.out hg)
  clear hg
  go_wp2
  go_ret2
  exact ⟨rfl, HG2.out⟩

set_option maxRecDepth 100000 in
set_option maxHeartbeats 1600000 in
theorem join0_2 (n : Int) (p q : ByteArray) (c cp cq cf : Nat) (w : World) (hp : p.size ≤ 140737488351232) (hq : q.size ≤ 140737488351232) (hc : w.cell? ⟨c, 0, none⟩ = some (.int .i64 n)) (hcp : w.cell? ⟨cp, 0, none⟩ = some (.string p)) (hcq : w.cell? ⟨cq, 0, none⟩ = some (.string q))
    (hcf : w.cell? ⟨cf, 0, none⟩ = some (.func (Fn.func 110) #[] #[])) (h : joE n p q = 0) :
    Calls Tryd.prog 107 #[.pointer (some ⟨c, 0, none⟩), .pointer (some ⟨cp, 0, none⟩), .pointer (some ⟨cq, 0, none⟩), .pointer (some ⟨cf, 0, none⟩)] w fun e w' => e = .returned (.string (joS 2 n p q)) ∧ w.grownBy w' none := by
  have hmf : ∀ (fn : Fn) (first cap : Array Value) (w : World), (Instr.makeFunc fn first cap).run Tryd.prog w = .ok (.func fn first cap) w := fun _ _ _ _ => rfl
  rw [show joS 2 n p q = tf n.toNat (fun i => jb 2 (bt p i) (bt q i)) from if_pos h]
  have h1 : chk n p = 0 := by
    unfold joE at h
    split at h
    · assumption
    · rename_i h'; exact absurd h h'
  have h2 : chk n q = 0 := by unfold joE at h; rwa [if_pos h1] at h
  have HA := Lib.hid (askField_ok n p w hp h1)
  have HA2 := Lib.hid (fun w => askField_ok n q w hq h2)
  obtain ⟨N, rfl, e1, e2, e3⟩ := vd_t (chk_t h1)
  obtain ⟨N', e4, e5, e6, e7⟩ := vd_t (chk_t h2)
  obtain rfl : N = N' := by omega
  rw [Int.toNat_natCast]
  have HB : Hid (∀ w1, w.grownBy w1 none → Calls Tryd.prog 59 #[.int .i64 N, .func (Fn.func 108) #[] #[.pointer (some ⟨cf, 0, none⟩), .pointer (some ⟨cp, 0, none⟩), .pointer (some ⟨cq, 0, none⟩)]] w1 fun e w' => e = .returned (.string (tf N (fun i => jb 2 (bt p i) (bt q i)))) ∧ w1.grownBy w' none) := Lib.hid (fun w1 hg1 =>
    build_ok 108 #[.pointer (some ⟨cf, 0, none⟩), .pointer (some ⟨cp, 0, none⟩), .pointer (some ⟨cq, 0, none⟩)] N _ rfl e1 (bN (lim N fun i => jb 2 (bt p i) (bt q i))) w1 none enterJ1 (fun w2 b hg hb H =>
      join1_2 N _ p q rfl e1 e2 e6 (fun i a b => e3 i a (by omega)) (fun i a b => e7 i a (by omega)) b cp cq cf w1 w2 (gb_cell hg1 hcp (by simp)) (gb_cell hg1 hcq (by simp)) (gb_cell hg1 hcf (by simp)) H hg hb))
  obtain ⟨z, hz⟩ : ∃ z, tf N (fun i => jb 2 (bt p i) (bt q i)) = z := ⟨_, rfl⟩
  simp only [hz] at HB ⊢
  have HC := Lib.hid hc
  have HCQ := Lib.hid hcq
  clear hz h h1 h2 e1 e2 e3 e4 e5 e6 e7 hp hq hcf
  go_enter Tryd.func107, Tryd.ntmps107
  go_wp2_with fail
  refine HA.out.mono ?_
  rintro e w1 ⟨rfl, hg⟩
  have hc1 := gb_cell hg HC.out (by simp)
  have hq1 := gb_cell hg HCQ.out (by simp)
  have HG := Lib.hid hg
  clear hg hc hcp hcq
  go_wp2_with fail
  refine (HA2.out _).mono ?_
  rintro e w2 ⟨rfl, hg⟩
  have hc2 := gb_cell hg hc1 (by simp)
  have HG2 := Lib.hid (gb_trans HG.out hg)
  clear hg hc1 hq1 HG
  go_wp2_with fail
  refine (HB.out _ HG2.out).mono ?_
  rintro e w3 ⟨rfl, hg⟩
  have HG3 := Lib.hid (gb_trans HG2.out hg)
  clear hg
  go_wp2
  go_ret
  exact ⟨rfl, HG3.out⟩

set_option maxRecDepth 100000 in
set_option maxHeartbeats 1600000 in
theorem join_2 (n : Int) (p q : ByteArray) (w : World) (hp : p.size ≤ 140737488351232) (hq : q.size ≤ 140737488351232) :
    Calls Tryd.prog 76 #[.int .i64 n, .string p, .string q, .func (Fn.func 110) #[] #[]] w fun e w' => e = .returned (.tuple #[.string (joS 2 n p q), .int .i64 (joE n p q)]) ∧ w.grownBy w' none := by
  have hmf : ∀ (fn : Fn) (first cap : Array Value) (w : World), (Instr.makeFunc fn first cap).run Tryd.prog w = .ok (.func fn first cap) w := fun _ _ _ _ => rfl
  obtain ⟨F, hF⟩ : ∃ F : Value, .func (Fn.func 110) #[] #[] = F := ⟨_, rfl⟩
  have k3 := bxj_c3 w n p q F
  have H : Hid (Calls Tryd.prog 56 #[.func (Fn.func 107) #[] #[.pointer (some ⟨w.heap.size, 0, none⟩), .pointer (some ⟨w.heap.size + 1, 0, none⟩), .pointer (some ⟨w.heap.size + 1 + 1, 0, none⟩), .pointer (some ⟨w.heap.size + 1 + 1 + 1, 0, none⟩)]] (bxj w n p q F) fun e w' => e = .returned (.tuple #[.string (joS 2 n p q), .int .i64 (joE n p q)]) ∧ (bxj w n p q F).grownBy w' none) := by
    refine Lib.hid ?_
    by_cases h : joE n p q = 0
    · rw [h]
      refine (Bc.att_ok 107 _ _ (bxj w n p q F) none (fun _ => True) (sta_true _) (fun _ h => by cases h) enterJ0 ((join0_2 n p q _ _ _ _ _ hp hq (bxj_c0 w n p q F) (bxj_c1 w n p q F) (bxj_c2 w n p q F) (by rw [k3, ← hF]) h).mono fun e w' hh => ⟨hh.1, trivial, hh.2⟩)).mono fun e w' hh => ⟨hh.1, hh.2.2⟩
    · rw [show joS 2 n p q = ⟨#[]⟩ from if_neg h]
      refine (Bc.att_no 107 _ (joE n p q) (bxj w n p q F) none (fun _ => True) (sta_true _) (fun _ h => by cases h) enterJ0 ((join0_no n p q _ _ _ _ _ hp hq (bxj_c0 w n p q F) (bxj_c1 w n p q F) (bxj_c2 w n p q F) h).mono fun e w' hh => ⟨hh.1, trivial, hh.2⟩)).mono fun e w' hh => ⟨hh.1, hh.2.2⟩
  obtain ⟨x, hx⟩ : ∃ x, joS 2 n p q = x := ⟨_, rfl⟩
  obtain ⟨y, hy⟩ : ∃ y, joE n p q = y := ⟨_, rfl⟩
  rw [hx, hy] at H ⊢
  have HW := Lib.hid (bxj_gb w n p q F)
  clear hx hy k3
  subst hF
  unfold bxj bxs bx at H HW
  go_enter Tryd.func76, Tryd.ntmps76
  go_wp2_with fail
  refine H.out.mono ?_
  rintro e w1 ⟨rfl, hg⟩
  have HG := Lib.hid (gb_trans HW.out hg)
  clear hg
  go_wp2
  go_ret2
  exact ⟨rfl, HG.out⟩
set_option maxRecDepth 100000 in
set_option maxHeartbeats 1600000 in
theorem Or_any (n : Int) (p q : ByteArray) (w : World) (hp : p.size ≤ 140737488351232) (hq : q.size ≤ 140737488351232) :
    Calls Tryd.prog 28 #[.int .i64 n, .string p, .string q] w fun e w' => e = .returned (.tuple #[.string (joS 2 n p q), .int .i64 (joE n p q)]) ∧ w.grownBy w' none := by
  have HJ := Lib.hid (fun w => join_2 n p q w hp hq)
  have HJS := Lib.hid (joiners_any w)
  have hix : ∀ w, (Instr.index 76 (.agg #[.func (Fn.func 109) #[] #[], .func (Fn.func 110) #[] #[], .func (Fn.func 111) #[] #[]]) (.int .i64 1)).run Tryd.prog w = .ok (.func (Fn.func 110) #[] #[]) w := fun _ => by kernel_rfl
  obtain ⟨x, hx⟩ : ∃ x, joS 2 n p q = x := ⟨_, rfl⟩
  obtain ⟨y, hy⟩ : ∃ y, joE n p q = y := ⟨_, rfl⟩
  simp only [hx, hy] at HJ ⊢
  clear hx hy
  go_enter Tryd.func28, Tryd.ntmps28
  go_wp2_with fail
  refine HJS.out.mono ?_
  rintro e w1 ⟨rfl, hg⟩
  have HG := Lib.hid hg
  clear hg
  go_wp2_with fail
  refine (HJ.out _).mono ?_
  rintro e w2 ⟨rfl, hg⟩
  have HG2 := Lib.hid (gb_trans HG.out hg)
  clear hg
  go_wp2
  go_ret2
  exact ⟨rfl, HG2.out⟩

set_option maxRecDepth 100000 in
set_option maxHeartbeats 1600000 in
theorem join0_3 (n : Int) (p q : ByteArray) (c cp cq cf : Nat) (w : World) (hp : p.size ≤ 140737488351232) (hq : q.size ≤ 140737488351232) (hc : w.cell? ⟨c, 0, none⟩ = some (.int .i64 n)) (hcp : w.cell? ⟨cp, 0, none⟩ = some (.string p)) (hcq : w.cell? ⟨cq, 0, none⟩ = some (.string q))
    (hcf : w.cell? ⟨cf, 0, none⟩ = some (.func (Fn.func 111) #[] #[])) (h : joE n p q = 0) :
    Calls Tryd.prog 107 #[.pointer (some ⟨c, 0, none⟩), .pointer (some ⟨cp, 0, none⟩), .pointer (some ⟨cq, 0, none⟩), .pointer (some ⟨cf, 0, none⟩)] w fun e w' => e = .returned (.string (joS 3 n p q)) ∧ w.grownBy w' none := by
  have hmf : ∀ (fn : Fn) (first cap : Array Value) (w : World), (Instr.makeFunc fn first cap).run Tryd.prog w = .ok (.func fn first cap) w := fun _ _ _ _ => rfl
  rw [show joS 3 n p q = tf n.toNat (fun i => jb 3 (bt p i) (bt q i)) from if_pos h]
  have h1 : chk n p = 0 := by
    unfold joE at h
    split at h
    · assumption
    · rename_i h'; exact absurd h h'
  have h2 : chk n q = 0 := by unfold joE at h; rwa [if_pos h1] at h
  have HA := Lib.hid (askField_ok n p w hp h1)
  have HA2 := Lib.hid (fun w => askField_ok n q w hq h2)
  obtain ⟨N, rfl, e1, e2, e3⟩ := vd_t (chk_t h1)
  obtain ⟨N', e4, e5, e6, e7⟩ := vd_t (chk_t h2)
  obtain rfl : N = N' := by omega
  rw [Int.toNat_natCast]
  have HB : Hid (∀ w1, w.grownBy w1 none → Calls Tryd.prog 59 #[.int .i64 N, .func (Fn.func 108) #[] #[.pointer (some ⟨cf, 0, none⟩), .pointer (some ⟨cp, 0, none⟩), .pointer (some ⟨cq, 0, none⟩)]] w1 fun e w' => e = .returned (.string (tf N (fun i => jb 3 (bt p i) (bt q i)))) ∧ w1.grownBy w' none) := Lib.hid (fun w1 hg1 =>
    build_ok 108 #[.pointer (some ⟨cf, 0, none⟩), .pointer (some ⟨cp, 0, none⟩), .pointer (some ⟨cq, 0, none⟩)] N _ rfl e1 (bN (lim N fun i => jb 3 (bt p i) (bt q i))) w1 none enterJ1 (fun w2 b hg hb H =>
      join1_3 N _ p q rfl e1 e2 e6 (fun i a b => e3 i a (by omega)) (fun i a b => e7 i a (by omega)) b cp cq cf w1 w2 (gb_cell hg1 hcp (by simp)) (gb_cell hg1 hcq (by simp)) (gb_cell hg1 hcf (by simp)) H hg hb))
  obtain ⟨z, hz⟩ : ∃ z, tf N (fun i => jb 3 (bt p i) (bt q i)) = z := ⟨_, rfl⟩
  simp only [hz] at HB ⊢
  have HC := Lib.hid hc
  have HCQ := Lib.hid hcq
  clear hz h h1 h2 e1 e2 e3 e4 e5 e6 e7 hp hq hcf
  go_enter Tryd.func107, Tryd.ntmps107
  go_wp2_with fail
  refine HA.out.mono ?_
  rintro e w1 ⟨rfl, hg⟩
  have hc1 := gb_cell hg HC.out (by simp)
  have hq1 := gb_cell hg HCQ.out (by simp)
  have HG := Lib.hid hg
  clear hg hc hcp hcq
  go_wp2_with fail
  refine (HA2.out _).mono ?_
  rintro e w2 ⟨rfl, hg⟩
  have hc2 := gb_cell hg hc1 (by simp)
  have HG2 := Lib.hid (gb_trans HG.out hg)
  clear hg hc1 hq1 HG
  go_wp2_with fail
  refine (HB.out _ HG2.out).mono ?_
  rintro e w3 ⟨rfl, hg⟩
  have HG3 := Lib.hid (gb_trans HG2.out hg)
  clear hg
  go_wp2
  go_ret
  exact ⟨rfl, HG3.out⟩

set_option maxRecDepth 100000 in
set_option maxHeartbeats 1600000 in
theorem join_3 (n : Int) (p q : ByteArray) (w : World) (hp : p.size ≤ 140737488351232) (hq : q.size ≤ 140737488351232) :
    Calls Tryd.prog 76 #[.int .i64 n, .string p, .string q, .func (Fn.func 111) #[] #[]] w fun e w' => e = .returned (.tuple #[.string (joS 3 n p q), .int .i64 (joE n p q)]) ∧ w.grownBy w' none := by
  have hmf : ∀ (fn : Fn) (first cap : Array Value) (w : World), (Instr.makeFunc fn first cap).run Tryd.prog w = .ok (.func fn first cap) w := fun _ _ _ _ => rfl
  obtain ⟨F, hF⟩ : ∃ F : Value, .func (Fn.func 111) #[] #[] = F := ⟨_, rfl⟩
  have k3 := bxj_c3 w n p q F
  have H : Hid (Calls Tryd.prog 56 #[.func (Fn.func 107) #[] #[.pointer (some ⟨w.heap.size, 0, none⟩), .pointer (some ⟨w.heap.size + 1, 0, none⟩), .pointer (some ⟨w.heap.size + 1 + 1, 0, none⟩), .pointer (some ⟨w.heap.size + 1 + 1 + 1, 0, none⟩)]] (bxj w n p q F) fun e w' => e = .returned (.tuple #[.string (joS 3 n p q), .int .i64 (joE n p q)]) ∧ (bxj w n p q F).grownBy w' none) := by
    refine Lib.hid ?_
    by_cases h : joE n p q = 0
    · rw [h]
      refine (Bc.att_ok 107 _ _ (bxj w n p q F) none (fun _ => True) (sta_true _) (fun _ h => by cases h) enterJ0 ((join0_3 n p q _ _ _ _ _ hp hq (bxj_c0 w n p q F) (bxj_c1 w n p q F) (bxj_c2 w n p q F) (by rw [k3, ← hF]) h).mono fun e w' hh => ⟨hh.1, trivial, hh.2⟩)).mono fun e w' hh => ⟨hh.1, hh.2.2⟩
    · rw [show joS 3 n p q = ⟨#[]⟩ from if_neg h]
      refine (Bc.att_no 107 _ (joE n p q) (bxj w n p q F) none (fun _ => True) (sta_true _) (fun _ h => by cases h) enterJ0 ((join0_no n p q _ _ _ _ _ hp hq (bxj_c0 w n p q F) (bxj_c1 w n p q F) (bxj_c2 w n p q F) h).mono fun e w' hh => ⟨hh.1, trivial, hh.2⟩)).mono fun e w' hh => ⟨hh.1, hh.2.2⟩
  obtain ⟨x, hx⟩ : ∃ x, joS 3 n p q = x := ⟨_, rfl⟩
  obtain ⟨y, hy⟩ : ∃ y, joE n p q = y := ⟨_, rfl⟩
  rw [hx, hy] at H ⊢
  have HW := Lib.hid (bxj_gb w n p q F)
  clear hx hy k3
  subst hF
  unfold bxj bxs bx at H HW
  go_enter Tryd.func76, Tryd.ntmps76
  go_wp2_with fail
  refine H.out.mono ?_
  rintro e w1 ⟨rfl, hg⟩
  have HG := Lib.hid (gb_trans HW.out hg)
  clear hg
  go_wp2
  go_ret2
  exact ⟨rfl, HG.out⟩
set_option maxRecDepth 100000 in
set_option maxHeartbeats 1600000 in
theorem Without_any (n : Int) (p q : ByteArray) (w : World) (hp : p.size ≤ 140737488351232) (hq : q.size ≤ 140737488351232) :
    Calls Tryd.prog 29 #[.int .i64 n, .string p, .string q] w fun e w' => e = .returned (.tuple #[.string (joS 3 n p q), .int .i64 (joE n p q)]) ∧ w.grownBy w' none := by
  have HJ := Lib.hid (fun w => join_3 n p q w hp hq)
  have HJS := Lib.hid (joiners_any w)
  have hix : ∀ w, (Instr.index 76 (.agg #[.func (Fn.func 109) #[] #[], .func (Fn.func 110) #[] #[], .func (Fn.func 111) #[] #[]]) (.int .i64 2)).run Tryd.prog w = .ok (.func (Fn.func 111) #[] #[]) w := fun _ => by kernel_rfl
  obtain ⟨x, hx⟩ : ∃ x, joS 3 n p q = x := ⟨_, rfl⟩
  obtain ⟨y, hy⟩ : ∃ y, joE n p q = y := ⟨_, rfl⟩
  simp only [hx, hy] at HJ ⊢
  clear hx hy
  go_enter Tryd.func29, Tryd.ntmps29
  go_wp2_with fail
  refine HJS.out.mono ?_
  rintro e w1 ⟨rfl, hg⟩
  have HG := Lib.hid hg
  clear hg
  go_wp2_with fail
  refine (HJ.out _).mono ?_
  rintro e w2 ⟨rfl, hg⟩
  have HG2 := Lib.hid (gb_trans HG.out hg)
  clear hg
  go_wp2
  go_ret2
  exact ⟨rfl, HG2.out⟩
end Go.Proofs.YtbeaohnjifcgaaaDoor.Bh
