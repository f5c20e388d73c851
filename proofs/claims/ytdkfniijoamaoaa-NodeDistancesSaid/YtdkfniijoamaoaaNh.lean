/-
  node: Distance, Nearer, Common, Flip as they are called.
-/
import Derived.Test.YtdkfniijoamaoaaNg
import Derived.Test.YtdkfniijoamaoaaNd
import Derived.Test.YtdkfniijoamaoaaNe
import Derived.Test.YtdkfniijoamaoaaHg
import Derived.RegionTactic
import Derived.BigRegion
import Derived.Deep.RegionHeld3
namespace Go.Proofs.Ytdkfniijoamaoaa.Nh
open Go Go.RowKit Go.Proofs.Ytdkfniijoamaoaa.Hz Go.Proofs.Ytdkfniijoamaoaa.Na Go.Proofs.Ytdkfniijoamaoaa.Nb Go.Proofs.Ytdkfniijoamaoaa.Nf Go.Proofs.Ytdkfniijoamaoaa.Ng

theorem kd {w w2 : World} {o : Obj} {b i : Nat} {v : Value} (hb : Below (w.alloc o).drew.heap.size (w.alloc o).drew w2) (h : w.cell? ⟨b, i, none⟩ = some v) : w2.cell? ⟨b, i, none⟩ = some v :=
  kcell (W := (w.alloc o).drew) hb (show (w.alloc o).cell? ⟨b, i, none⟩ = some v from acell o h)
theorem pan (e : Ending) (w w' w0 : World) (h : Pan e w w') (hb : Below w0.heap.size w0 w) : e = .panicked [{ v := .iface 23 (.int .i64 1), recovered := false }] ∧ Below w0.heap.size w0 w' := by
  obtain ⟨rfl, rfl⟩ := h; exact ⟨rfl, hb⟩

set_option maxHeartbeats 800000 in
theorem DistanceF_yes (pa pb : Nat) (a b : ByteArray) (w : World) (h : (vd a && vd b) = true) (ca : w.cell? ⟨pa, 0, none⟩ = some (.string a)) (cb : w.cell? ⟨pb, 0, none⟩ = some (.string b)) :
    Calls Try.prog 46 #[.pointer (some ⟨pa, 0, none⟩), .pointer (some ⟨pb, 0, none⟩)] w fun e W' => e = .returned (.string (ds a b)) ∧ Below w.heap.size w W' := by
  have HAsk := Lib.hid (ask2_yes a b 9 w h)
  have HD := Lib.hid (fun w => distance_any a b w (vd_yes (by simp at h; exact h.1)) (vd_yes (by simp at h; exact h.2)))
  clear h
  have la : pa < w.heap.size := World.block_lt_of_cell? w _ ca
  have lb : pb < w.heap.size := World.block_lt_of_cell? w _ cb
  go_enter Try.func46, Try.ntmps46
  go_wp2_with fail
  refine HAsk.out.mono ?_
  rintro e w1 ⟨rfl, rfl⟩
  go_wp2_with fail
  refine (HD.out _).mono ?_
  rintro e w2 ⟨rfl, hb2⟩
  go_wp2
  go_ret
  exact ⟨rfl, below_alloc _ hb2⟩
set_option maxHeartbeats 800000 in
theorem DistanceF_no (pa pb : Nat) (a b : ByteArray) (w : World) (h : (vd a && vd b) = false) (ca : w.cell? ⟨pa, 0, none⟩ = some (.string a)) (cb : w.cell? ⟨pb, 0, none⟩ = some (.string b)) :
    Calls Try.prog 46 #[.pointer (some ⟨pa, 0, none⟩), .pointer (some ⟨pb, 0, none⟩)] w fun e W' => e = .panicked [{ v := .iface 23 (.int .i64 1), recovered := false }] ∧ Below w.heap.size w W' := by
  have HAsk := Lib.hid (ask2_no a b 9 w h)
  clear h
  go_enter Try.func46, Try.ntmps46
  go_wp2_with fail
  refine HAsk.out.mono ?_
  rintro e w1 ⟨rfl, rfl⟩
  exact ⟨rfl, rfl, (Below.refl _ _).alloc (Nat.le_refl _) _⟩
set_option maxHeartbeats 800000 in
theorem CommonF_no (pa pb : Nat) (a b : ByteArray) (w : World) (h : (vd a && vd b) = false) (ca : w.cell? ⟨pa, 0, none⟩ = some (.string a)) (cb : w.cell? ⟨pb, 0, none⟩ = some (.string b)) :
    Calls Try.prog 56 #[.pointer (some ⟨pa, 0, none⟩), .pointer (some ⟨pb, 0, none⟩)] w fun e W' => e = .panicked [{ v := .iface 23 (.int .i64 1), recovered := false }] ∧ Below w.heap.size w W' := by
  have hak := ask2_no a b 9 (w.alloc (.cells #[.int .i64 0] 3)) h
  rw [World.size_alloc] at hak
  have HAsk := Lib.hid hak
  clear h hak
  have la : pa < w.heap.size := World.block_lt_of_cell? w _ ca
  have lb : pb < w.heap.size := World.block_lt_of_cell? w _ cb
  go_enter Try.func56, Try.ntmps56
  go_wp2_with fail
  refine HAsk.out.mono ?_
  rintro e w1 ⟨rfl, rfl⟩
  exact ⟨rfl, rfl, ((Below.refl _ _).alloc (Nat.le_refl _) _).alloc (by simp) _⟩
set_option maxHeartbeats 400000 in
theorem NearerF_yes (pt pa pb : Nat) (t a b : ByteArray) (w : World) (h : (vd t && vd a && vd b) = true) (ct : w.cell? ⟨pt, 0, none⟩ = some (.string t)) (ca : w.cell? ⟨pa, 0, none⟩ = some (.string a)) (cb : w.cell? ⟨pb, 0, none⟩ = some (.string b)) :
    Calls Try.prog 54 #[.pointer (some ⟨pt, 0, none⟩), .pointer (some ⟨pa, 0, none⟩), .pointer (some ⟨pb, 0, none⟩)] w fun e W' => e = .returned (.bool (nr t a b)) ∧ Below w.heap.size w W' := by
  have HAsk := Lib.hid (ask3_yes t a b 9 w h)
  rw [Bool.and_eq_true, Bool.and_eq_true] at h
  have HD1 := Lib.hid (fun w => distance_any t a w (vd_yes h.1.1) (vd_yes h.1.2))
  have HD2 := Lib.hid (fun w => distance_any t b w (vd_yes h.1.1) (vd_yes h.2))
  have hl := less_ds t a b (vd_yes h.1.2) (vd_yes h.2)
  clear h
  have lt : pt < w.heap.size := World.block_lt_of_cell? w _ ct
  have la : pa < w.heap.size := World.block_lt_of_cell? w _ ca
  have lb : pb < w.heap.size := World.block_lt_of_cell? w _ cb
  obtain ⟨x, hx⟩ : ∃ x, ds t a = x := ⟨_, rfl⟩
  obtain ⟨y, hy⟩ : ∃ y, ds t b = y := ⟨_, rfl⟩
  obtain ⟨z, hz⟩ : ∃ z, nr t a b = z := ⟨_, rfl⟩
  simp only [hx] at HD1 hl
  simp only [hy] at HD2 hl
  rw [hz] at hl ⊢
  have HL := Lib.hid hl
  clear hx hy hz hl
  go_enter Try.func54, Try.ntmps54
  go_wp2_with fail
  refine HAsk.out.mono ?_
  rintro e w1 ⟨rfl, rfl⟩
  go_wp2_with fail
  have hS0 : (w.alloc (.cells #[.string t, .string a, .string b] 9)).drew.cell? ⟨pt, 0, none⟩ = some (.string t) ∧ (w.alloc (.cells #[.string t, .string a, .string b] 9)).drew.cell? ⟨pa, 0, none⟩ = some (.string a) ∧ (w.alloc (.cells #[.string t, .string a, .string b] 9)).drew.cell? ⟨pb, 0, none⟩ = some (.string b) ∧ Below w.heap.size w (w.alloc (.cells #[.string t, .string a, .string b] 9)).drew :=
    ⟨acell _ ct, acell _ ca, acell _ cb, ((Below.refl _ _).alloc (Nat.le_refl _) _).drew⟩
  go_region_held3 (fun w' => w'.cell? ⟨pt, 0, none⟩ = some (.string t) ∧ w'.cell? ⟨pa, 0, none⟩ = some (.string a) ∧ w'.cell? ⟨pb, 0, none⟩ = some (.string b) ∧ Below w.heap.size w w')
    (first
      | exact hS0
      | (go_split_ands; exact ⟨kcell hbx (by assumption), kcell hbx (by assumption), kcell hbx (by assumption), blw (by assumption) hbx⟩))
    (first
      | (go_at_call_of 48 a; refine (HD1.out _).mono ?_; rintro e w2 ⟨rfl, hbx⟩)
      | (go_at_call_of 48 b; refine (HD2.out _).mono ?_; rintro e w2 ⟨rfl, hbx⟩))
  go_split_ands
  go_wp2_with fail
  rw [HL.out]
  go_ret
  exact ⟨rfl, by assumption⟩

set_option maxHeartbeats 800000 in
theorem NearerF_no (pt pa pb : Nat) (t a b : ByteArray) (w : World) (h : (vd t && vd a && vd b) = false) (ct : w.cell? ⟨pt, 0, none⟩ = some (.string t)) (ca : w.cell? ⟨pa, 0, none⟩ = some (.string a)) (cb : w.cell? ⟨pb, 0, none⟩ = some (.string b)) :
    Calls Try.prog 54 #[.pointer (some ⟨pt, 0, none⟩), .pointer (some ⟨pa, 0, none⟩), .pointer (some ⟨pb, 0, none⟩)] w fun e W' => e = .panicked [{ v := .iface 23 (.int .i64 1), recovered := false }] ∧ Below w.heap.size w W' := by
  have HAsk := Lib.hid (ask3_no t a b 9 w h)
  clear h
  go_enter Try.func54, Try.ntmps54
  go_wp2_with fail
  refine HAsk.out.mono ?_
  rintro e w1 ⟨rfl, rfl⟩
  exact ⟨rfl, rfl, (Below.refl _ _).alloc (Nat.le_refl _) _⟩

/-- what they answer -/
def dT (a b : ByteArray) : ByteArray := if (vd a && vd b) = true then ds a b else ⟨#[]⟩
def dE (a b : ByteArray) : Int := if (vd a && vd b) = true then 0 else 1
def cV (a b : ByteArray) : Int := if (vd a && vd b) = true then (cmn a b : Int) else 0
def nV (t a b : ByteArray) : Bool := if (vd t && vd a && vd b) = true then nr t a b else false
def nE (t a b : ByteArray) : Int := if (vd t && vd a && vd b) = true then 0 else 1

theorem enterDistance (args : Array Value) (w : World) : (callFunc 46 args).run Try.prog w = .ok (.enter 46 args) w := by kernel_rfl
theorem enterCommon (args : Array Value) (w : World) : (callFunc 56 args).run Try.prog w = .ok (.enter 56 args) w := by kernel_rfl
theorem enterNearer (args : Array Value) (w : World) : (callFunc 54 args).run Try.prog w = .ok (.enter 54 args) w := by kernel_rfl

set_option maxHeartbeats 800000 in
theorem Distance_any (a b : ByteArray) (w : World) : Calls Try.prog 17 #[.string a, .string b] w fun e w' => e = .returned (.tuple #[.string (dT a b), .int .i64 (dE a b)]) ∧ Below w.heap.size w w' := by
  have hmf : ∀ (fn : Fn) (first cap : Array Value) (w : World), (Instr.makeFunc fn first cap).run Try.prog w = .ok (.func fn first cap) w := fun _ _ _ _ => rfl
  have h1 : (Nc.aw ((w.alloc (.cells #[.string a] 9)).alloc (.cells #[.string b] 9))).cell? ⟨w.heap.size, 0, none⟩ = some (.string a) := by simp [Nc.aw, go_sem]
  have h2 : (Nc.aw ((w.alloc (.cells #[.string a] 9)).alloc (.cells #[.string b] 9))).cell? ⟨w.heap.size + 1, 0, none⟩ = some (.string b) := by simp [Nc.aw, go_sem]
  unfold dT dE
  cases hv : (vd a && vd b)
  · have HF := Lib.hid (Nc.attempt_err _ _ 1 _ enterDistance (DistanceF_no w.heap.size (w.heap.size + 1) a b _ hv h1 h2))
    clear hv h1 h2
    go_enter Try.func17, Try.ntmps17
    go_wp2_with fail
    refine HF.out.mono ?_
    rintro e w1 ⟨rfl, hb1⟩
    go_wp2
    go_ret2
    exact ⟨rfl, below_alloc _ (below_alloc _ hb1)⟩
  · have HF := Lib.hid (Nc.attempt_ret _ _ _ _ enterDistance (DistanceF_yes w.heap.size (w.heap.size + 1) a b _ hv h1 h2))
    clear hv h1 h2
    obtain ⟨x, hx⟩ : ∃ x, ds a b = x := ⟨_, rfl⟩
    rw [hx] at HF ⊢
    clear hx
    go_enter Try.func17, Try.ntmps17
    go_wp2_with fail
    refine HF.out.mono ?_
    rintro e w1 ⟨rfl, hb1⟩
    go_wp2
    go_ret2
    exact ⟨rfl, below_alloc _ (below_alloc _ hb1)⟩
set_option maxHeartbeats 800000 in
theorem Common_any (a b : ByteArray) (w : World) : Calls Try.prog 23 #[.string a, .string b] w fun e w' => e = .returned (.tuple #[.int .i64 (cV a b), .int .i64 (dE a b)]) ∧ Below w.heap.size w w' := by
  have hmf : ∀ (fn : Fn) (first cap : Array Value) (w : World), (Instr.makeFunc fn first cap).run Try.prog w = .ok (.func fn first cap) w := fun _ _ _ _ => rfl
  have h1 : (Nd.aw ((w.alloc (.cells #[.string a] 9)).alloc (.cells #[.string b] 9))).cell? ⟨w.heap.size, 0, none⟩ = some (.string a) := by simp [Nd.aw, go_sem]
  have h2 : (Nd.aw ((w.alloc (.cells #[.string a] 9)).alloc (.cells #[.string b] 9))).cell? ⟨w.heap.size + 1, 0, none⟩ = some (.string b) := by simp [Nd.aw, go_sem]
  unfold cV dE
  cases hv : (vd a && vd b)
  · have HF := Lib.hid (Nd.attempt_err _ _ 1 _ enterCommon (CommonF_no w.heap.size (w.heap.size + 1) a b _ hv h1 h2))
    clear hv h1 h2
    go_enter Try.func23, Try.ntmps23
    go_wp2_with fail
    refine HF.out.mono ?_
    rintro e w1 ⟨rfl, hb1⟩
    go_wp2
    go_ret2
    exact ⟨rfl, below_alloc _ (below_alloc _ hb1)⟩
  · have HF := Lib.hid (Nd.attempt_ret _ _ _ _ enterCommon (CommonF_yes w.heap.size (w.heap.size + 1) a b _ hv h1 h2))
    clear hv h1 h2
    obtain ⟨x, hx⟩ : ∃ x, cmn a b = x := ⟨_, rfl⟩
    rw [hx] at HF ⊢
    clear hx
    go_enter Try.func23, Try.ntmps23
    go_wp2_with fail
    refine HF.out.mono ?_
    rintro e w1 ⟨rfl, hb1⟩
    go_wp2
    go_ret2
    exact ⟨rfl, below_alloc _ (below_alloc _ hb1)⟩
set_option maxHeartbeats 800000 in
theorem Nearer_any (t a b : ByteArray) (w : World) : Calls Try.prog 22 #[.string t, .string a, .string b] w fun e w' => e = .returned (.tuple #[.bool (nV t a b), .int .i64 (nE t a b)]) ∧ Below w.heap.size w w' := by
  have hmf : ∀ (fn : Fn) (first cap : Array Value) (w : World), (Instr.makeFunc fn first cap).run Try.prog w = .ok (.func fn first cap) w := fun _ _ _ _ => rfl
  have h1 : (Ne.aw (((w.alloc (.cells #[.string t] 9)).alloc (.cells #[.string a] 9)).alloc (.cells #[.string b] 9))).cell? ⟨w.heap.size, 0, none⟩ = some (.string t) := by simp [Ne.aw, go_sem]
  have h2 : (Ne.aw (((w.alloc (.cells #[.string t] 9)).alloc (.cells #[.string a] 9)).alloc (.cells #[.string b] 9))).cell? ⟨w.heap.size + 1, 0, none⟩ = some (.string a) := by simp [Ne.aw, go_sem]
  have h3 : (Ne.aw (((w.alloc (.cells #[.string t] 9)).alloc (.cells #[.string a] 9)).alloc (.cells #[.string b] 9))).cell? ⟨w.heap.size + 1 + 1, 0, none⟩ = some (.string b) := by simp [Ne.aw, go_sem]
  unfold nV nE
  cases hv : (vd t && vd a && vd b)
  · have HF := Lib.hid (Ne.attempt_err _ _ 1 _ enterNearer (NearerF_no w.heap.size (w.heap.size + 1) (w.heap.size + 1 + 1) t a b _ hv h1 h2 h3))
    clear hv h1 h2 h3
    go_enter Try.func22, Try.ntmps22
    go_wp2_with fail
    refine HF.out.mono ?_
    rintro e w1 ⟨rfl, hb1⟩
    go_wp2
    go_ret2
    exact ⟨rfl, below_alloc _ (below_alloc _ (below_alloc _ hb1))⟩
  · have HF := Lib.hid (Ne.attempt_ret _ _ _ _ enterNearer (NearerF_yes w.heap.size (w.heap.size + 1) (w.heap.size + 1 + 1) t a b _ hv h1 h2 h3))
    clear hv h1 h2 h3
    obtain ⟨x, hx⟩ : ∃ x, nr t a b = x := ⟨_, rfl⟩
    rw [hx] at HF ⊢
    clear hx
    go_enter Try.func22, Try.ntmps22
    go_wp2_with fail
    refine HF.out.mono ?_
    rintro e w1 ⟨rfl, hb1⟩
    go_wp2
    go_ret2
    exact ⟨rfl, below_alloc _ (below_alloc _ (below_alloc _ hb1))⟩
end Go.Proofs.Ytdkfniijoamaoaa.Nh
