/-
  node: Bit, Flip, Prefix, Within, Next, Middle, Random, In as they are called, one theorem for each way. (made by mk_nu.py)
-/
import Derived.Test.YtaoanggiibgcdaaDoorNs
import Derived.Test.YtaoanggiibgcdaaDoorNt
namespace Go.Proofs.YtaoanggiibgcdaaDoor.Nq
open Go Go.RowKit Go.Shelf Go.Proofs.YtaoanggiibgcdaaDoor.Hz Go.Proofs.YtaoanggiibgcdaaDoor.Na Go.Proofs.YtaoanggiibgcdaaDoor.Nb Go.Proofs.YtaoanggiibgcdaaDoor.Nf
open Go.Proofs.YtaoanggiibgcdaaDoor.Nh (flp pan)

theorem enterWithin (args : Array Value) (w : World) : (callFunc 24 args).run Tryd.prog w = .ok (.enter 24 args) w := by kernel_rfl
theorem enterIn (args : Array Value) (w : World) : (callFunc 16 args).run Tryd.prog w = .ok (.enter 16 args) w := by kernel_rfl
theorem enterFlip0 (args : Array Value) (w : World) : (callFunc 29 args).run Tryd.prog w = .ok (.enter 29 args) w := by kernel_rfl
set_option maxRecDepth 100000 in
set_option maxHeartbeats 800000 in
theorem Flip_id (s : ByteArray) (i : Int) (w : World) (hv : vd s = false) : Calls Tryd.prog 12 #[.string s, .int .i64 i] w fun e w' => e = .returned (.tuple #[.string (⟨#[]⟩), .int .i64 1]) ∧ Below w.heap.size w w' := by
  have hmf : ∀ (fn : Fn) (first cap : Array Value) (w : World), (Instr.makeFunc fn first cap).run Tryd.prog w = .ok (.func fn first cap) w := fun _ _ _ _ => rfl
  have cs : (Nc.aw ((w.alloc (.cells #[.string s] 9)).alloc (.cells #[.int .i64 i] 3))).cell? ⟨w.heap.size, 0, none⟩ = some (.string s) := by simp [Nc.aw, go_sem]
  have ci : (Nc.aw ((w.alloc (.cells #[.string s] 9)).alloc (.cells #[.int .i64 i] 3))).cell? ⟨w.heap.size + 1, 0, none⟩ = some (.int .i64 i) := by simp [Nc.aw, go_sem]
  have HF := Lib.hid (Nc.attempt_err _ _ 1 _ enterFlip0 (FlipF_id (w.heap.size) (w.heap.size + 1) s i _ hv cs ci))
  clear cs ci
  go_enter Tryd.func12, Tryd.ntmps12
  go_wp2_with fail
  refine HF.out.mono ?_
  rintro e w1 ⟨rfl, hb1⟩
  go_wp2
  go_ret2
  exact ⟨rfl, below_alloc _ (below_alloc _ (hb1))⟩
set_option maxRecDepth 100000 in
set_option maxHeartbeats 800000 in
theorem Flip_low (s : ByteArray) (i : Int) (w : World) (hv : vd s = true) (hi : i < 0) : Calls Tryd.prog 12 #[.string s, .int .i64 i] w fun e w' => e = .returned (.tuple #[.string (⟨#[]⟩), .int .i64 7]) ∧ Below w.heap.size w w' := by
  have hmf : ∀ (fn : Fn) (first cap : Array Value) (w : World), (Instr.makeFunc fn first cap).run Tryd.prog w = .ok (.func fn first cap) w := fun _ _ _ _ => rfl
  have cs : (Nc.aw ((w.alloc (.cells #[.string s] 9)).alloc (.cells #[.int .i64 i] 3))).cell? ⟨w.heap.size, 0, none⟩ = some (.string s) := by simp [Nc.aw, go_sem]
  have ci : (Nc.aw ((w.alloc (.cells #[.string s] 9)).alloc (.cells #[.int .i64 i] 3))).cell? ⟨w.heap.size + 1, 0, none⟩ = some (.int .i64 i) := by simp [Nc.aw, go_sem]
  have HF := Lib.hid (Nc.attempt_err _ _ 7 _ enterFlip0 (FlipF_low (w.heap.size) (w.heap.size + 1) s i _ hv hi cs ci))
  clear cs ci
  go_enter Tryd.func12, Tryd.ntmps12
  go_wp2_with fail
  refine HF.out.mono ?_
  rintro e w1 ⟨rfl, hb1⟩
  go_wp2
  go_ret2
  exact ⟨rfl, below_alloc _ (below_alloc _ (hb1))⟩
set_option maxRecDepth 100000 in
set_option maxHeartbeats 800000 in
theorem Flip_high (s : ByteArray) (i : Int) (w : World) (hv : vd s = true) (hi0 : 0 ≤ i) (hi : 160 ≤ i) : Calls Tryd.prog 12 #[.string s, .int .i64 i] w fun e w' => e = .returned (.tuple #[.string (⟨#[]⟩), .int .i64 7]) ∧ Below w.heap.size w w' := by
  have hmf : ∀ (fn : Fn) (first cap : Array Value) (w : World), (Instr.makeFunc fn first cap).run Tryd.prog w = .ok (.func fn first cap) w := fun _ _ _ _ => rfl
  have cs : (Nc.aw ((w.alloc (.cells #[.string s] 9)).alloc (.cells #[.int .i64 i] 3))).cell? ⟨w.heap.size, 0, none⟩ = some (.string s) := by simp [Nc.aw, go_sem]
  have ci : (Nc.aw ((w.alloc (.cells #[.string s] 9)).alloc (.cells #[.int .i64 i] 3))).cell? ⟨w.heap.size + 1, 0, none⟩ = some (.int .i64 i) := by simp [Nc.aw, go_sem]
  have HF := Lib.hid (Nc.attempt_err _ _ 7 _ enterFlip0 (FlipF_high (w.heap.size) (w.heap.size + 1) s i _ hv hi0 hi cs ci))
  clear cs ci
  go_enter Tryd.func12, Tryd.ntmps12
  go_wp2_with fail
  refine HF.out.mono ?_
  rintro e w1 ⟨rfl, hb1⟩
  go_wp2
  go_ret2
  exact ⟨rfl, below_alloc _ (below_alloc _ (hb1))⟩
set_option maxRecDepth 100000 in
set_option maxHeartbeats 800000 in
theorem Within_id (a : ByteArray) (b : ByteArray) (n : Int) (w : World) (hv : (vd a && vd b) = false) : Calls Tryd.prog 8 #[.string a, .string b, .int .i64 n] w fun e w' => e = .returned (.tuple #[.bool (false), .int .i64 1]) ∧ Below w.heap.size w w' := by
  have hmf : ∀ (fn : Fn) (first cap : Array Value) (w : World), (Instr.makeFunc fn first cap).run Tryd.prog w = .ok (.func fn first cap) w := fun _ _ _ _ => rfl
  have ca : (Ne.aw (((w.alloc (.cells #[.string a] 9)).alloc (.cells #[.string b] 9)).alloc (.cells #[.int .i64 n] 3))).cell? ⟨w.heap.size, 0, none⟩ = some (.string a) := by simp [Ne.aw, go_sem]
  have cb : (Ne.aw (((w.alloc (.cells #[.string a] 9)).alloc (.cells #[.string b] 9)).alloc (.cells #[.int .i64 n] 3))).cell? ⟨w.heap.size + 1, 0, none⟩ = some (.string b) := by simp [Ne.aw, go_sem]
  have cn : (Ne.aw (((w.alloc (.cells #[.string a] 9)).alloc (.cells #[.string b] 9)).alloc (.cells #[.int .i64 n] 3))).cell? ⟨w.heap.size + 1 + 1, 0, none⟩ = some (.int .i64 n) := by simp [Ne.aw, go_sem]
  have HF := Lib.hid (Ne.attempt_err _ _ 1 _ enterWithin (WithinF_id (w.heap.size) (w.heap.size + 1) (w.heap.size + 1 + 1) a b n _ hv ca cb cn))
  clear ca cb cn
  go_enter Tryd.func8, Tryd.ntmps8
  go_wp2_with fail
  refine HF.out.mono ?_
  rintro e w1 ⟨rfl, hb1⟩
  go_wp2
  go_ret2
  exact ⟨rfl, below_alloc _ (below_alloc _ (below_alloc _ (hb1)))⟩
set_option maxRecDepth 100000 in
set_option maxHeartbeats 800000 in
theorem Within_no (a : ByteArray) (b : ByteArray) (n : Int) (w : World) (hv : (vd a && vd b) = true) (hn : n < 0 ∨ 160 < n) : Calls Tryd.prog 8 #[.string a, .string b, .int .i64 n] w fun e w' => e = .returned (.tuple #[.bool (false), .int .i64 7]) ∧ Below w.heap.size w w' := by
  have hmf : ∀ (fn : Fn) (first cap : Array Value) (w : World), (Instr.makeFunc fn first cap).run Tryd.prog w = .ok (.func fn first cap) w := fun _ _ _ _ => rfl
  have ca : (Ne.aw (((w.alloc (.cells #[.string a] 9)).alloc (.cells #[.string b] 9)).alloc (.cells #[.int .i64 n] 3))).cell? ⟨w.heap.size, 0, none⟩ = some (.string a) := by simp [Ne.aw, go_sem]
  have cb : (Ne.aw (((w.alloc (.cells #[.string a] 9)).alloc (.cells #[.string b] 9)).alloc (.cells #[.int .i64 n] 3))).cell? ⟨w.heap.size + 1, 0, none⟩ = some (.string b) := by simp [Ne.aw, go_sem]
  have cn : (Ne.aw (((w.alloc (.cells #[.string a] 9)).alloc (.cells #[.string b] 9)).alloc (.cells #[.int .i64 n] 3))).cell? ⟨w.heap.size + 1 + 1, 0, none⟩ = some (.int .i64 n) := by simp [Ne.aw, go_sem]
  have HF := Lib.hid (Ne.attempt_err _ _ 7 _ enterWithin (WithinF_no (w.heap.size) (w.heap.size + 1) (w.heap.size + 1 + 1) a b n _ hv hn ca cb cn))
  clear ca cb cn
  go_enter Tryd.func8, Tryd.ntmps8
  go_wp2_with fail
  refine HF.out.mono ?_
  rintro e w1 ⟨rfl, hb1⟩
  go_wp2
  go_ret2
  exact ⟨rfl, below_alloc _ (below_alloc _ (below_alloc _ (hb1)))⟩
set_option maxRecDepth 100000 in
set_option maxHeartbeats 800000 in
theorem Within_yes (a : ByteArray) (b : ByteArray) (n : Nat) (w : World) (hv : (vd a && vd b) = true) (hn : n ≤ 160) : Calls Tryd.prog 8 #[.string a, .string b, .int .i64 (n : Int)] w fun e w' => e = .returned (.tuple #[.bool (decide (n ≤ cmn a b)), .int .i64 0]) ∧ Below w.heap.size w w' := by
  have hmf : ∀ (fn : Fn) (first cap : Array Value) (w : World), (Instr.makeFunc fn first cap).run Tryd.prog w = .ok (.func fn first cap) w := fun _ _ _ _ => rfl
  have ca : (Ne.aw (((w.alloc (.cells #[.string a] 9)).alloc (.cells #[.string b] 9)).alloc (.cells #[.int .i64 (n : Int)] 3))).cell? ⟨w.heap.size, 0, none⟩ = some (.string a) := by simp [Ne.aw, go_sem]
  have cb : (Ne.aw (((w.alloc (.cells #[.string a] 9)).alloc (.cells #[.string b] 9)).alloc (.cells #[.int .i64 (n : Int)] 3))).cell? ⟨w.heap.size + 1, 0, none⟩ = some (.string b) := by simp [Ne.aw, go_sem]
  have cn : (Ne.aw (((w.alloc (.cells #[.string a] 9)).alloc (.cells #[.string b] 9)).alloc (.cells #[.int .i64 (n : Int)] 3))).cell? ⟨w.heap.size + 1 + 1, 0, none⟩ = some (.int .i64 (n : Int)) := by simp [Ne.aw, go_sem]
  have HF := Lib.hid (Ne.attempt_ret _ _ _ _ enterWithin (WithinF_yes (w.heap.size) (w.heap.size + 1) (w.heap.size + 1 + 1) a b n _ hv hn ca cb cn))
  clear ca cb cn
  obtain ⟨x, hx⟩ : ∃ x, decide (n ≤ cmn a b) = x := ⟨_, rfl⟩
  rw [hx] at HF ⊢
  clear hx
  go_enter Tryd.func8, Tryd.ntmps8
  go_wp2_with fail
  refine HF.out.mono ?_
  rintro e w1 ⟨rfl, hb1⟩
  go_wp2
  go_ret2
  exact ⟨rfl, below_alloc _ (below_alloc _ (below_alloc _ (hb1)))⟩
set_option maxRecDepth 100000 in
set_option maxHeartbeats 800000 in
theorem In_id (a : ByteArray) (n : Int) (s : ByteArray) (k : Int) (w : World) (hv : vd a = false) : Calls Tryd.prog 7 #[.string a, .int .i64 n, .string s, .int .i64 k] w fun e w' => e = .returned (.tuple #[.string (⟨#[]⟩), .int .i64 1]) ∧ Below w.heap.size w w' := by
  have hmf : ∀ (fn : Fn) (first cap : Array Value) (w : World), (Instr.makeFunc fn first cap).run Tryd.prog w = .ok (.func fn first cap) w := fun _ _ _ _ => rfl
  have ca : (Nc.aw ((((w.alloc (.cells #[.string a] 9)).alloc (.cells #[.int .i64 n] 3)).alloc (.cells #[.string s] 9)).alloc (.cells #[.int .i64 k] 3))).cell? ⟨w.heap.size, 0, none⟩ = some (.string a) := by simp [Nc.aw, go_sem]
  have cn : (Nc.aw ((((w.alloc (.cells #[.string a] 9)).alloc (.cells #[.int .i64 n] 3)).alloc (.cells #[.string s] 9)).alloc (.cells #[.int .i64 k] 3))).cell? ⟨w.heap.size + 1, 0, none⟩ = some (.int .i64 n) := by simp [Nc.aw, go_sem]
  have cs : (Nc.aw ((((w.alloc (.cells #[.string a] 9)).alloc (.cells #[.int .i64 n] 3)).alloc (.cells #[.string s] 9)).alloc (.cells #[.int .i64 k] 3))).cell? ⟨w.heap.size + 1 + 1, 0, none⟩ = some (.string s) := by simp [Nc.aw, go_sem]
  have ck : (Nc.aw ((((w.alloc (.cells #[.string a] 9)).alloc (.cells #[.int .i64 n] 3)).alloc (.cells #[.string s] 9)).alloc (.cells #[.int .i64 k] 3))).cell? ⟨w.heap.size + 1 + 1 + 1, 0, none⟩ = some (.int .i64 k) := by simp [Nc.aw, go_sem]
  have HF := Lib.hid (Nc.attempt_err _ _ 1 _ enterIn (InF_id (w.heap.size) (w.heap.size + 1 + 1) (w.heap.size + 1) (w.heap.size + 1 + 1 + 1) a s n k _ hv ca cs cn ck))
  clear ca cn cs ck
  go_enter Tryd.func7, Tryd.ntmps7
  go_wp2_with fail
  refine HF.out.mono ?_
  rintro e w1 ⟨rfl, hb1⟩
  go_wp2
  go_ret2
  exact ⟨rfl, below_alloc _ (below_alloc _ (below_alloc _ (below_alloc _ (hb1))))⟩
set_option maxRecDepth 100000 in
set_option maxHeartbeats 800000 in
theorem In_seed (a : ByteArray) (n : Int) (s : ByteArray) (k : Int) (w : World) (hv : vd a = true) (hs : 100 < s.size) : Calls Tryd.prog 7 #[.string a, .int .i64 n, .string s, .int .i64 k] w fun e w' => e = .returned (.tuple #[.string (⟨#[]⟩), .int .i64 1]) ∧ Below w.heap.size w w' := by
  have hmf : ∀ (fn : Fn) (first cap : Array Value) (w : World), (Instr.makeFunc fn first cap).run Tryd.prog w = .ok (.func fn first cap) w := fun _ _ _ _ => rfl
  have ca : (Nc.aw ((((w.alloc (.cells #[.string a] 9)).alloc (.cells #[.int .i64 n] 3)).alloc (.cells #[.string s] 9)).alloc (.cells #[.int .i64 k] 3))).cell? ⟨w.heap.size, 0, none⟩ = some (.string a) := by simp [Nc.aw, go_sem]
  have cn : (Nc.aw ((((w.alloc (.cells #[.string a] 9)).alloc (.cells #[.int .i64 n] 3)).alloc (.cells #[.string s] 9)).alloc (.cells #[.int .i64 k] 3))).cell? ⟨w.heap.size + 1, 0, none⟩ = some (.int .i64 n) := by simp [Nc.aw, go_sem]
  have cs : (Nc.aw ((((w.alloc (.cells #[.string a] 9)).alloc (.cells #[.int .i64 n] 3)).alloc (.cells #[.string s] 9)).alloc (.cells #[.int .i64 k] 3))).cell? ⟨w.heap.size + 1 + 1, 0, none⟩ = some (.string s) := by simp [Nc.aw, go_sem]
  have ck : (Nc.aw ((((w.alloc (.cells #[.string a] 9)).alloc (.cells #[.int .i64 n] 3)).alloc (.cells #[.string s] 9)).alloc (.cells #[.int .i64 k] 3))).cell? ⟨w.heap.size + 1 + 1 + 1, 0, none⟩ = some (.int .i64 k) := by simp [Nc.aw, go_sem]
  have HF := Lib.hid (Nc.attempt_err _ _ 1 _ enterIn (InF_seed (w.heap.size) (w.heap.size + 1 + 1) (w.heap.size + 1) (w.heap.size + 1 + 1 + 1) a s n k _ hv hs ca cs cn ck))
  clear ca cn cs ck
  go_enter Tryd.func7, Tryd.ntmps7
  go_wp2_with fail
  refine HF.out.mono ?_
  rintro e w1 ⟨rfl, hb1⟩
  go_wp2
  go_ret2
  exact ⟨rfl, below_alloc _ (below_alloc _ (below_alloc _ (below_alloc _ (hb1))))⟩
set_option maxRecDepth 100000 in
set_option maxHeartbeats 800000 in
theorem In_bits (a : ByteArray) (n : Int) (s : ByteArray) (k : Int) (w : World) (hv : vd a = true) (hs : s.size ≤ 100) (hn : n < 0 ∨ 160 < n) : Calls Tryd.prog 7 #[.string a, .int .i64 n, .string s, .int .i64 k] w fun e w' => e = .returned (.tuple #[.string (⟨#[]⟩), .int .i64 7]) ∧ Below w.heap.size w w' := by
  have hmf : ∀ (fn : Fn) (first cap : Array Value) (w : World), (Instr.makeFunc fn first cap).run Tryd.prog w = .ok (.func fn first cap) w := fun _ _ _ _ => rfl
  have ca : (Nc.aw ((((w.alloc (.cells #[.string a] 9)).alloc (.cells #[.int .i64 n] 3)).alloc (.cells #[.string s] 9)).alloc (.cells #[.int .i64 k] 3))).cell? ⟨w.heap.size, 0, none⟩ = some (.string a) := by simp [Nc.aw, go_sem]
  have cn : (Nc.aw ((((w.alloc (.cells #[.string a] 9)).alloc (.cells #[.int .i64 n] 3)).alloc (.cells #[.string s] 9)).alloc (.cells #[.int .i64 k] 3))).cell? ⟨w.heap.size + 1, 0, none⟩ = some (.int .i64 n) := by simp [Nc.aw, go_sem]
  have cs : (Nc.aw ((((w.alloc (.cells #[.string a] 9)).alloc (.cells #[.int .i64 n] 3)).alloc (.cells #[.string s] 9)).alloc (.cells #[.int .i64 k] 3))).cell? ⟨w.heap.size + 1 + 1, 0, none⟩ = some (.string s) := by simp [Nc.aw, go_sem]
  have ck : (Nc.aw ((((w.alloc (.cells #[.string a] 9)).alloc (.cells #[.int .i64 n] 3)).alloc (.cells #[.string s] 9)).alloc (.cells #[.int .i64 k] 3))).cell? ⟨w.heap.size + 1 + 1 + 1, 0, none⟩ = some (.int .i64 k) := by simp [Nc.aw, go_sem]
  have HF := Lib.hid (Nc.attempt_err _ _ 7 _ enterIn (InF_bits (w.heap.size) (w.heap.size + 1 + 1) (w.heap.size + 1) (w.heap.size + 1 + 1 + 1) a s n k _ hv hs hn ca cs cn ck))
  clear ca cn cs ck
  go_enter Tryd.func7, Tryd.ntmps7
  go_wp2_with fail
  refine HF.out.mono ?_
  rintro e w1 ⟨rfl, hb1⟩
  go_wp2
  go_ret2
  exact ⟨rfl, below_alloc _ (below_alloc _ (below_alloc _ (below_alloc _ (hb1))))⟩
set_option maxRecDepth 100000 in
set_option maxHeartbeats 800000 in
theorem In_no (a : ByteArray) (n : Int) (s : ByteArray) (k : Int) (w : World) (hv : vd a = true) (hs : s.size ≤ 100) (hn0 : 0 ≤ n) (hn1 : n ≤ 160) (hk : k < 0) : Calls Tryd.prog 7 #[.string a, .int .i64 n, .string s, .int .i64 k] w fun e w' => e = .returned (.tuple #[.string (⟨#[]⟩), .int .i64 7]) ∧ Below w.heap.size w w' := by
  have hmf : ∀ (fn : Fn) (first cap : Array Value) (w : World), (Instr.makeFunc fn first cap).run Tryd.prog w = .ok (.func fn first cap) w := fun _ _ _ _ => rfl
  have ca : (Nc.aw ((((w.alloc (.cells #[.string a] 9)).alloc (.cells #[.int .i64 n] 3)).alloc (.cells #[.string s] 9)).alloc (.cells #[.int .i64 k] 3))).cell? ⟨w.heap.size, 0, none⟩ = some (.string a) := by simp [Nc.aw, go_sem]
  have cn : (Nc.aw ((((w.alloc (.cells #[.string a] 9)).alloc (.cells #[.int .i64 n] 3)).alloc (.cells #[.string s] 9)).alloc (.cells #[.int .i64 k] 3))).cell? ⟨w.heap.size + 1, 0, none⟩ = some (.int .i64 n) := by simp [Nc.aw, go_sem]
  have cs : (Nc.aw ((((w.alloc (.cells #[.string a] 9)).alloc (.cells #[.int .i64 n] 3)).alloc (.cells #[.string s] 9)).alloc (.cells #[.int .i64 k] 3))).cell? ⟨w.heap.size + 1 + 1, 0, none⟩ = some (.string s) := by simp [Nc.aw, go_sem]
  have ck : (Nc.aw ((((w.alloc (.cells #[.string a] 9)).alloc (.cells #[.int .i64 n] 3)).alloc (.cells #[.string s] 9)).alloc (.cells #[.int .i64 k] 3))).cell? ⟨w.heap.size + 1 + 1 + 1, 0, none⟩ = some (.int .i64 k) := by simp [Nc.aw, go_sem]
  have HF := Lib.hid (Nc.attempt_err _ _ 7 _ enterIn (InF_no (w.heap.size) (w.heap.size + 1 + 1) (w.heap.size + 1) (w.heap.size + 1 + 1 + 1) a s n k _ hv hs hn0 hn1 hk ca cs cn ck))
  clear ca cn cs ck
  go_enter Tryd.func7, Tryd.ntmps7
  go_wp2_with fail
  refine HF.out.mono ?_
  rintro e w1 ⟨rfl, hb1⟩
  go_wp2
  go_ret2
  exact ⟨rfl, below_alloc _ (below_alloc _ (below_alloc _ (below_alloc _ (hb1))))⟩
set_option maxRecDepth 100000 in
set_option maxHeartbeats 800000 in
theorem In_yes (a : ByteArray) (n : Nat) (s : ByteArray) (k : Nat) (w : World) (hv : vd a = true) (hs : s.size ≤ 100) (hn : n ≤ 160) (hk : k ≤ 9223372036854775807) (ht : Hh.Tab w) : Calls Tryd.prog 7 #[.string a, .int .i64 (n : Int), .string s, .int .i64 (k : Int)] w fun e w' => e = .returned (.tuple #[.string (hd a (rnd s k) n), .int .i64 0]) ∧ Below w.heap.size w w' := by
  have hmf : ∀ (fn : Fn) (first cap : Array Value) (w : World), (Instr.makeFunc fn first cap).run Tryd.prog w = .ok (.func fn first cap) w := fun _ _ _ _ => rfl
  have ca : (Nc.aw ((((w.alloc (.cells #[.string a] 9)).alloc (.cells #[.int .i64 (n : Int)] 3)).alloc (.cells #[.string s] 9)).alloc (.cells #[.int .i64 (k : Int)] 3))).cell? ⟨w.heap.size, 0, none⟩ = some (.string a) := by simp [Nc.aw, go_sem]
  have cn : (Nc.aw ((((w.alloc (.cells #[.string a] 9)).alloc (.cells #[.int .i64 (n : Int)] 3)).alloc (.cells #[.string s] 9)).alloc (.cells #[.int .i64 (k : Int)] 3))).cell? ⟨w.heap.size + 1, 0, none⟩ = some (.int .i64 (n : Int)) := by simp [Nc.aw, go_sem]
  have cs : (Nc.aw ((((w.alloc (.cells #[.string a] 9)).alloc (.cells #[.int .i64 (n : Int)] 3)).alloc (.cells #[.string s] 9)).alloc (.cells #[.int .i64 (k : Int)] 3))).cell? ⟨w.heap.size + 1 + 1, 0, none⟩ = some (.string s) := by simp [Nc.aw, go_sem]
  have ck : (Nc.aw ((((w.alloc (.cells #[.string a] 9)).alloc (.cells #[.int .i64 (n : Int)] 3)).alloc (.cells #[.string s] 9)).alloc (.cells #[.int .i64 (k : Int)] 3))).cell? ⟨w.heap.size + 1 + 1 + 1, 0, none⟩ = some (.int .i64 (k : Int)) := by simp [Nc.aw, go_sem]
  have ht2 : Hh.Tab (Nc.aw ((((w.alloc (.cells #[.string a] 9)).alloc (.cells #[.int .i64 (n : Int)] 3)).alloc (.cells #[.string s] 9)).alloc (.cells #[.int .i64 (k : Int)] 3))) := ht.below (by unfold Nc.aw; exact blw_alloc (blw_alloc (blw_alloc (blw_alloc (blw_alloc (blw_alloc (Below.refl _ _)))))))
  have HF := Lib.hid (Nc.attempt_ret _ _ _ _ enterIn (InF_yes (w.heap.size) (w.heap.size + 1 + 1) (w.heap.size + 1) (w.heap.size + 1 + 1 + 1) a s n k _ hv hs hn hk ht2 ca cs cn ck))
  clear ca cn cs ck ht2
  obtain ⟨x, hx⟩ : ∃ x, hd a (rnd s k) n = x := ⟨_, rfl⟩
  rw [hx] at HF ⊢
  clear hx
  go_enter Tryd.func7, Tryd.ntmps7
  go_wp2_with fail
  refine HF.out.mono ?_
  rintro e w1 ⟨rfl, hb1⟩
  go_wp2
  go_ret2
  exact ⟨rfl, below_alloc _ (below_alloc _ (below_alloc _ (below_alloc _ (hb1))))⟩
end Go.Proofs.YtaoanggiibgcdaaDoor.Nq
