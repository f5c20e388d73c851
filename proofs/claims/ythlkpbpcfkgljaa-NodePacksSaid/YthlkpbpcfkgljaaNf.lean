/-
  node: what asks, and the distance.
-/
import Derived.Test.YthlkpbpcfkgljaaNb
import Derived.Test.YthlkpbpcfkgljaaNc
import Derived.Deep.QuietTactic
import Derived.BigQuiet
import Derived.StillTailTactics
namespace Go.Proofs.Ythlkpbpcfkgljaa.Nf
open Go Go.RowKit Go.Proofs.Ythlkpbpcfkgljaa.Hz Go.Proofs.Ythlkpbpcfkgljaa.Na Go.Proofs.Ythlkpbpcfkgljaa.Nb

theorem xor8 (a b : Nat) (ha : a < 256) (hb : b < 256) : bits .xor .u8 (a : Int) (b : Int) = ((a ^^^ b : Nat) : Int) := by
  have h1 : (BitVec.ofInt 8 (a : Int)).toNat = a := by rw [BitVec.ofInt_natCast, BitVec.toNat_ofNat]; exact Nat.mod_eq_of_lt ha
  have h2 : (BitVec.ofInt 8 (b : Int)).toNat = b := by rw [BitVec.ofInt_natCast, BitVec.toNat_ofNat]; exact Nat.mod_eq_of_lt hb
  show IntKind.u8.wrap ((BitVec.ofInt 8 (a : Int) ^^^ BitVec.ofInt 8 (b : Int)).toNat : Int) = _
  rw [BitVec.toNat_xor, h1, h2, IntKind.wrap_u8]
  have := xor_lt a b ha hb
  omega

/-- texts that lie in a block -/
def Ids (w : World) (g : Nat) (l : List ByteArray) : Prop := ∀ i, i < l.length → w.cell? ⟨g, i, none⟩ = some (.string (l.getD i ⟨#[]⟩))

set_option maxRecDepth 100000 in
set_option maxHeartbeats 400000 in
theorem Valid_yes (s : ByteArray) (w : World) (h : s.size = 20) : Calls Try.prog 52 #[.string s] w fun e w' => e = .returned (.bool true) ∧ w = w' := by
  have h1 : (20 : Int) ≤ (s.size : Int) := by omega
  have h2 : (s.size : Int) ≤ 20 := by omega
  have HH := Lib.hid h
  clear h
  go_enter Try.func52, Try.ntmps52
  go_wp2
  go_ret
  refine ⟨?_, rfl⟩
  have := HH.out
  simp [this]
set_option maxRecDepth 100000 in
set_option maxHeartbeats 400000 in
theorem Valid_no (s : ByteArray) (w : World) (h : s.size ≠ 20) : Calls Try.prog 52 #[.string s] w fun e w' => e = .returned (.bool false) ∧ w = w' := by
  have HH := Lib.hid h
  clear h
  go_enter Try.func52, Try.ntmps52
  go_wp2
  go_ret
  refine ⟨?_, rfl⟩
  have := HH.out
  have h' : ¬ ((s.size : Int) = 20) := by omega
  simp [h']

set_option maxRecDepth 100000 in
set_option maxHeartbeats 800000 in
theorem ask_yes (g n : Nat) (l : List ByteArray) (w : World) (hn : l.length = n) (hn3 : n ≤ 3) (hI : Ids w g l) (h : ∀ i, i < n → (l.getD i ⟨#[]⟩).size = 20) :
    Calls Try.prog 28 #[.slice (some ⟨g, 0, none⟩) n n] w fun e w' => e = .returned (.tuple #[]) ∧ w = w' := by
  have HI := Lib.hid hI
  have HV := Lib.hid h
  have HN := Lib.hid hn
  clear hI h hn
  go_enter Try.func28, Try.ntmps28
  go_wp2_with fail
  go_loop [3, 6, 8, 9, 10, 11, 12, 13, 14, 7] (fun _ i _ _ _ _ _ _ _ _ => ∃ k : Nat, k ≤ n ∧ i = .int .i64 k) (fun _ i _ _ _ _ _ _ _ _ => n - (intOf i).toNat)
  case atStart => exact ⟨0, Nat.zero_le _, rfl⟩
  case round =>
    obtain ⟨k, hk, rfl⟩ := hrel
    by_cases hlt : k < n
    · have hc := HI.out k (by rw [HN.out]; exact hlt)
      have hv := Valid_yes _ w (HV.out k hlt)
      obtain ⟨x, hx⟩ : ∃ x, l.getD k ⟨#[]⟩ = x := ⟨_, rfl⟩
      rw [hx] at hc hv
      have HX := Lib.hid hv
      clear hx hv
      go_wp2_with fail
      refine HX.out.mono ?_
      rintro e w1 ⟨rfl, rfl⟩
      go_wp2_with fail
      refine (Nc.refuse_no _ _).mono ?_
      rintro e w1 ⟨rfl, rfl⟩
      go_wp2_with fail
      refine ⟨⟨k + 1, by omega, by go_num⟩, by simp [intOf]; omega⟩
    · go_wp2
      go_end0
      exact ⟨rfl, rfl⟩

set_option maxRecDepth 100000 in
set_option maxHeartbeats 800000 in
theorem ask_no (g n j : Nat) (l : List ByteArray) (w : World) (hn : l.length = n) (hn3 : n ≤ 3) (hI : Ids w g l) (hj : j < n) (hb : ∀ i, i < j → (l.getD i ⟨#[]⟩).size = 20) (h : (l.getD j ⟨#[]⟩).size ≠ 20) :
    Calls Try.prog 28 #[.slice (some ⟨g, 0, none⟩) n n] w fun e w' => e = .panicked [{ v := .iface 24 (.int .i64 1), recovered := false }] ∧ w = w' := by
  have HI := Lib.hid hI
  have HV := Lib.hid hb
  have HJ := Lib.hid h
  have HN := Lib.hid hn
  clear hI h hn hb
  go_enter Try.func28, Try.ntmps28
  go_wp2_with fail
  go_loop [3, 6, 8, 9, 10, 11, 12, 13, 14, 7] (fun _ i _ _ _ _ _ _ _ _ => ∃ k : Nat, k ≤ j ∧ i = .int .i64 k) (fun _ i _ _ _ _ _ _ _ _ => n - (intOf i).toNat)
  case atStart => exact ⟨0, Nat.zero_le _, rfl⟩
  case round =>
    obtain ⟨k, hk, rfl⟩ := hrel
    have hc := HI.out k (by rw [HN.out]; omega)
    have hkn : k < n := by omega
    by_cases hlt : k < j
    · have hv := Valid_yes _ w (HV.out k hlt)
      obtain ⟨x, hx⟩ : ∃ x, l.getD k ⟨#[]⟩ = x := ⟨_, rfl⟩
      rw [hx] at hc hv
      have HX := Lib.hid hv
      clear hx hv
      go_wp2_with fail
      refine HX.out.mono ?_
      rintro e w1 ⟨rfl, rfl⟩
      go_wp2_with fail
      refine (Nc.refuse_no _ _).mono ?_
      rintro e w1 ⟨rfl, rfl⟩
      go_wp2_with fail
      refine ⟨⟨k + 1, by omega, by go_num⟩, by simp [intOf]; omega⟩
    · obtain rfl : k = j := by omega
      have hv := Valid_no _ w HJ.out
      obtain ⟨x, hx⟩ : ∃ x, l.getD k ⟨#[]⟩ = x := ⟨_, rfl⟩
      rw [hx] at hc hv
      have HX := Lib.hid hv
      clear hx hv
      go_wp2_with fail
      refine HX.out.mono ?_
      rintro e w1 ⟨rfl, rfl⟩
      go_wp2_with fail
      refine (Nc.refuse_yes _ _).mono ?_
      rintro e w1 ⟨rfl, rfl⟩
      exact ⟨rfl, rfl, rfl⟩

set_option maxRecDepth 100000 in
set_option maxHeartbeats 400000 in
theorem xorF (i : Int) (x y : Nat) (w : World) (hx : x < 256) (hy : y < 256) : Calls Try.prog 56 #[.int .i64 i, .int .u8 x, .int .u8 y] w fun e w' => e = .returned (.int .u8 ((x ^^^ y : Nat) : Int)) ∧ w = w' := by
  have hxo := xor8 x y hx hy
  go_enter Try.func56, Try.ntmps56
  go_wp2
  go_ret
  exact ⟨rfl, rfl⟩

set_option maxRecDepth 100000 in
set_option maxHeartbeats 1600000 in
theorem join_any (a b : ByteArray) (w : World) (ha : a.size = 20) (hb : b.size = 20) :
    Calls Try.prog 55 #[.string a, .string b, .func (Fn.func 56) #[] #[]] w fun e w' => e = .returned (.string (ds a b)) ∧ Below w.heap.size w w' := by
  have hmk : ∀ w, (Instr.makeSlice 58 (.int .i64 20) (.int .i64 20)).run Try.prog w = .ok (.slice (some ⟨w.heap.size, 0, none⟩) 20 20) (w.alloc (.cells (bytesI (List.replicate 20 0)) 5)) := fun w => makeN 20 w (by omega)
  have hl := dl_len a b
  have HX := Lib.hid xorF
  have HA := Lib.hid ha
  have HB := Lib.hid hb
  clear ha hb
  go_enter Try.func55, Try.ntmps55
  go_wp2_with fail
  go_loopw [8, 12] (fun _ i wr => ∃ k : Nat, k ≤ 20 ∧ i = .int .i64 k ∧ Bk wr w.heap.size ((dl a b).take k ++ List.replicate (20 - k) 0) ∧ Below w.heap.size w wr) (fun _ i _ => 20 - (intOf i).toNat)
  case atStart => exact ⟨0, Nat.zero_le _, rfl, by simpa using Bk.new w _ _, (Below.refl _ _).alloc (Nat.le_refl _) _⟩
  case round =>
    obtain ⟨k, hk, rfl, hB, hbl⟩ := hrel
    by_cases hlt : k < 20
    · have hka : k < a.size := by have := HA.out; omega
      have hkb : k < b.size := by have := HB.out; omega
      have hst := set_step (dl a b) 20 k _ hl hlt (dl_at a b k hlt)
      have hc := hB.cell k (by simp [hl]; omega)
      have hf := hB.free k
      have hBs := hB.set k ((by_ a k ^^^ by_ b k : Nat) : Int)
      rw [hst] at hBs
      have HBs := Lib.hid hBs
      have ya := by_at a k hka
      have yb := by_at b k hkb
      have la := by_lt a k
      have lb := by_lt b k
      obtain ⟨x, hx⟩ : ∃ x, by_ a k = x := ⟨_, rfl⟩
      obtain ⟨y, hy⟩ : ∃ y, by_ b k = y := ⟨_, rfl⟩
      rw [hx] at ya la
      rw [hy] at yb lb
      simp only [hx, hy] at HBs
      clear hst hB hBs hmk hx hy
      go_wp2_with fail
      go_region_with (go_at_call 56; refine (HX.out _ _ _ _ la lb).mono ?_; rintro e w1 ⟨rfl, rfl⟩)
      all_goals
        go_wp2_with fail
        exact ⟨⟨k + 1, by omega, by go_num, HBs.out.drew, (hbl.setCell (Nat.le_refl _) _).drew⟩, by simp [intOf]; omega⟩
    · have hk' : k = 20 := by omega
      rw [hk', Nat.sub_self, List.replicate_zero, List.append_nil, List.take_of_length_le (by omega)] at hB
      have hcv := hB.conv 20 20 hl
      clear hmk hB
      go_wp2
      go_ret
      exact ⟨rfl, hbl⟩

set_option maxRecDepth 100000 in
set_option maxHeartbeats 400000 in
theorem distance_any (a b : ByteArray) (w : World) (ha : a.size = 20) (hb : b.size = 20) :
    Calls Try.prog 32 #[.string a, .string b] w fun e w' => e = .returned (.string (ds a b)) ∧ Below w.heap.size w w' := by
  have HJ := Lib.hid (fun w => join_any a b w ha hb)
  clear ha hb
  go_enter Try.func32, Try.ntmps32
  go_wp2_with fail
  refine (HJ.out _).mono ?_
  rintro e w1 ⟨rfl, hb⟩
  go_wp2
  go_ret
  exact ⟨rfl, hb⟩

theorem ids2 (w : World) (a b : ByteArray) (t : TypeId) : Ids (w.alloc (.cells #[.string a, .string b] t)) w.heap.size [a, b] := by
  intro i hi
  obtain rfl | rfl : i = 0 ∨ i = 1 := by simp at hi; omega
  all_goals simp [go_sem]
theorem ids3 (w : World) (a b c : ByteArray) (t : TypeId) : Ids (w.alloc (.cells #[.string a, .string b, .string c] t)) w.heap.size [a, b, c] := by
  intro i hi
  obtain rfl | rfl | rfl : i = 0 ∨ i = 1 ∨ i = 2 := by simp at hi; omega
  all_goals simp [go_sem]
theorem ids1 (w : World) (a : ByteArray) (t : TypeId) : Ids (w.alloc (.cells #[.string a] t)) w.heap.size [a] := by
  intro i hi
  obtain rfl : i = 0 := by simp at hi; omega
  simp [go_sem]

/-- two, or three, identifiers are asked -/
def vd (s : ByteArray) : Bool := s.size == 20
theorem vd_yes {s : ByteArray} (h : vd s = true) : s.size = 20 := by unfold vd at h; simpa using h
theorem vd_no {s : ByteArray} (h : vd s = false) : s.size ≠ 20 := by unfold vd at h; simpa using h
def Pan (e : Ending) (w w' : World) : Prop := e = .panicked [{ v := .iface 24 (.int .i64 1), recovered := false }] ∧ w = w'
theorem ask2_yes (a b : ByteArray) (t : TypeId) (w : World) (h : (vd a && vd b) = true) : Calls Try.prog 28 #[.slice (some ⟨w.heap.size, 0, none⟩) 2 2] (w.alloc (.cells #[.string a, .string b] t)) fun e w' => e = .returned (.tuple #[]) ∧ (w.alloc (.cells #[.string a, .string b] t)) = w' := by
  rw [Bool.and_eq_true] at h
  exact ask_yes _ 2 [a, b] _ rfl (by omega) (ids2 w a b t) fun i hi => by
    obtain rfl | rfl : i = 0 ∨ i = 1 := by omega
    · exact vd_yes h.1
    · exact vd_yes h.2
theorem ask2_no (a b : ByteArray) (t : TypeId) (w : World) (h : (vd a && vd b) = false) : Calls Try.prog 28 #[.slice (some ⟨w.heap.size, 0, none⟩) 2 2] (w.alloc (.cells #[.string a, .string b] t)) fun e w' => Pan e (w.alloc (.cells #[.string a, .string b] t)) w' := by
  cases ha : vd a
  · exact ask_no _ 2 0 [a, b] _ rfl (by omega) (ids2 w a b t) (by omega) (fun i hi => by omega) (vd_no ha)
  · rw [ha, Bool.true_and] at h
    exact ask_no _ 2 1 [a, b] _ rfl (by omega) (ids2 w a b t) (by omega) (by intro i hi; (obtain rfl : i = 0 := by omega); exact vd_yes ha) (vd_no h)
theorem ask3_yes (a b c : ByteArray) (t : TypeId) (w : World) (h : (vd a && vd b && vd c) = true) : Calls Try.prog 28 #[.slice (some ⟨w.heap.size, 0, none⟩) 3 3] (w.alloc (.cells #[.string a, .string b, .string c] t)) fun e w' => e = .returned (.tuple #[]) ∧ (w.alloc (.cells #[.string a, .string b, .string c] t)) = w' := by
  rw [Bool.and_eq_true, Bool.and_eq_true] at h
  exact ask_yes _ 3 [a, b, c] _ rfl (by omega) (ids3 w a b c t) fun i hi => by
    obtain rfl | rfl | rfl : i = 0 ∨ i = 1 ∨ i = 2 := by omega
    · exact vd_yes h.1.1
    · exact vd_yes h.1.2
    · exact vd_yes h.2
theorem ask3_no (a b c : ByteArray) (t : TypeId) (w : World) (h : (vd a && vd b && vd c) = false) : Calls Try.prog 28 #[.slice (some ⟨w.heap.size, 0, none⟩) 3 3] (w.alloc (.cells #[.string a, .string b, .string c] t)) fun e w' => Pan e (w.alloc (.cells #[.string a, .string b, .string c] t)) w' := by
  cases ha : vd a
  · exact ask_no _ 3 0 [a, b, c] _ rfl (by omega) (ids3 w a b c t) (by omega) (fun i hi => by omega) (vd_no ha)
  · cases hb : vd b
    · exact ask_no _ 3 1 [a, b, c] _ rfl (by omega) (ids3 w a b c t) (by omega) (by intro i hi; (obtain rfl : i = 0 := by omega); exact vd_yes ha) (vd_no hb)
    · rw [ha, hb] at h
      exact ask_no _ 3 2 [a, b, c] _ rfl (by omega) (ids3 w a b c t) (by omega) (by intro i hi; (obtain rfl | rfl : i = 0 ∨ i = 1 := by omega); exact vd_yes ha; exact vd_yes hb) (vd_no h)
theorem ask1_yes (a : ByteArray) (t : TypeId) (w : World) (h : vd a = true) : Calls Try.prog 28 #[.slice (some ⟨w.heap.size, 0, none⟩) 1 1] (w.alloc (.cells #[.string a] t)) fun e w' => e = .returned (.tuple #[]) ∧ (w.alloc (.cells #[.string a] t)) = w' :=
  ask_yes _ 1 [a] _ rfl (by omega) (ids1 w a t) fun i hi => by
    obtain rfl : i = 0 := by omega
    exact vd_yes h
end Go.Proofs.Ythlkpbpcfkgljaa.Nf
