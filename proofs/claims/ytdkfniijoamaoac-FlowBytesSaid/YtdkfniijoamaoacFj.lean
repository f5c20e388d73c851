/-
  FlowMarks: the check, and the walk.
-/
import Derived.Test.YtdkfniijoamaoacFi
import Derived.Deep.DeepCutAuto
import Derived.Deep.Cut
namespace Go.Proofs.Ytdkfniijoamaoac.Fl
open Go Go.RowKit Go.Proofs.Ytdkfniijoamaoac.Hz Go.Proofs.Ytdkfniijoamaoac.Rw Go.Proofs.Ytdkfniijoamaoac.Or

set_option maxHeartbeats 800000 in
theorem awake_any (w : World) :
    Calls Try.prog 6 #[] w fun e w' => e = .returned (.bool true) ∧ Below w.heap.size w w' := by
  have HB := Lib.hid (Before_any 65535 0 w)
  rw [show bfV 65535 0 = true by decide +kernel, show bfE 65535 0 = 0 by decide +kernel] at HB
  have HM : ∀ W : World, Calls Try.prog 15 #[.int .i64 10, .slice (some ⟨W.heap.size, 0, none⟩) 2 2] (W.alloc (.cells #[.int .i64 12, .int .i64 14] 3)) fun e w' => e = .returned (.tuple #[.string ⟨#[5]⟩, .int .i64 0]) ∧ Below (W.alloc (.cells #[.int .i64 12, .int .i64 14] 3)).heap.size (W.alloc (.cells #[.int .i64 12, .int .i64 14] 3)) w' := by
    intro W
    have h := Marked_yes 10 (some ⟨W.heap.size, 0, none⟩) 2 2 [12, 14] (W.alloc (.cells #[.int .i64 12, .int .i64 14] 3)) (by decide) (by decide)
      ⟨rfl, by unfold maxLen; omega, by intro z hz; simp at hz; rcases hz with rfl | rfl <;> decide, fun _ => ⟨W.heap.size, 0, rfl, by simp, fun i hi => by
        obtain rfl | rfl : i = 0 ∨ i = 1 := by omega
        · simp [go_sem]
        · simp [go_sem]⟩⟩ (by intro z hz; simp at hz; rcases hz with rfl | rfl <;> decide)
    rwa [show mt (pl 10 [12, 14]) = ⟨#[5]⟩ by rfl] at h
  have HMM := Lib.hid HM
  clear HM
  go_enter Try.func6, Try.ntmps6
  go_wp2_with fail
  refine HB.out.mono ?_
  rintro e w1 ⟨rfl, hb1⟩
  go_wp2_with fail
  refine (HMM.out _).mono ?_
  rintro e w2 ⟨rfl, hb2⟩
  go_wp2
  go_ret
  exact ⟨rfl, blw hb1 (below_alloc _ hb2)⟩

set_option maxRecDepth 1000000 in
set_option maxHeartbeats 800000 in
theorem marks_long (ack : Int) (a : Option Addr) (len cap : Nat) (s : ByteArray) (x y : Int) (w : World) (hl : len ≤ 9223372036854775807) (hz : s.size ≤ 140737488351232) (hbig : 60 < len ∨ 10 < s.size) :
    Calls Try.prog 5 #[.int .i64 ack, .slice a len cap, .string s, .int .i64 x, .int .i64 y] w fun e w' => e = .returned (.bool true) ∧ Below w.heap.size w w' := by
  by_cases h : 60 < len
  · clear hbig
    go_enter Try.func5, Try.ntmps5
    go_wp2_with fail
    refine (awake_any _).mono ?_
    rintro e w1 ⟨rfl, hb1⟩
    go_wp2
    go_ret
    exact ⟨rfl, hb1⟩
  · have h2 : 10 < s.size := by omega
    clear hbig
    go_enter Try.func5, Try.ntmps5
    go_wp2_with fail
    refine (awake_any _).mono ?_
    rintro e w1 ⟨rfl, hb1⟩
    go_wp2
    go_ret
    exact ⟨rfl, hb1⟩

def z34 : Array Value := (List.replicate 34 (Value.bool false)).toArray
theorem make34 (w : World) : (Instr.makeSlice 41 (.int .i64 34) (.int .i64 34)).run Try.prog w = .ok (.slice (some ⟨w.heap.size, 0, none⟩) 34 34) (w.alloc (.cells z34 4)) := by kernel_rfl
/-- the block of truths: place i is marked at i + 2 -/
def Bb (w : World) (g : Nat) (is : List Nat) : Prop := ∃ cs : Array Value, w.heap[g]? = some (.cells cs 4 (0, 0)) ∧ cs.size = 34 ∧ ∀ d, d < 34 → cs[d]? = some (.bool (decide (2 ≤ d ∧ d - 2 ∈ is)))
theorem Bb.new (w : World) : Bb (w.alloc (.cells z34 4)) w.heap.size [] := by
  refine ⟨z34, heap_alloc_new w _, by decide, fun d hd => ?_⟩
  show ((List.replicate 34 (Value.bool false)).toArray)[d]? = _
  rw [List.getElem?_toArray, List.getElem?_replicate, if_pos hd]
  simp
theorem Bb.free {w : World} {g : Nat} {is : List Nat} (H : Bb w g is) (i : Nat) : w.frozen? ⟨g, i, none⟩ = false := by
  obtain ⟨cs, H, _⟩ := H; simp [World.frozen?, H]
theorem Bb.cell {w : World} {g : Nat} {is : List Nat} (H : Bb w g is) (d : Nat) (h : d < 34) : w.cell? ⟨g, d, none⟩ = some (.bool (decide (2 ≤ d ∧ d - 2 ∈ is))) := by
  obtain ⟨cs, H, _, hc⟩ := H
  rw [cell_of_row _ _ _ _ _ _ H]
  exact hc d h
theorem Bb.set {w : World} {g : Nat} {is : List Nat} (H : Bb w g is) (i : Nat) (h : i < 32) : Bb (w.setCell ⟨g, i + 2, none⟩ (.bool true)) g (is ++ [i]) := by
  obtain ⟨cs, H, hs, hc⟩ := H
  have hlt := lt_of_block H
  refine ⟨cs.setIfInBounds (i + 2) (.bool true), ?_, by simp [hs], fun d hd => ?_⟩
  · have h' : w.heap[g] = .cells cs 4 (0, 0) := by simpa [Array.getElem?_eq_getElem hlt] using H
    show (w.heap.modify g _)[g]? = _
    rw [Array.getElem?_eq_getElem (by simpa using hlt), Array.getElem_modify_self, h']
    rfl
  · rw [Array.getElem?_setIfInBounds]
    by_cases e : i + 2 = d
    · rw [if_pos e, if_pos (by omega)]
      subst e
      simp
    · rw [if_neg e, hc d hd]
      congr 2
      rw [Bool.eq_iff_iff]
      simp only [decide_eq_true_eq, List.mem_append, List.mem_singleton]
      constructor
      · rintro ⟨q1, q2⟩; exact ⟨q1, .inl q2⟩
      · rintro ⟨q1, q2 | q2⟩
        · exact ⟨q1, q2⟩
        · exfalso; omega
theorem Bb.below {w w' : World} {g : Nat} {is : List Nat} (H : Bb w g is) (hb : Below w.heap.size w w') : Bb w' g is := by
  obtain ⟨cs, H, h⟩ := H
  exact ⟨cs, by rw [hb.block g (lt_of_block H)]; exact H, h⟩
/-- is one of two numbers not on the circle? -/
def two (x y : Int) : Bool := !num x || !num y
theorem two_yes (x y : Int) (h : two x y = true) : bfE x y = 7 := by
  unfold two at h
  unfold bfE
  cases h1 : num x <;> cases h2 : num y <;> simp [h1, h2] at h ⊢
theorem two_no (x y : Int) (h : two x y = false) : bfE x y = 0 ∧ 0 ≤ x ∧ x ≤ 65535 ∧ 0 ≤ y ∧ y ≤ 65535 ∧ bfV x y = (decide (1 ≤ (y - x + 65536) % 65536) && decide ((y - x + 65536) % 65536 ≤ 32767)) := by
  unfold two at h
  have h1 : num x = true := by cases h1 : num x <;> simp [h1] at h ⊢
  have h2 : num y = true := by cases h2 : num y <;> simp [h2] at h ⊢
  have e : (y - x + 65536) % 65536 = (y - x) % 65536 := by omega
  refine ⟨by unfold bfE; rw [h1, h2]; rfl, ?_, ?_, ?_, ?_, by rw [e]; unfold bfV; rw [h1, h2]; rfl⟩
  all_goals (unfold num at h1 h2; simp at h1 h2; omega)

/-- the numbers of places, as the law lists them -/
def wv (ack : Int) (l : List Nat) : List Int := l.map fun i : Nat => (ack + ((i : Int) + 2)) % 65536
def xv (ack : Int) (l : List Nat) : List Int := l.map fun i : Nat => (ack + 2 + (i : Int)) % 65536
theorem wv_nv (ack : Int) (l : List Nat) : wv ack l = nv ack (l.map fun i : Nat => (2 + (i : Int))) := by
  unfold wv nv
  rw [List.map_map]
  apply List.map_congr_left
  intro i _
  simp only [Function.comp_apply]
  rw [Int.add_comm (i : Int) 2]
theorem xv_nv (ack : Int) (l : List Nat) : xv ack l = nv ack (l.map fun i : Nat => (2 + (i : Int))) := by
  unfold xv nv
  rw [List.map_map]
  apply List.map_congr_left
  intro i _
  simp only [Function.comp_apply]
  rw [Int.add_assoc]
theorem bit_shr (s : ByteArray) (k : Nat) : (bits .and .u8 ((by_ s (k / 8) : Int) / 2 ^ (k % 8)) 1 == 1) = bitOf s k := by
  have hb := by_lt s (k / 8)
  have e : ((by_ s (k / 8) : Int) / 2 ^ (k % 8)) = ((by_ s (k / 8) / 2 ^ (k % 8) : Nat) : Int) := by rw [Int.natCast_ediv, Int.natCast_pow]; rfl
  have hlt : by_ s (k / 8) / 2 ^ (k % 8) < 256 := Nat.lt_of_le_of_lt (Nat.div_le_self _ _) hb
  have h := and8 (by_ s (k / 8) / 2 ^ (k % 8)) 1 hlt (by omega)
  rw [Nat.and_one_is_mod] at h
  have e3 : bitOf s k = decide (by_ s (k / 8) / 2 ^ (k % 8) % 2 = 1) := by unfold bitOf; rw [← shr_bit]; rfl
  rw [e3, e]
  generalize by_ s (k / 8) / 2 ^ (k % 8) = X at *
  rw [show bits .and .u8 (X : Int) 1 = ((X % 2 : Nat) : Int) from h]
  rcases Nat.mod_two_eq_zero_or_one X with hX | hX
  · rw [hX]; rfl
  · rw [hX]; rfl
end Go.Proofs.Ytdkfniijoamaoac.Fl
