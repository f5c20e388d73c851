/-
  put: a number in some bytes.
-/
import Derived.Test.YtdkfniijoamaoacGa
import Derived.Test.YtdkfniijoamaoacOb
namespace Go.Proofs.Ytdkfniijoamaoac.Ga
open Go Go.RowKit Go.Proofs.Ytdkfniijoamaoac.Hz Go.Proofs.Ytdkfniijoamaoac.Ob

/-- the first j of n bytes of a number, the greatest first -/
def pb (x : Int) (n j : Nat) : List Int := (List.range j).map fun q => x / 2 ^ (8 * (n - 1 - q)) % 256
theorem pb_succ (x : Int) (n j : Nat) : pb x n (j + 1) = pb x n j ++ [x / 2 ^ (8 * (n - 1 - j)) % 256] := by
  unfold pb; rw [List.range_succ, List.map_append]; rfl
theorem pb_len (x : Int) (n j : Nat) : (pb x n j).length = j := by simp [pb]

/-- what an own row's growing keeps: every block but its own -/
def Kp (W W' : World) (v v' : Value) : Prop := W.heap.size ≤ W'.heap.size ∧ (∀ k, k < W.heap.size → v.ownBlock ≠ some k → W'.heap[k]? = W.heap[k]?) ∧ ∀ k, v'.ownBlock = some k → v.ownBlock = some k ∨ W.heap.size ≤ k
theorem Kp.refl (W : World) (v : Value) : Kp W W v v := ⟨Nat.le_refl _, fun _ _ _ => rfl, fun _ h => .inl h⟩
theorem Kp.trans {W W1 W2 : World} {v v1 v2 : Value} (h : Kp W W1 v v1) (g : Kp W1 W2 v1 v2) : Kp W W2 v v2 := by
  obtain ⟨h0, h1, h2⟩ := h
  obtain ⟨g0, g1, g2⟩ := g
  refine ⟨Nat.le_trans h0 g0, fun k hk hne => (g1 k (Nat.lt_of_lt_of_le hk h0) (fun e => ?_)).trans (h1 k hk hne), fun k e => ?_⟩
  · rcases h2 k e with q | q
    · exact hne q
    · omega
  · rcases g2 k e with q | q
    · exact h2 k q
    · exact .inr (Nat.le_trans h0 q)
theorem Kp.alloc (W : World) (v : Value) (o : Obj) : Kp W (W.alloc o) v v :=
  ⟨by simp, fun k hk _ => (World.grownBy_alloc W o none).block k hk (by simp), fun _ h => .inl h⟩
theorem Kp.grow {W W' : World} {v v' : Value} (g : W.grownBy W' v.ownBlock) (h : v'.ownBlock = v.ownBlock ∨ v'.ownBlock = some W.heap.size) : Kp W W' v v' :=
  ⟨g.size, fun k hk hne => g.block k hk (fun e => hne e.symm), fun k e => by
    rcases h with q | q
    · exact .inl (q ▸ e)
    · rw [q] at e; exact .inr (by have := Option.some.inj e; omega)⟩

set_option maxHeartbeats 1600000 in
theorem put_any (x : Int) (n : Nat) (v : Value) (xs : List Int) (base : Nat) (w0 w : World) (hn : n ≤ 4) (hxl : xs.length ≤ 1000) (hown : OB w base v xs) (hbl : Below base w0 w) (hbs : base ≤ w.heap.size) :
    Calls Try.prog 21 #[v, .int .i64 x, .int .i64 n] w fun e w' => ∃ v', e = .returned v' ∧ OB w' base v' (xs ++ pb x n n) ∧ Below base w0 w' ∧ base ≤ w'.heap.size ∧ Kp w w' v v' := by
  obtain ⟨i0, hi, hz0, hz1, hz2⟩ := info_parts u8_info
  go_enter Try.func21, Try.ntmps21
  go_wp2_with fail
  go_loopw [0, 7] (fun v' i wr => ∃ j : Nat, j ≤ n ∧ i = .int .i64 ((n : Int) - 1 - j) ∧ OB wr base v' (xs ++ pb x n j) ∧ Below base w0 wr ∧ base ≤ wr.heap.size ∧ Kp w wr v v') (fun _ i _ => (intOf i + 1).toNat)
  case atStart => exact ⟨0, Nat.zero_le _, by go_num, by simpa [pb] using hown, hbl, hbs, Kp.refl _ _⟩
  case round =>
    obtain ⟨j, hj, rfl, hown, hbl, hbs, hkp⟩ := hrel
    by_cases hlt : j < n
    · have HS := Lib.hid (pb_succ x n j)
      have hlen := cB_len (xs ++ pb x n j)
      have hl2 := pb_len x n j
      have hl3 : (xs ++ pb x n j).length = xs.length + j := by rw [List.length_append, hl2]
      have hown1 := hown.alloc_ (.cells #[.int .u8 (x / 2 ^ (8 * (n - 1 - j)) % 256)] 5)
      have hbl1 := hbl.alloc hbs (.cells #[.int .u8 (x / 2 ^ (8 * (n - 1 - j)) % 256)] 5)
      have hbs1 : base ≤ (wr.alloc (.cells #[.int .u8 (x / 2 ^ (8 * (n - 1 - j)) % 256)] 5)).heap.size := by simp; omega
      go_wp2_with (at_builtin; refine wpList_append_own_at _ rfl _ _ 33 rfl base 5 i0 (.int .u8 0) 1 1 Try.underlying33 hi hz0 hz1 hz2 rfl (by decide) _ _ _ rfl hown1 ⟨wr.heap.size, 0, none⟩ 1 1 [.int .u8 (x / 2 ^ (8 * (n - 1 - j)) % 256)] rfl rfl (cell_one_new _ _ _) (by simp [Value.oneCell']) (by unfold maxLen; omega) (by omega) hbs1 ?_; intro v' w1 hown' hgrow _ hat; have hkp2 := (hkp.trans (Kp.alloc _ _ _)).trans (Kp.grow hgrow hat); have hbl2 := hown1.grow_ hbl1 hgrow hbs1; have hbs2 : base ≤ w1.heap.size := Nat.le_trans hbs1 hgrow.size)
      refine ⟨⟨j + 1, by omega, by go_num, ?_, hbl2, hbs2, hkp2⟩, by simp [intOf]; omega⟩
      rw [HS.out, ← List.append_assoc]
      unfold OB
      rw [cB_snoc, List.length_append]
      exact hown'
    · obtain rfl : j = n := by omega
      go_wp2_with fail
      go_ret
      exact ⟨_, rfl, hown, hbl, hbs, hkp⟩
end Go.Proofs.Ytdkfniijoamaoac.Ga
