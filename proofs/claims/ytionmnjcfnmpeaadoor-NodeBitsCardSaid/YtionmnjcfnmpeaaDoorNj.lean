/-
  node: the specification's bits.
-/
import Derived.Test.YtionmnjcfnmpeaaDoorNf
import Derived.Test.YtionmnjcfnmpeaaDoorNh
import Derived.Maps.AppendAt
import Derived.OwnWalk
namespace Go.Proofs.YtionmnjcfnmpeaaDoor.Nj
open Go Go.RowKit Go.Proofs.YtionmnjcfnmpeaaDoor.Hz Go.Proofs.YtionmnjcfnmpeaaDoor.Na Go.Proofs.YtionmnjcfnmpeaaDoor.Nb Go.Proofs.YtionmnjcfnmpeaaDoor.Nf
open Go.Proofs.YtionmnjcfnmpeaaDoor.Ng (and8)

set_option maxRecDepth 100000 in
set_option maxHeartbeats 400000 in
theorem RValid_any (s : ByteArray) (w : World) : Calls Tryd.prog 20 #[.string s] w fun e w' => e = .returned (.bool (vd s)) ∧ w = w' := by
  by_cases h : s.size = 20
  · have h' : vd s = true := by unfold vd; simpa using h
    rw [h']
    have HH := Lib.hid h
    clear h h'
    go_enter Tryd.func20, Tryd.ntmps20
    go_wp2
    go_ret
    refine ⟨?_, rfl⟩
    have := HH.out
    simp [this]
  · have h' : vd s = false := by unfold vd; simpa using h
    rw [h']
    have HH := Lib.hid h
    clear h h'
    go_enter Tryd.func20, Tryd.ntmps20
    go_wp2
    go_ret
    refine ⟨?_, rfl⟩
    have := HH.out
    have h' : ¬ ((s.size : Int) = 20) := by omega
    simp [h']
theorem Valid_any (s : ByteArray) (w : World) : Calls Tryd.prog 33 #[.string s] w fun e w' => e = .returned (.bool (vd s)) ∧ w = w' := by
  cases h : vd s
  · exact Valid_no s w (vd_no h)
  · exact Valid_yes s w (vd_yes h)

theorem shr_bit (x t : Nat) (hx : x < 256) (ht : t < 8) : ((bits .and .u8 ((x : Int) / 2 ^ t) 1) == 1) = x.testBit t := by
  have hlt : x / 2 ^ t < 256 := Nat.lt_of_le_of_lt (Nat.div_le_self _ _) hx
  have e : (x : Int) / 2 ^ t = ((x / 2 ^ t : Nat) : Int) := by rw [Int.natCast_ediv, Int.natCast_pow]; rfl
  rw [e, show (1 : Int) = ((1 : Nat) : Int) from rfl, and8 _ _ hlt (by omega), Nat.and_one_is_mod]
  have h2 : x.testBit t = decide (x / 2 ^ t % 2 = 1) := by
    rw [Nat.testBit_eq_decide_div_mod_eq]
  rw [h2, Bool.eq_iff_iff]
  simp
  omega

set_option maxRecDepth 100000 in
set_option maxHeartbeats 800000 in
theorem Bit_any (s : ByteArray) (k : Nat) (w : World) (hk : k < 160) (hs : s.size = 20) : Calls Tryd.prog 23 #[.string s, .int .i64 (k : Int)] w fun e w' => e = .returned (.bool (bt s k)) ∧ w = w' := by
  have hq8 : k / 8 < s.size := by omega
  have hb := by_at s (k / 8) hq8
  have hbl := by_lt s (k / 8)
  have hsb := shr_bit (by_ s (k / 8)) (7 - k % 8) hbl (by omega)
  have hB := Lib.hid (show bt s k = (by_ s (k / 8)).testBit (7 - k % 8) from rfl)
  obtain ⟨c, hc⟩ : ∃ c, bt s k = c := ⟨_, rfl⟩
  have hB2 := hB.out
  rw [hc] at hB2 ⊢
  rw [← hB2] at hsb
  have HS := Lib.hid hs
  clear hB hB2 hc hs
  obtain ⟨x, hx⟩ : ∃ x, by_ s (k / 8) = x := ⟨_, rfl⟩
  rw [hx] at hb hbl hsb
  clear hx
  go_enter Tryd.func23, Tryd.ntmps23
  go_wp2
  go_ret
  exact ⟨rfl, rfl⟩

theorem b_info : (Tryd.prog.info? 4).map (fun i => (i.zero, i.size, i.bytes)) = some (some (.bool false), 1, 1) := by kernel_rfl
/-- truths as cells -/
def bC (l : List Bool) : List Value := l.map Value.bool
theorem bC_len (l : List Bool) : (bC l).length = l.length := by simp [bC]
theorem bC_snoc (l : List Bool) (x : Bool) : bC (l ++ [x]) = bC l ++ [.bool x] := by simp [bC]
/-- a row of truths of the call's own -/
def OT (w : World) (base : Nat) (v : Value) (l : List Bool) : Prop := w.ownsRow base 4 1 v l.length (bC l)
theorem OT.nil_ (w : World) (base : Nat) : OT w base (.slice none 0 0) [] := ⟨rfl, .inl ⟨rfl, rfl⟩⟩
theorem OT.alloc_ {w : World} {base : Nat} {v : Value} {l : List Bool} (h : OT w base v l) (o : Obj) : OT (w.alloc o) base v l := World.ownsRow.alloc h o
theorem OT.grow_ {w w1 w2 : World} {base : Nat} {v : Value} {l : List Bool} (h : OT w1 base v l) (hb : Below base w w1) (hg : w1.grownBy w2 v.ownBlock) (hs : base ≤ w1.heap.size) : Below base w w2 :=
  hb.grown hg hs (fun k e => (World.ownsRow.lt (n := l.length) h k e).1)
def bits (s : ByteArray) (k : Nat) : List Bool := (List.range k).map (bt s)
theorem bits_len (s : ByteArray) (k : Nat) : (bits s k).length = k := by simp [bits]
theorem bits_succ (s : ByteArray) (k : Nat) : bits s (k + 1) = bits s k ++ [bt s k] := by simp [bits, List.range_succ]

set_option maxRecDepth 1000000 in
set_option maxHeartbeats 1600000 in
/-- the bits of an identifier, in a row of their own -/
theorem bits_any (s : ByteArray) (w : World) (hs : s.size = 20) : Calls Tryd.prog 73 #[.string s] w fun e w' => ∃ v, e = .returned v ∧ OT w' w.heap.size v (bits s 160) ∧ Below w.heap.size w w' := by
  obtain ⟨i0, hi, hz0, hz1, hz2⟩ := info_parts b_info
  have HB := Lib.hid (fun k hk w => Bit_any s k w hk hs)
  clear hs
  go_enter Tryd.func73, Tryd.ntmps73
  go_wp2_with fail
  go_loopw [3, 5, 4] (fun v i _ wr => ∃ k : Nat, k ≤ 160 ∧ i = .int .i64 k ∧ OT wr w.heap.size v (bits s k) ∧ Below w.heap.size w wr) (fun _ i _ _ => 160 - (intOf i).toNat)
  case atStart => exact ⟨0, Nat.zero_le _, rfl, OT.nil_ _ _, Below.refl _ _⟩
  case round =>
    obtain ⟨k, hk, rfl, hown, hbl⟩ := hrel
    by_cases hlt : k < 160
    · have hB := HB.out k hlt
      have hsz := hbl.size
      have hl := bits_len s k
      have HS := Lib.hid (bits_succ s k)
      obtain ⟨c, hc⟩ : ∃ c, bt s k = c := ⟨_, rfl⟩
      rw [hc] at HS
      simp only [hc] at hB
      have HBB := Lib.hid hB
      clear hB hc
      have hown1 := hown.alloc_ (.cells #[.bool c] 4)
      have hbl1 := hbl.alloc hsz (.cells #[.bool c] 4)
      have hs1 : w.heap.size ≤ (wr.alloc (.cells #[.bool c] 4)).heap.size := by simp; omega
      go_wp2_with fail
      refine (HBB.out _).mono ?_
      rintro e w1 ⟨rfl, rfl⟩
      go_wp2_with (at_builtin; refine wpList_append_own_at _ rfl _ _ 76 rfl w.heap.size 4 i0 (.bool false) 1 1 Tryd.underlying76 hi hz0 hz1 hz2 rfl (by decide) _ _ _ rfl hown1 ⟨wr.heap.size, 0, none⟩ 1 1 [.bool c] rfl rfl (cell_one_new _ _ _) (by simp [Value.oneCell']) (by unfold maxLen; omega) (by omega) hs1 ?_; intro v' w2 hown' hgrow _ hat; have hbl2 := hown1.grow_ hbl1 hgrow hs1)
      refine ⟨⟨k + 1, by omega, by go_num, ?_, hbl2⟩, by simp [intOf]; omega⟩
      rw [HS.out]
      unfold OT
      rw [bC_snoc, List.length_append]
      exact hown'
    · obtain rfl : k = 160 := by omega
      go_wp2_with fail
      go_ret
      exact ⟨_, rfl, hown, hbl⟩
end Go.Proofs.YtionmnjcfnmpeaaDoor.Nj
