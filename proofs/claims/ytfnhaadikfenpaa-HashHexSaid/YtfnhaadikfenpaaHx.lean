/-
  FromHex: both.
-/
import Derived.Test.YtfnhaadikfenpaaHw
import Derived.WalkKit
import Derived.WalkSpells
import Derived.WalkLawsBesides
import Derived.LoopTactic
import Derived.Outline
import Derived.Deep.QuietTactic
import Derived.BigQuiet
import Derived.BigRegion
import Derived.RegionTactic
import Derived.Deep.RegionLaw
import Derived.Deep.AppendLies
import Derived.Lib.Hide
namespace Go.Proofs.Ytfnhaadikfenpaa.Hh
open Go Go.RowKit

/-- all are digits -/
def good (s : ByteArray) : Prop := ∀ j, j < s.size → vl (bt s j) < 16
/-- what the digits of a text tell, m bytes of it -/
def dcI (m : Nat) (s : ByteArray) : List Int := (List.range m).map fun j => 16 * (vl (bt s (2 * j)) : Int) + (vl (bt s (2 * j + 1)) : Int)
theorem dcI_length (m : Nat) (s : ByteArray) : (dcI m s).length = m := by simp [dcI]
theorem dcI_at (m : Nat) (s : ByteArray) (k : Nat) (h : k < m) : (dcI m s).getD k 0 = 16 * (vl (bt s (2 * k)) : Int) + (vl (bt s (2 * k + 1)) : Int) := by simp [dcI, List.getD, h]

theorem or16 (a b : Nat) (ha : a < 16) (hb : b < 16) : bits BinOp.or IntKind.u8 ((a : Int) * 16) (b : Int) = 16 * (a : Int) + (b : Int) := by
  have hd : ∀ x y : Fin 16, bits BinOp.or IntKind.u8 ((x.val : Int) * 16) (y.val : Int) = 16 * (x.val : Int) + (y.val : Int) := by decide +kernel
  exact hd ⟨a, ha⟩ ⟨b, hb⟩

open Classical in
/-- how the reading ends -/
noncomputable def ends (m : Nat) (s : ByteArray) : Ending := if good s then .returned (.string (strOfNums (dcI m s))) else .panicked [{ v := .iface 38 (.int .i64 2), recovered := false }]
theorem ends_yes (m : Nat) (s : ByteArray) (h : good s) : ends m s = .returned (.string (strOfNums (dcI m s))) := by unfold ends; rw [if_pos h]
theorem ends_no (m : Nat) (s : ByteArray) (h : ¬ good s) : ends m s = .panicked [{ v := .iface 38 (.int .i64 2), recovered := false }] := by unfold ends; rw [if_neg h]

set_option maxHeartbeats 1000000 in
theorem FromHexF (pa m : Nat) (s : ByteArray) (w : World) (hm : s.size = 2 * m) (hs : s.size ≤ 5000 * 2) (ca : w.cell? ⟨pa, 0, none⟩ = some (.string s)) :
    Calls Try.prog 41 #[.pointer (some ⟨pa, 0, none⟩)] w fun e w' => e = ends m s ∧ Below w.heap.size w w' := by
  have la : pa < w.heap.size := World.block_lt_of_cell? w _ ca
  have b1 : decide ((65536 : Int) < (s.size : Int)) = false := by simp; omega
  have b2 : ((s.size : Int) % 2 != 0) = false := by rw [show (s.size : Int) % 2 = 0 by omega]; rfl
  have b3 : (s.size : Int) / 2 = (m : Int) := by omega
  have hmk := fun w => make0 m w (by omega)
  have hl := dcI_length m s
  have hi3 : (Try.prog.info? 5).map (fun i => (i.zero, i.size, i.bytes)) = some (some (.int .u8 0), 1, 1) := by kernel_rfl
  obtain ⟨i0, hi, hz0, hz1, hz2⟩ := info_parts hi3
  have HM := Lib.hid hm
  clear hm hi3
  go_enter Try.func41, Try.ntmps41
  go_wp2_with fail
  refine (refuse_no _ _).mono ?_
  rintro e w1 ⟨rfl, rfl⟩
  go_wp2_with fail
  refine (refuse_no _ _).mono ?_
  rintro e w1 ⟨rfl, rfl⟩
  go_wp2_with fail
  go_loopw [2, 3, 4] (fun o i _ wr => ∃ k n : Nat, n = 2 * k ∧ k ≤ m ∧ i = .int .i64 n ∧ o = .slice (some ⟨w.heap.size, 0, none⟩) k m ∧ Bk wr w.heap.size ((dcI m s).take k ++ List.replicate (m - k) 0) ∧ (∀ j, j < n → vl (bt s j) < 16) ∧ Below w.heap.size w wr) (fun _ i _ _ => s.size - (intOf i).toNat)
  case atStart => exact ⟨0, 0, rfl, Nat.zero_le _, rfl, rfl, by simpa using Bk.new w _ _, fun j hj => by omega, (Below.refl _ _).alloc (Nat.le_refl _) _⟩
  case round =>
    obtain ⟨k, n, hn, hk, rfl, rfl, hB, hg, hbl⟩ := hrel
    have ca' : wr.cell? ⟨pa, 0, none⟩ = some (.string s) := by rw [hbl.cell la]; exact ca
    have hm := HM.out
    by_cases hlt : k < m
    · have i0' := idx_str s n (by omega)
      have i1' := idx_str1 s n (by omega)
      have hns : n < s.size := by omega
      have HN := Lib.hid hn
      clear hm hmk hn
      go_wp2_with fail
      by_cases g0 : vl (bt s n) < 16
      · refine (digit_ok _ (bt_lt s n) g0 _).mono ?_
        rintro e w1 ⟨rfl, rfl⟩
        go_wp2_with fail
        by_cases g1 : vl (bt s (n + 1)) < 16
        · refine (digit_ok _ (bt_lt s _) g1 _).mono ?_
          rintro e w1 ⟨rfl, rfl⟩
          have hor := or16 _ _ g0 g1
          have hlen : ((dcI m s).take k ++ List.replicate (m - k) 0).length = m := by simp [hl]; omega
          have hB2 : Bk (wr.alloc (.cells (bytesI [16 * (vl (bt s n) : Int) + (vl (bt s (n + 1)) : Int)]) 5)) w.heap.size ((dcI m s).take k ++ List.replicate (m - k) 0) := hB.alloc _
          have hc := hB2.cell k (by omega)
          have hf := hB2.free k
          have hB3 := hB2.set k (16 * (vl (bt s n) : Int) + (vl (bt s (n + 1)) : Int))
          rw [set_step (dcI m s) m k _ hl hlt (by rw [dcI_at m s k hlt, ← HN.out])] at hB3
          have HB3 := Lib.hid hB3
          have hbl2 : Below w.heap.size w ((wr.alloc (.cells (bytesI [16 * (vl (bt s n) : Int) + (vl (bt s (n + 1)) : Int)]) 5)).setCell ⟨w.heap.size, k, none⟩ (.int .u8 (16 * (vl (bt s n) : Int) + (vl (bt s (n + 1)) : Int)))) :=
            (hbl.alloc hbl.size _).setCell (Nat.le_refl _) _
          have HG := Lib.hid hg
          simp only [bytesI, List.map_cons, List.map_nil] at hc hf
          clear hB hB2 hB3 hg hlen
          go_wp2_with fail
          refine ⟨⟨k + 1, n + 2, by have := HN.out; omega, by omega, by go_num, rfl, HB3.out, fun j hj => ?_, hbl2⟩, by simp [intOf]; omega⟩
          by_cases h0 : j = n
          · subst h0; exact g0
          · by_cases h1 : j = n + 1
            · subst h1; exact g1
            · exact HG.out j (by omega)
        · refine (digit_no _ (bt_lt s _) g1 _).mono ?_
          rintro e w1 ⟨rfl, rfl⟩
          go_wp2_with fail
          rw [ends_no m s (fun h => g1 (h _ (by have := HN.out; have := HM.out; omega)))]
          simp [bodyPost]
          exact hbl
      · refine (digit_no _ (bt_lt s n) g0 _).mono ?_
        rintro e w1 ⟨rfl, rfl⟩
        go_wp2_with fail
        rw [ends_no m s (fun h => g0 (h _ hns))]
        simp [bodyPost]
        exact hbl
    · have hk' : k = m := by omega
      have hns : n = s.size := by omega
      have HE := Lib.hid (ends_yes m s (fun j hj => hg j (by omega)))
      subst hk'
      rw [Nat.sub_self, List.replicate_zero, List.append_nil, List.take_of_length_le (by omega)] at hB
      have hcv := hB.conv k k hl
      subst hns
      clear hmk hB hg hn HM hm
      go_wp2
      go_ret
      exact ⟨HE.out.symm, hbl⟩

theorem enterFromHex (args : Array Value) (w : World) : (callFunc 41 args).run Try.prog w = .ok (.enter 41 args) w := by kernel_rfl

/-- what FromHex tells of a text of 2 * m bytes -/
noncomputable def fh (m : Nat) (s : ByteArray) : ByteArray × Int := open Classical in if good s then (strOfNums (dcI m s), 0) else (⟨#[]⟩, 2)
theorem fh_yes (m : Nat) (s : ByteArray) (h : good s) : fh m s = (strOfNums (dcI m s), 0) := by unfold fh; rw [if_pos h]
theorem fh_no (m : Nat) (s : ByteArray) (h : ¬ good s) : fh m s = (⟨#[]⟩, 2) := by unfold fh; rw [if_neg h]

set_option maxHeartbeats 400000 in
theorem FromHex_any (m : Nat) (s : ByteArray) (w : World) (hm : s.size = 2 * m) (hs : s.size ≤ 5000 * 2) :
    Calls Try.prog 27 #[.string s] w fun e w' => e = .returned (.tuple #[.string (fh m s).1, .int .i64 (fh m s).2]) ∧ Below w.heap.size w w' := by
  have hmf : ∀ (fn : Fn) (first cap : Array Value) (w : World), (Instr.makeFunc fn first cap).run Try.prog w = .ok (.func fn first cap) w := fun _ _ _ _ => rfl
  by_cases hg : good s
  · rw [fh_yes m s hg]
    have hF := FromHexF w.heap.size m s (aw (w.alloc (.cells #[.string s] 9))) hm hs (by simp [aw, go_sem])
    rw [ends_yes m s hg] at hF
    clear hm hs
    go_enter Try.func27, Try.ntmps27
    go_wp2_with fail
    refine (attempt_ret _ _ _ _ enterFromHex hF).mono ?_
    rintro e w1 ⟨rfl, hb1⟩
    go_wp2
    go_ret2
    exact ⟨rfl, below_alloc _ hb1⟩
  · rw [fh_no m s hg]
    have hF := FromHexF w.heap.size m s (aw (w.alloc (.cells #[.string s] 9))) hm hs (by simp [aw, go_sem])
    rw [ends_no m s hg] at hF
    clear hm hs
    go_enter Try.func27, Try.ntmps27
    go_wp2_with fail
    refine (attempt_err _ _ _ _ enterFromHex hF).mono ?_
    rintro e w1 ⟨rfl, hb1⟩
    go_wp2
    go_ret2
    exact ⟨rfl, below_alloc _ hb1⟩

/-- of a text that is too long, or of an odd number of digits -/
def fx (s : ByteArray) : Int := if 65536 < s.size then 3 else 2

set_option maxHeartbeats 400000 in
theorem FromHexF_no (pa : Nat) (s : ByteArray) (w : World) (h : 65536 < s.size ∨ s.size % 2 ≠ 0) (ca : w.cell? ⟨pa, 0, none⟩ = some (.string s)) :
    Calls Try.prog 41 #[.pointer (some ⟨pa, 0, none⟩)] w fun e w' => e = .panicked [{ v := .iface 38 (.int .i64 (fx s)), recovered := false }] ∧ Below w.heap.size w w' := by
  unfold fx
  by_cases h1 : 65536 < s.size
  · have b1 : decide ((65536 : Int) < (s.size : Int)) = true := by simp; omega
    rw [if_pos h1]
    go_enter Try.func41, Try.ntmps41
    go_wp2_with fail
    refine (refuse_yes _ _).mono ?_
    rintro e w1 ⟨rfl, rfl⟩
    go_wp2_with fail
    simp [bodyPost]
    exact Below.refl _ _
  · have b1 : decide ((65536 : Int) < (s.size : Int)) = false := by simp; omega
    have b2 : ((s.size : Int) % 2 != 0) = true := by simp; omega
    rw [if_neg h1]
    go_enter Try.func41, Try.ntmps41
    go_wp2_with fail
    refine (refuse_no _ _).mono ?_
    rintro e w1 ⟨rfl, rfl⟩
    go_wp2_with fail
    refine (refuse_yes _ _).mono ?_
    rintro e w1 ⟨rfl, rfl⟩
    go_wp2_with fail
    simp [bodyPost]
    exact Below.refl _ _

set_option maxHeartbeats 400000 in
theorem FromHex_no (s : ByteArray) (w : World) (h : 65536 < s.size ∨ s.size % 2 ≠ 0) :
    Calls Try.prog 27 #[.string s] w fun e w' => e = .returned (.tuple #[.string ⟨#[]⟩, .int .i64 (fx s)]) ∧ Below w.heap.size w w' := by
  have hmf : ∀ (fn : Fn) (first cap : Array Value) (w : World), (Instr.makeFunc fn first cap).run Try.prog w = .ok (.func fn first cap) w := fun _ _ _ _ => rfl
  have hF := FromHexF_no w.heap.size s (aw (w.alloc (.cells #[.string s] 9))) h (by simp [aw, go_sem])
  go_enter Try.func27, Try.ntmps27
  go_wp2_with fail
  refine (attempt_err _ _ _ _ enterFromHex hF).mono ?_
  rintro e w1 ⟨rfl, hb1⟩
  go_wp2
  go_ret2
  exact ⟨rfl, below_alloc _ hb1⟩

set_option maxHeartbeats 400000 in
theorem RFromHex_no (s : ByteArray) (w : World) (h : 65536 < s.size ∨ s.size % 2 ≠ 0) :
    Calls Try.prog 28 #[.string s] w fun e w' => e = .returned (.tuple #[.string ⟨#[]⟩, .int .i64 (fx s)]) ∧ Below w.heap.size w w' := by
  unfold fx
  by_cases h1 : 65536 < s.size
  · have b1 : (65536 : Int) < (s.size : Int) := by omega
    rw [if_pos h1]
    go_enter Try.func28, Try.ntmps28
    go_wp2
    go_ret2
    exact ⟨rfl, Below.refl _ _⟩
  · have b1 : (s.size : Int) ≤ 65536 := by omega
    have b2 : ((s.size : Int) % 2 != 0) = true := by simp; omega
    rw [if_neg h1]
    go_enter Try.func28, Try.ntmps28
    go_wp2
    go_ret2
    exact ⟨rfl, Below.refl _ _⟩

/-- a digit's number as the reference has it -/
def nb (c : Nat) : Int := if vl c < 16 then (vl c : Int) else -1

set_option maxHeartbeats 1600000 in
theorem RFromHex_any (m : Nat) (s : ByteArray) (w : World) (hm : s.size = 2 * m) (hs : s.size ≤ 5000 * 2) :
    Calls Try.prog 28 #[.string s] w fun e w' => e = .returned (.tuple #[.string (fh m s).1, .int .i64 (fh m s).2]) ∧ Below w.heap.size w w' := by
  have b1 : (s.size : Int) ≤ 65536 := by omega
  have b2 : ((s.size : Int) % 2 != 0) = false := by rw [show (s.size : Int) % 2 = 0 by omega]; rfl
  have b3 : (s.size : Int) / 2 = (m : Int) := by omega
  have hmk := fun w => make0 m w (by omega)
  have hl := dcI_length m s
  have hi3 : (Try.prog.info? 5).map (fun i => (i.zero, i.size, i.bytes)) = some (some (.int .u8 0), 1, 1) := by kernel_rfl
  obtain ⟨i0, hi, hz0, hz1, hz2⟩ := info_parts hi3
  have HM := Lib.hid hm
  clear hm hi3
  go_enter Try.func28, Try.ntmps28
  go_wp2
  go_loopw [4, 5, 6, 7] (fun o i _ _ wr => ∃ k n : Nat, n = 2 * k ∧ k ≤ m ∧ i = .int .i64 n ∧ o = .slice (some ⟨w.heap.size, 0, none⟩) k m ∧ Bk wr w.heap.size ((dcI m s).take k ++ List.replicate (m - k) 0) ∧ (∀ j, j < n → vl (bt s j) < 16) ∧ Below w.heap.size w wr) (fun _ i _ _ _ => s.size - (intOf i).toNat)
  case atStart => exact ⟨0, 0, rfl, Nat.zero_le _, rfl, rfl, by simpa using Bk.new w _ _, fun j hj => by omega, (Below.refl _ _).alloc (Nat.le_refl _) _⟩
  case round =>
    obtain ⟨k, n, hn, hk, rfl, rfl, hB, hg, hbl⟩ := hrel
    have hm := HM.out
    by_cases hlt : k < m
    · have i0' := idx_str s n (by omega)
      have i1' := idx_str1 s n (by omega)
      have hns : n < s.size := by omega
      have HN := Lib.hid hn
      obtain ⟨p, hp⟩ : ∃ p, bt s n = p := ⟨_, rfl⟩
      obtain ⟨q, hq⟩ : ∃ q, bt s (n + 1) = q := ⟨_, rfl⟩
      rw [hp] at i0'
      rw [hq] at i1'
      have HP := Lib.hid hp
      have HQ := Lib.hid hq
      clear hp hq
      have hN0 : ∀ w, Calls Try.prog 44 #[.int .u8 (p : Int)] w fun e w' => e = .returned (.int .i64 (nb p)) ∧ w' = w := fun w => (Nibble_any _ w).mono fun e w' h => ⟨h.1, h.2.symm⟩
      have hN1 : ∀ w, Calls Try.prog 44 #[.int .u8 (q : Int)] w fun e w' => e = .returned (.int .i64 (nb q)) ∧ w' = w := fun w => (Nibble_any _ w).mono fun e w' h => ⟨h.1, h.2.symm⟩
      by_cases g0 : vl p < 16
      · have e0 : nb p = (vl p : Int) := if_pos g0
        rw [e0] at hN0
        by_cases g1 : vl q < 16
        · have e1 : nb q = (vl q : Int) := if_pos g1
          rw [e1] at hN1
          generalize hx : vl p = x at *
          generalize hy : vl q = y at *
          have hwr : IntKind.u8.wrap (16 * (x : Int) + (y : Int)) = 16 * (x : Int) + (y : Int) := by simp only [IntKind.wrap_u8]; omega
          have hlen : ((dcI m s).take k ++ List.replicate (m - k) 0).length = m := by simp [hl]; omega
          have hB2 : ∀ nq, Bk ((wr.drewN nq).alloc (.cells (bytesI [16 * (x : Int) + (y : Int)]) 5)) w.heap.size ((dcI m s).take k ++ List.replicate (m - k) 0) := fun nq => Bk.alloc (w := wr.drewN nq) hB _
          have hc := fun nq => (hB2 nq).cell k (by omega)
          have hf := fun nq => (hB2 nq).free k
          have hB3 := fun nq => (hB2 nq).set k (16 * (x : Int) + (y : Int))
          rw [set_step (dcI m s) m k _ hl hlt (by rw [dcI_at m s k hlt, ← HN.out, HP.out, HQ.out, hx, hy])] at hB3
          have HB3 := Lib.hid hB3
          have hbl2 : ∀ nq, Below w.heap.size w (((wr.drewN nq).alloc (.cells (bytesI [16 * (x : Int) + (y : Int)]) 5)).setCell ⟨w.heap.size, k, none⟩ (.int .u8 (16 * (x : Int) + (y : Int)))) := fun nq => ((below_drewN hbl nq).alloc hbl.size _).setCell (Nat.le_refl _) _
          have HG := Lib.hid hg
          have HX := Lib.hid hx
          have HY := Lib.hid hy
          have hnw : ∀ nq, ((wr.drewN nq).alloc (.cells #[.int .u8 (16 * (x : Int) + (y : Int))] 5)).cell? ⟨wr.heap.size, 0, none⟩ = some (.int .u8 (16 * (x : Int) + (y : Int))) := fun nq =>
            World.cell?_alloc_at (w := wr.drewN nq) #[.int .u8 (16 * (x : Int) + (y : Int))] 5 wr.heap.size 0 rfl
          simp only [bytesI, List.map_cons, List.map_nil] at hc hf
          clear hB hB2 hB3 hg hlen hm hmk hn hx hy e0 e1
          go_wp2_with fail
          go_quiet (first | (go_at_call_of 44 (Value.int IntKind.u8 (p : Int)); exact Calls.quiet_of_same (hN0 _)) | (go_at_call_of 44 (Value.int IntKind.u8 (q : Int)); exact Calls.quiet_of_same (hN1 _)))
          go_wp2_with fail
          refine ⟨⟨k + 1, n + 2, by have := HN.out; omega, by omega, by go_num, rfl, HB3.out _, fun j hj => ?_, hbl2 _⟩, by simp [intOf]; omega⟩
          by_cases h0 : j = n
          · subst h0; rw [HP.out, HX.out]; exact g0
          · by_cases h1 : j = n + 1
            · subst h1; rw [HQ.out, HY.out]; exact g1
            · exact HG.out j (by omega)
        · have hng : ¬ good s := fun h => g1 (HQ.out ▸ h _ (by omega))
          have e1 : nb q = -1 := if_neg g1
          rw [e1] at hN1
          have HF := Lib.hid (fh_no m s hng)
          clear hmk hn hm hB hg e0 e1
          go_wp2_with fail
          go_quiet (first | (go_at_call_of 44 (Value.int IntKind.u8 (p : Int)); exact Calls.quiet_of_same (hN0 _)) | (go_at_call_of 44 (Value.int IntKind.u8 (q : Int)); exact Calls.quiet_of_same (hN1 _)))
          go_wp2_with fail
          go_ret2
          exact ⟨by rw [HF.out]; rfl, below_drewN hbl _⟩
      · have hng : ¬ good s := fun h => g0 (HP.out ▸ h _ hns)
        have e0 : nb p = -1 := if_neg g0
        rw [e0] at hN0
        have HF := Lib.hid (fh_no m s hng)
        clear hmk hn hm hB hg e0
        go_wp2_with fail
        go_quiet (first | (go_at_call_of 44 (Value.int IntKind.u8 (p : Int)); exact Calls.quiet_of_same (hN0 _)) | (go_at_call_of 44 (Value.int IntKind.u8 (q : Int)); exact Calls.quiet_of_same (hN1 _)))
        go_wp2_with fail
        go_ret2
        exact ⟨by rw [HF.out]; rfl, below_drewN hbl _⟩
    · have hk' : k = m := by omega
      have hns : n = s.size := by omega
      have HE := Lib.hid (fh_yes m s (fun j hj => hg j (by omega)))
      subst hk'
      rw [Nat.sub_self, List.replicate_zero, List.append_nil, List.take_of_length_le (by omega)] at hB
      have hcv := hB.conv k k hl
      subst hns
      clear hmk hB hg hn HM hm
      go_wp2
      go_ret2
      exact ⟨by rw [HE.out]; rfl, hbl⟩

end Go.Proofs.Ytfnhaadikfenpaa.Hh
