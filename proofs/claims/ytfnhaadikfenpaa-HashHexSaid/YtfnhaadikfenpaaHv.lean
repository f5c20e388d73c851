/-
  Hexadecimal digits: what Hex writes.
-/
import Derived.Test.YtfnhaadikfenpaaHu
import Derived.WalkKit
import Derived.WalkSpells
import Derived.WalkLawsBesides
import Derived.LoopTactic
import Derived.Outline
import Derived.BigRegion
import Derived.RegionTactic
import Derived.Deep.RegionLaw
import Derived.Deep.AppendLies
import Derived.Lib.Hide
namespace Go.Proofs.Ytfnhaadikfenpaa.Hh
open Go Go.RowKit

/-- a digit's byte -/
def dg (n : Nat) : Int := if n < 10 then (48 + n : Nat) else (87 + n : Nat)
/-- byte k of a text as a number -/
def bt (s : ByteArray) (k : Nat) : Nat := (s.data.toList.getD k 0).toNat
theorem bt_at (s : ByteArray) (k : Nat) (h : k < s.size) : s[k].toNat = bt s k := by
  have h' : k < s.data.toList.length := by rw [len_data]; exact h
  unfold bt
  rw [List.getD, List.getElem?_eq_getElem h']
  rfl
theorem bt_lt (s : ByteArray) (k : Nat) : bt s k < 256 := UInt8.toNat_lt _
/-- the j-th digit of a text -/
def hd (s : ByteArray) (j : Nat) : Int := if j % 2 = 0 then dg (bt s (j / 2) / 16) else dg (bt s (j / 2) % 16)
/-- all digits of a text -/
def hxI (s : ByteArray) : List Int := (List.range (2 * s.size)).map (hd s)
def hx (s : ByteArray) : ByteArray := strOfNums (hxI s)
theorem hxI_length (s : ByteArray) : (hxI s).length = 2 * s.size := by simp [hxI]
theorem hxI_at (s : ByteArray) (j : Nat) (h : j < 2 * s.size) : (hxI s).getD j 0 = hd s j := by
  simp [hxI, List.getD, h]
theorem hxI_0 (s : ByteArray) (k : Nat) (h : k < s.size) : (hxI s).getD (2 * k) 0 = dg (bt s k / 16) := by
  rw [hxI_at _ _ (by omega)]; unfold hd; rw [if_pos (by omega), Nat.mul_div_cancel_left _ (by omega)]
theorem hxI_1 (s : ByteArray) (k : Nat) (h : k < s.size) : (hxI s).getD (2 * k + 1) 0 = dg (bt s k % 16) := by
  rw [hxI_at _ _ (by omega)]; unfold hd; rw [if_neg (by omega), show (2 * k + 1) / 2 = k by omega]

theorem dig_at (n : Nat) (h : n < 16) (w : World) : (Instr.index 9 (.string ⟨#[48, 49, 50, 51, 52, 53, 54, 55, 56, 57, 97, 98, 99, 100, 101, 102]⟩) (.int .u8 (n : Int))).run Try.prog w = .ok (.int .u8 (dg n)) w := by
  have hc : n = 0 ∨ n = 1 ∨ n = 2 ∨ n = 3 ∨ n = 4 ∨ n = 5 ∨ n = 6 ∨ n = 7 ∨ n = 8 ∨ n = 9 ∨ n = 10 ∨ n = 11 ∨ n = 12 ∨ n = 13 ∨ n = 14 ∨ n = 15 := by omega
  rcases hc with rfl | rfl | rfl | rfl | rfl | rfl | rfl | rfl | rfl | rfl | rfl | rfl | rfl | rfl | rfl | rfl
  all_goals rfl

theorem dig_hi (x : Nat) (h : x < 256) (w : World) : (Instr.index 9 (.string ⟨#[48, 49, 50, 51, 52, 53, 54, 55, 56, 57, 97, 98, 99, 100, 101, 102]⟩) (.int .u8 ((x : Int) / 16))).run Try.prog w = .ok (.int .u8 (dg (x / 16))) w := dig_at (x / 16) (by omega) w
theorem dig_lo (x : Nat) (w : World) : (Instr.index 9 (.string ⟨#[48, 49, 50, 51, 52, 53, 54, 55, 56, 57, 97, 98, 99, 100, 101, 102]⟩) (.int .u8 ((x : Int) % 16))).run Try.prog w = .ok (.int .u8 (dg (x % 16))) w := dig_at (x % 16) (by omega) w

theorem and15 (x : Nat) (h : x < 256) : bits BinOp.and IntKind.u8 (x : Int) 15 = (x : Int) % 16 := by
  have hd : ∀ y : Fin 256, bits BinOp.and IntKind.u8 (y.val : Int) 15 = (y.val : Int) % 16 := by decide +kernel
  exact hd ⟨x, h⟩

/-- two bytes put behind those that are there -/
theorem set_two (xs : List Int) (n k : Nat) (u v : Int) (hn : xs.length = n) (hk : k + 1 < n) (hu : xs.getD k 0 = u) (hv : xs.getD (k + 1) 0 = v) :
    ((xs.take k ++ List.replicate (n - k) 0).set k u).set (k + 1) v = xs.take (k + 2) ++ List.replicate (n - (k + 2)) 0 := by
  rw [set_step xs n k u hn (by omega) hu, set_step xs n (k + 1) v hn hk hv]
theorem Bk.two {w : World} {g : Nat} {xs : List Int} (H : Bk w g xs) (i : Nat) (u v : Int) : Bk (w.setCells g i [.int .u8 u, .int .u8 v]) g ((xs.set i u).set (i + 1) v) := (H.set i u).set (i + 1) v
theorem Bk.one {w : World} {g : Nat} {xs : List Int} (H : Bk w g xs) (i : Nat) (u : Int) : Bk (w.setCells g i [.int .u8 u]) g (xs.set i u) := H.set i u

/-- what an append with room asks of a block of bytes -/
theorem Bk.spare {w : World} {g : Nat} {xs : List Int} (H : Bk w g xs) (n m : Nat) (h : n + m ≤ xs.length) : ∀ j, j < m → (w.cell? ⟨g, 0 + n * 1 + j, none⟩).isSome = true ∧ w.frozen? ⟨g, 0 + n * 1 + j, none⟩ = false := fun j hj => by
  rw [H.cell _ (by omega)]
  exact ⟨rfl, H.free _⟩
theorem Bk.alloc {w : World} {g : Nat} {xs : List Int} (H : Bk w g xs) (o : Obj) : Bk (w.alloc o) g xs := H.below ((Below.refl w.heap.size w).alloc (Nat.le_refl _) o) H.lt
theorem one_of_u8 (l : List Int) : ∀ u ∈ l.map (Value.int .u8), u.oneCell' = true := fun u hu => by
  obtain ⟨x, _, rfl⟩ := List.mem_map.1 hu; rfl

theorem make0 (n : Nat) (w : World) (hn : n ≤ 281474976710656) : (Instr.makeSlice 28 (.int .i64 0) (.int .i64 (n : Int))).run Try.prog w = .ok (.slice (some ⟨w.heap.size, 0, none⟩) 0 n) (w.alloc (.cells (bytesI (List.replicate n 0)) 5)) := by
  have hi3 : (Try.prog.info? 5).map (fun i => (i.zero, i.size, i.bytes)) = some (some (.int .u8 0), 1, 1) := by kernel_rfl
  obtain ⟨i0, hi, hz0, hz1, hz2⟩ := info_parts hi3
  rw [run_make (P := Try.prog) w 28 5 i0 (.int .u8 0) Try.underlying28 hi hz0 .i64 .i64 0 n (by omega) (by omega) (by rw [hz2]; omega) (by omega)]
  rw [hz1, Int.toNat_natCast, Nat.mul_one, madeU8]
  rfl

set_option maxHeartbeats 1000000 in
theorem RHex_any (s : ByteArray) (w : World) (hs : s.size ≤ 5000) :
    Calls Try.prog 30 #[.string s] w fun e w' => e = .returned (.string (hx s)) ∧ Below w.heap.size w w' := by
  have hmk : ∀ w, (Instr.makeSlice 28 (.int .i64 0) (.int .i64 (2 * (s.size : Int)))).run Try.prog w = .ok (.slice (some ⟨w.heap.size, 0, none⟩) 0 (2 * s.size)) (w.alloc (.cells (bytesI (List.replicate (2 * s.size) 0)) 5)) := fun w => by have := make0 (2 * s.size) w (by omega); rwa [show ((2 * s.size : Nat) : Int) = 2 * (s.size : Int) by omega] at this
  have hl := hxI_length s
  have hi3 : (Try.prog.info? 5).map (fun i => (i.zero, i.size, i.bytes)) = some (some (.int .u8 0), 1, 1) := by kernel_rfl
  obtain ⟨i0, hi, hz0, hz1, hz2⟩ := info_parts hi3
  go_enter Try.func30, Try.ntmps30
  go_wp2
  go_loopw [3, 4, 11] (fun o _ i wr => ∃ k : Nat, k ≤ s.size ∧ i = .int .i64 k ∧ o = .slice (some ⟨w.heap.size, 0, none⟩) (2 * k) (2 * s.size) ∧ Bk wr w.heap.size ((hxI s).take (2 * k) ++ List.replicate (2 * s.size - 2 * k) 0) ∧ Below w.heap.size w wr) (fun _ _ i _ => s.size - (intOf i).toNat)
  case atStart => exact ⟨0, Nat.zero_le _, rfl, rfl, by simpa using Bk.new w _ _, (Below.refl _ _).alloc (Nat.le_refl _) _⟩
  case round =>
    obtain ⟨k, hk, rfl, rfl, hB, hbl⟩ := hrel
    by_cases hlt : k < s.size
    · have h0 := hxI_0 s k hlt
      have h1 := hxI_1 s k hlt
      have hb := bt_at s k hlt
      have hw16 : IntKind.u8.wrap ((bt s k : Int) / 16) = (bt s k : Int) / 16 := by have := bt_lt s k; simp only [IntKind.wrap_u8]; omega
      have hhi := dig_hi (bt s k) (bt_lt s k)
      have hlo := dig_lo (bt s k)
      have htm : ((bt s k : Int)).tmod 16 = (bt s k : Int) % 16 := Int.tmod_eq_emod_of_nonneg (by omega)
      have hlen : ((hxI s).take (2 * k) ++ List.replicate (2 * s.size - 2 * k) 0).length = 2 * s.size := by simp [hl]; omega
      have hB2 : Bk (wr.alloc (.cells (bytesI [dg (bt s k / 16), dg (bt s k % 16)]) 5)).drew w.heap.size ((hxI s).take (2 * k) ++ List.replicate (2 * s.size - 2 * k) 0) := (hB.alloc _).drew
      have hnews : Hid (∀ j u, ([Value.int .u8 (dg (bt s k / 16)), Value.int .u8 (dg (bt s k % 16))] : List Value)[j]? = some u → (wr.alloc (.cells (bytesI [dg (bt s k / 16), dg (bt s k % 16)]) 5)).drew.cell? ((⟨wr.heap.size, 0, none⟩ : Addr).add j) = some u) :=
        Lib.hid (World.news_of_block (w := (wr.alloc (.cells (bytesI [dg (bt s k / 16), dg (bt s k % 16)]) 5)).drew) (heap_alloc_new wr (.cells (bytesI [dg (bt s k / 16), dg (bt s k % 16)]) 5)))
      have hone : Hid (∀ u ∈ ([Value.int .u8 (dg (bt s k / 16)), Value.int .u8 (dg (bt s k % 16))] : List Value), u.oneCell' = true) := Lib.hid (one_of_u8 [_, _])
      have hsp := Lib.hid (hB2.spare (2 * k) 2 (by omega))
      have hB3 := hB2.two (0 + 2 * k * 1) (dg (bt s k / 16)) (dg (bt s k % 16))
      rw [show 0 + 2 * k * 1 = 2 * k by omega, set_two (hxI s) (2 * s.size) (2 * k) _ _ hl (by omega) h0 h1] at hB3
      have hbl2 : Below w.heap.size w ((wr.alloc (.cells (bytesI [dg (bt s k / 16), dg (bt s k % 16)]) 5)).drew.setCells w.heap.size (2 * k) [Value.int .u8 (dg (bt s k / 16)), Value.int .u8 (dg (bt s k % 16))]) :=
        (((hbl.alloc hbl.size _).drew).setCell (Nat.le_refl _) _).setCell (Nat.le_refl _) _
      have hx0 : 0 + 2 * k * 1 = 2 * k := by omega
      have HB3 := Lib.hid hB3
      clear hmk hB hB2 hB3 h0 h1 hlen hi3
      go_wp2_with fail
      go_region_law (refine step_append_room rfl (.tmp 14) (.tmp 25) 28 rfl 5 i0 1 Try.underlying28 hi hz1 w.heap.size 0 (2 * k) (2 * s.size) (by simp [Act.eval]) ⟨wr.heap.size, 0, none⟩ 2 2 [.int .u8 (dg (bt s k / 16)), .int .u8 (dg (bt s k % 16))] (by simp [Act.eval]) rfl hnews.out hone.out (by omega) hsp.out ?_)
      all_goals
        go_wp2
        exact ⟨⟨k + 1, by omega, by go_num, rfl, HB3.out, hbl2⟩, by simp [intOf]; omega⟩
    · have hk' : k = s.size := by omega
      rw [hk', Nat.sub_self, List.replicate_zero, List.append_nil, List.take_of_length_le (by omega)] at hB
      have hcv := hB.conv (2 * s.size) (2 * s.size) hl
      clear hmk hB
      subst hk'
      go_wp2
      go_ret
      exact ⟨rfl, hbl⟩

set_option maxHeartbeats 1000000 in
theorem Hex_any (s : ByteArray) (w : World) (hs : s.size ≤ 5000) :
    Calls Try.prog 29 #[.string s] w fun e w' => e = .returned (.string (hx s)) ∧ Below w.heap.size w w' := by
  have hmk : ∀ w, (Instr.makeSlice 28 (.int .i64 0) (.int .i64 (2 * (s.size : Int)))).run Try.prog w = .ok (.slice (some ⟨w.heap.size, 0, none⟩) 0 (2 * s.size)) (w.alloc (.cells (bytesI (List.replicate (2 * s.size) 0)) 5)) := fun w => by have := make0 (2 * s.size) w (by omega); rwa [show ((2 * s.size : Nat) : Int) = 2 * (s.size : Int) by omega] at this
  have hl := hxI_length s
  have hi3 : (Try.prog.info? 5).map (fun i => (i.zero, i.size, i.bytes)) = some (some (.int .u8 0), 1, 1) := by kernel_rfl
  obtain ⟨i0, hi, hz0, hz1, hz2⟩ := info_parts hi3
  go_enter Try.func29, Try.ntmps29
  go_wp2
  go_loopw [3, 4, 11] (fun o _ i wr => ∃ k : Nat, k ≤ s.size ∧ i = .int .i64 k ∧ o = .slice (some ⟨w.heap.size, 0, none⟩) (2 * k) (2 * s.size) ∧ Bk wr w.heap.size ((hxI s).take (2 * k) ++ List.replicate (2 * s.size - 2 * k) 0) ∧ Below w.heap.size w wr) (fun _ _ i _ => s.size - (intOf i).toNat)
  case atStart => exact ⟨0, Nat.zero_le _, rfl, rfl, by simpa using Bk.new w _ _, (Below.refl _ _).alloc (Nat.le_refl _) _⟩
  case round =>
    obtain ⟨k, hk, rfl, rfl, hB, hbl⟩ := hrel
    by_cases hlt : k < s.size
    · have h0 := hxI_0 s k hlt
      have h1 := hxI_1 s k hlt
      have hb := bt_at s k hlt
      have hw16 : IntKind.u8.wrap ((bt s k : Int) / 16) = (bt s k : Int) / 16 := by have := bt_lt s k; simp only [IntKind.wrap_u8]; omega
      have han := and15 (bt s k) (bt_lt s k)
      have hhi := dig_hi (bt s k) (bt_lt s k)
      have hlo := dig_lo (bt s k)
      have htm : ((bt s k : Int)).tmod 16 = (bt s k : Int) % 16 := Int.tmod_eq_emod_of_nonneg (by omega)
      have hlen : ((hxI s).take (2 * k) ++ List.replicate (2 * s.size - 2 * k) 0).length = 2 * s.size := by simp [hl]; omega
      have hB2 : Bk (wr.alloc (.cells (bytesI [dg (bt s k / 16), dg (bt s k % 16)]) 5)).drew w.heap.size ((hxI s).take (2 * k) ++ List.replicate (2 * s.size - 2 * k) 0) := (hB.alloc _).drew
      have hnews : Hid (∀ j u, ([Value.int .u8 (dg (bt s k / 16)), Value.int .u8 (dg (bt s k % 16))] : List Value)[j]? = some u → (wr.alloc (.cells (bytesI [dg (bt s k / 16), dg (bt s k % 16)]) 5)).drew.cell? ((⟨wr.heap.size, 0, none⟩ : Addr).add j) = some u) :=
        Lib.hid (World.news_of_block (w := (wr.alloc (.cells (bytesI [dg (bt s k / 16), dg (bt s k % 16)]) 5)).drew) (heap_alloc_new wr (.cells (bytesI [dg (bt s k / 16), dg (bt s k % 16)]) 5)))
      have hone : Hid (∀ u ∈ ([Value.int .u8 (dg (bt s k / 16)), Value.int .u8 (dg (bt s k % 16))] : List Value), u.oneCell' = true) := Lib.hid (one_of_u8 [_, _])
      have hsp := Lib.hid (hB2.spare (2 * k) 2 (by omega))
      have hB3 := hB2.two (0 + 2 * k * 1) (dg (bt s k / 16)) (dg (bt s k % 16))
      rw [show 0 + 2 * k * 1 = 2 * k by omega, set_two (hxI s) (2 * s.size) (2 * k) _ _ hl (by omega) h0 h1] at hB3
      have hbl2 : Below w.heap.size w ((wr.alloc (.cells (bytesI [dg (bt s k / 16), dg (bt s k % 16)]) 5)).drew.setCells w.heap.size (2 * k) [Value.int .u8 (dg (bt s k / 16)), Value.int .u8 (dg (bt s k % 16))]) :=
        (((hbl.alloc hbl.size _).drew).setCell (Nat.le_refl _) _).setCell (Nat.le_refl _) _
      have hx0 : 0 + 2 * k * 1 = 2 * k := by omega
      have HB3 := Lib.hid hB3
      clear hmk hB hB2 hB3 h0 h1 hlen hi3
      go_wp2_with fail
      go_region_law (refine step_append_room rfl (.tmp 14) (.tmp 25) 28 rfl 5 i0 1 Try.underlying28 hi hz1 w.heap.size 0 (2 * k) (2 * s.size) (by simp [Act.eval]) ⟨wr.heap.size, 0, none⟩ 2 2 [.int .u8 (dg (bt s k / 16)), .int .u8 (dg (bt s k % 16))] (by simp [Act.eval]) rfl hnews.out hone.out (by omega) hsp.out ?_)
      all_goals
        go_wp2
        exact ⟨⟨k + 1, by omega, by go_num, rfl, HB3.out, hbl2⟩, by simp [intOf]; omega⟩
    · have hk' : k = s.size := by omega
      rw [hk', Nat.sub_self, List.replicate_zero, List.append_nil, List.take_of_length_le (by omega)] at hB
      have hcv := hB.conv (2 * s.size) (2 * s.size) hl
      clear hmk hB
      subst hk'
      go_wp2
      go_ret
      exact ⟨rfl, hbl⟩

end Go.Proofs.Ytfnhaadikfenpaa.Hh
