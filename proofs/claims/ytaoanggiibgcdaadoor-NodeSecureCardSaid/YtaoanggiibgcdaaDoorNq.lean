/-
  node: heads, the identifier without bits, sums (the program's).
-/
import Derived.Test.YtaoanggiibgcdaaDoorNk
import Derived.Test.YtaoanggiibgcdaaDoorNp
import Derived.Shelf.Strings.Repeat
import Derived.Shelf.Lay
import Derived.Ground.NamesProg
import Derived.Deep.RegionHeld3
import Derived.IntWalk
namespace Go.Proofs.YtaoanggiibgcdaaDoor.Nq
open Go Go.RowKit Go.Shelf Go.Proofs.YtaoanggiibgcdaaDoor.Hz Go.Proofs.YtaoanggiibgcdaaDoor.Na Go.Proofs.YtaoanggiibgcdaaDoor.Nb Go.Proofs.YtaoanggiibgcdaaDoor.Nf
open Go.Proofs.YtaoanggiibgcdaaDoor.Ng (and8)
open Go.Proofs.YtaoanggiibgcdaaDoor.Nj (or8)

theorem andNot8 (a b : Nat) (ha : a < 256) (hb : b < 256) : Go.bits .andNot .u8 (a : Int) (b : Int) = ((a &&& (255 - b) : Nat) : Int) := by
  have h1 : (BitVec.ofInt 8 (a : Int)).toNat = a := by rw [BitVec.ofInt_natCast, BitVec.toNat_ofNat]; exact Nat.mod_eq_of_lt ha
  have h2 : (BitVec.ofInt 8 (b : Int)).toNat = b := by rw [BitVec.ofInt_natCast, BitVec.toNat_ofNat]; exact Nat.mod_eq_of_lt hb
  show IntKind.u8.wrap ((BitVec.ofInt 8 (a : Int) &&& ~~~ BitVec.ofInt 8 (b : Int)).toNat : Int) = _
  rw [BitVec.toNat_and, BitVec.toNat_not, h1, h2, IntKind.wrap_u8]
  have : a &&& (255 - b) < 256 := Nat.lt_of_le_of_lt Nat.and_le_left ha
  show (((a &&& (255 - b) : Nat) : Int)) % 256 = _
  omega

/-- the masks lie there -/
def Ms (w : World) (g : Nat) : Prop := ∀ j, j ≤ 8 → w.cell? ⟨g, j, none⟩ = some (.int .u8 (mk j : Int))
theorem Ms.below {w w' : World} {g : Nat} (h : Ms w g) (hb : Below w.heap.size w w') : Ms w' g := fun j hj => kcell hb (h j hj)
theorem mk_min (n : Nat) : mk (min 8 n) = mk n := by unfold mk; congr 2; omega
set_option maxRecDepth 100000 in
set_option maxHeartbeats 800000 in
theorem headF_any (i n x y pm pn : Nat) (w : World) (hi : i < 20) (hn : n ≤ 160) (hx : x < 256) (hy' : y < 256) (hm : Ms w pm) (hp : w.cell? ⟨pn, 0, none⟩ = some (.int .i64 (n : Int))) :
    Calls Tryd.prog 36 #[.int .i64 (i : Int), .int .u8 (x : Int), .int .u8 (y : Int), .pointer (some ⟨pm, 0, none⟩), .pointer (some ⟨pn, 0, none⟩)] w fun e w' => e = .returned (.int .u8 ((hy x y (mk (n - 8 * i)) : Nat) : Int)) ∧ w = w' := by
  have hml : mk (n - 8 * i) < 256 := by have := mk_lt (n - 8 * i); omega
  have key : ∀ m, mk (n - 8 * i) = m → Go.bits .or .u8 (Go.bits .and .u8 (x : Int) (m : Int)) (Go.bits .andNot .u8 (y : Int) (m : Int)) = ((hy x y m : Nat) : Int) := fun m e => by
    rw [e] at hml
    rw [and8 _ _ hx hml, andNot8 _ _ hy' hml, or8 _ _ (Nat.lt_of_le_of_lt Nat.and_le_left hx) (Nat.lt_of_le_of_lt Nat.and_le_left hy')]
    rfl
  have hc := hm (min 8 (n - 8 * i)) (by omega)
  rw [mk_min] at hc
  have hc2 : w.cell? ⟨pm, (min 8 (max 0 ((n : Int) - 8 * (i : Int)))).toNat, none⟩ = some (.int .u8 (mk (n - 8 * i) : Int)) := by
    rw [show (min 8 (max 0 ((n : Int) - 8 * (i : Int)))).toNat = min 8 (n - 8 * i) by omega]
    exact hc
  obtain ⟨m, he⟩ : ∃ m, mk (n - 8 * i) = m := ⟨_, rfl⟩
  have hk := key m he
  rw [he] at hc2 ⊢
  have HK := Lib.hid hk
  clear key hm hml he hk hc
  go_enter Tryd.func36, Tryd.ntmps36
  go_wp2
  rw [HK.out]
  go_ret
  exact ⟨rfl, rfl⟩

set_option maxRecDepth 100000 in
set_option maxHeartbeats 1600000 in
theorem joinh_any (a b : ByteArray) (n pm pn : Nat) (w : World) (ha : a.size = 20) (hb : b.size = 20) (hn : n ≤ 160) (hm : Ms w pm) (hp : w.cell? ⟨pn, 0, none⟩ = some (.int .i64 (n : Int))) :
    Calls Tryd.prog 35 #[.string a, .string b, .func (Fn.func 36) #[] #[.pointer (some ⟨pm, 0, none⟩), .pointer (some ⟨pn, 0, none⟩)]] w fun e w' => e = .returned (.string (hd a b n)) ∧ Below w.heap.size w w' := by
  have hmk : ∀ w, (Instr.makeSlice 39 (.int .i64 20) (.int .i64 20)).run Tryd.prog w = .ok (.slice (some ⟨w.heap.size, 0, none⟩) 20 20) (w.alloc (.cells (bytesI (List.replicate 20 0)) 5)) := fun w => makeN 20 w (by omega)
  have hl' := hl_len a b n
  have HX : Hid (∀ (i x y : Nat) w', i < 20 → x < 256 → y < 256 → Below w.heap.size w w' → Calls Tryd.prog 36 #[.int .i64 (i : Int), .int .u8 (x : Int), .int .u8 (y : Int), .pointer (some ⟨pm, 0, none⟩), .pointer (some ⟨pn, 0, none⟩)] w' fun e w2 => e = .returned (.int .u8 ((hy x y (mk (n - 8 * i)) : Nat) : Int)) ∧ w' = w2) :=
    Lib.hid fun i x y w' hi hx hy' hbl => headF_any i n x y pm pn w' hi hn hx hy' (hm.below hbl) (kcell hbl hp)
  have HA := Lib.hid ha
  have HB := Lib.hid hb
  clear ha hb hm hp
  go_enter Tryd.func35, Tryd.ntmps35
  go_wp2_with fail
  go_loopw [8, 12] (fun _ i wr => ∃ k : Nat, k ≤ 20 ∧ i = .int .i64 k ∧ Bk wr w.heap.size ((hl a b n).take k ++ List.replicate (20 - k) 0) ∧ Below w.heap.size w wr) (fun _ i _ => 20 - (intOf i).toNat)
  case atStart => exact ⟨0, Nat.zero_le _, rfl, by simpa using Bk.new w _ _, (Below.refl _ _).alloc (Nat.le_refl _) _⟩
  case round =>
    obtain ⟨k, hk, rfl, hB, hbl⟩ := hrel
    by_cases hlt : k < 20
    · have hka : k < a.size := by have := HA.out; omega
      have hkb : k < b.size := by have := HB.out; omega
      have hst := set_step (hl a b n) 20 k _ hl' hlt (hl_at a b n k hlt)
      have hc := hB.cell k (by simp [hl']; omega)
      have hf := hB.free k
      have hBs := hB.set k ((hdB a b n k : Nat) : Int)
      rw [hst] at hBs
      have HBs := Lib.hid hBs
      have ya := by_at a k hka
      have yb := by_at b k hkb
      have la := by_lt a k
      have lb := by_lt b k
      have hdx : hdB a b n k = hy (by_ a k) (by_ b k) (mk (n - 8 * k)) := rfl
      obtain ⟨x, hx⟩ : ∃ x, by_ a k = x := ⟨_, rfl⟩
      obtain ⟨y, hyy⟩ : ∃ y, by_ b k = y := ⟨_, rfl⟩
      rw [hx] at ya la
      rw [hyy] at yb lb
      rw [hx, hyy] at hdx
      have HX1 := Lib.hid (fun w' hbl => HX.out k x y w' hlt la lb hbl)
      simp only [← hdx] at HX1
      obtain ⟨z, hz⟩ : ∃ z, hdB a b n k = z := ⟨_, rfl⟩
      simp only [hz] at HBs HX1
      clear hst hB hBs hmk hx hyy hdx hz
      go_wp2_with fail
      go_region_with (go_at_call 36; refine (HX1.out _ hbl.drew).mono ?_; rintro e w1 ⟨rfl, rfl⟩)
      all_goals
        go_wp2_with fail
        exact ⟨⟨k + 1, by omega, by go_num, HBs.out.drew, (hbl.setCell (Nat.le_refl _) _).drew⟩, by simp [intOf]; omega⟩
    · have hk' : k = 20 := by omega
      rw [hk', Nat.sub_self, List.replicate_zero, List.append_nil, List.take_of_length_le (by omega)] at hB
      have hcv := hB.conv 20 20 hl'
      clear hmk hB
      go_wp2
      go_ret
      exact ⟨rfl, hbl⟩

theorem ms_new (w : World) : Ms (w.alloc (.cells #[.int .u8 0, .int .u8 128, .int .u8 192, .int .u8 224, .int .u8 240, .int .u8 248, .int .u8 252, .int .u8 254, .int .u8 255] 62)) w.heap.size := by
  intro j hj
  obtain rfl | rfl | rfl | rfl | rfl | rfl | rfl | rfl | rfl : j = 0 ∨ j = 1 ∨ j = 2 ∨ j = 3 ∨ j = 4 ∨ j = 5 ∨ j = 6 ∨ j = 7 ∨ j = 8 := by omega
  all_goals (simp [go_sem]; decide)
set_option maxRecDepth 100000 in
set_option maxHeartbeats 800000 in
theorem head_any (a b : ByteArray) (n : Nat) (w : World) (ha : a.size = 20) (hb : b.size = 20) (hn : n ≤ 160) :
    Calls Tryd.prog 21 #[.string a, .string b, .int .i64 (n : Int)] w fun e w' => e = .returned (.string (hd a b n)) ∧ Below w.heap.size w w' := by
  have hmf : ∀ (fn : Fn) (first cap : Array Value) (w : World), (Instr.makeFunc fn first cap).run Tryd.prog w = .ok (.func fn first cap) w := fun _ _ _ _ => rfl
  have HJ := Lib.hid (fun pm pn w hm hp => joinh_any a b n pm pn w ha hb hn hm hp)
  clear ha hb hn
  have hc : ((w.alloc (.cells #[.int .i64 (n : Int)] 3)).alloc (.cells #[.int .u8 0, .int .u8 128, .int .u8 192, .int .u8 224, .int .u8 240, .int .u8 248, .int .u8 252, .int .u8 254, .int .u8 255] 62)).cell? ⟨w.heap.size, 0, none⟩ = some (.int .i64 (n : Int)) := acell _ (new1 w _ _).1
  have hm := ms_new (w.alloc (.cells #[.int .i64 (n : Int)] 3))
  rw [World.size_alloc] at hm
  have HC := Lib.hid (HJ.out _ _ _ hm hc)
  clear hc hm
  go_enter Tryd.func21, Tryd.ntmps21
  go_wp2_with fail
  refine HC.out.mono ?_
  rintro e w1 ⟨rfl, hb1⟩
  go_wp2
  go_ret
  exact ⟨rfl, below_alloc _ (below_alloc _ hb1)⟩

/-! sums -/
end Go.Proofs.YtaoanggiibgcdaaDoor.Nq
