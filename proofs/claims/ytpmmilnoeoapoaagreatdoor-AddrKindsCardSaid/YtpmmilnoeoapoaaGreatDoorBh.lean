/-
  Addresses: Itoa, Join off the shelf; the text of an IP of family 4.
-/
import Derived.Test.YtpmmilnoeoapoaaGreatDoorAe
import Derived.Test.YtpmmilnoeoapoaaGreatDoorNa
import Derived.Shelf.Strconv.Itoa3
import Derived.Shelf.Strings.OnBuilder
import Derived.Shelf.Lay
import Derived.Ground.NamesProg
import Derived.Lib.AppendIntMem
import Derived.WalkKit
import Derived.WalkSpells
set_option linter.unusedVariables false
namespace Go.Proofs
open Go.Shelf
shelf_lay LaysM.n171 Nm 171 at Tryz as Tryz.laysItoa
shelf_lay Lays.n156 Nm 156 at Tryz as Tryz.laysJoin
theorem Tryz.joinExtra : Builder.Extra Tryz.prog Tryz.laysJoin_ren where
  sizeBuilder := by kernel_rfl
  liesBuilder := by kernel_rfl
  t5 := Tryz.underlying5
  a5 := Tryz.isAgg5
  z5 := Tryz.sizeOf5
  v5 := Tryz.zeroValue5
  infoByte := by kernel_rfl
  cellsByte := by kernel_rfl
  sizeByte := by kernel_rfl
  neB5 := by decide
end Go.Proofs
namespace Go.Proofs.YtpmmilnoeoapoaaGreatDoor.Bh
open Go Go.RowKit Go.Proofs.YtpmmilnoeoapoaaGreatDoor.Hz Go.Proofs.YtpmmilnoeoapoaaGreatDoor.Ac Go.Proofs.YtpmmilnoeoapoaaGreatDoor.Na Go.Proofs.YtpmmilnoeoapoaaGreatDoor.Sx

/-- strconv's table in memory -/
def Tab (w : World) : Prop := Lib.TabIs Tryz.prog w "internal/strconv.uint64pow10" .u64 Lib.pow10Tab
theorem Tab.below {w w' : World} (h : Tab w) (hb : Below w.heap.size w w') : Tab w' := Lib.tabBelow_of_tabIs h w' hb
theorem Tab.alloc {w : World} (h : Tab w) (o : Obj) : Tab (w.alloc o) := h.below ((Below.refl _ _).alloc (Nat.le_refl _) _)
/-- a number's digits -/
def dec (k : Nat) : ByteArray := ⟨(Lib.decDigits k).toArray⟩
theorem below_grow (w : World) (k : Nat) (os : Array Obj) : Below w.heap.size w (Sort.grow (w.drewN k) os) := by
  refine ⟨rfl, rfl, rfl, ?_, fun b hb => ?_⟩
  · simp [Sort.grow]
  · simp [Sort.grow, Array.getElem?_append_left hb]
theorem Itoa_any (k : Nat) (hk : k ≤ 9223372036854775807) (w : World) (ht : Tab w) :
    Calls Tryz.prog 75 #[.int .i64 (k : Int)] w fun e w' => e = .returned (.string (dec k)) ∧ Below w.heap.size w w' := by
  refine (Any.strconv_Itoa Tryz.laysItoa (k : Int) (by omega) (by omega) w ht).mono ?_
  rintro e w' ⟨rfl, n, os, rfl⟩
  refine ⟨?_, below_grow w n os⟩
  rw [Lib.itoa_nonneg]
  rfl
theorem dec_size (k : Nat) (h : k < 100000) : (dec k).size ≤ 5 := by
  have : ∀ n k : Nat, k < 10 ^ (n + 1) → (Lib.decDigits k).length ≤ n + 1 := by
    intro n
    induction n with
    | zero => intro k hk; rw [Lib.decDigits_one (by omega)]; simp
    | succ n ih =>
      intro k hk
      by_cases h : k < 10
      · rw [Lib.decDigits_one h]; simp
      · rw [Lib.decDigits, dif_neg h, List.length_append]
        have := ih (k / 10) (by rw [Nat.pow_succ] at hk; omega)
        simp
        omega
  exact this 4 k (by simpa using h)

/-- the four parts -/
def pts (ip : ByteArray) : List ByteArray := [dec (by_ ip 0), dec (by_ ip 1), dec (by_ ip 2), dec (by_ ip 3)]
/-- the text of an IP -/
def tx4 (ip : ByteArray) : ByteArray := ⟨(Lib.join ((pts ip).map (·.data.toList)) (⟨#[46]⟩ : ByteArray).data.toList).toArray⟩
def iOf : Value → Int | .int _ n => n | _ => 0
theorem tx4_size (ip : ByteArray) : (Lib.join ((pts ip).map (·.data.toList)) (⟨#[46]⟩ : ByteArray).data.toList).length ≤ 23 := by
  have h := fun i => dec_size (by_ ip i) (by have := by_lt ip i; omega)
  have e : (Lib.join ((pts ip).map (·.data.toList)) (⟨#[46]⟩ : ByteArray).data.toList).length = (dec (by_ ip 0)).size + 1 + (dec (by_ ip 1)).size + 1 + (dec (by_ ip 2)).size + 1 + (dec (by_ ip 3)).size := by
    simp [Lib.join, pts, List.intercalate]
    omega
  have h0 := h 0
  have h1 := h 1
  have h2 := h 2
  have h3 := h 3
  omega

theorem mk4 (w : World) : (Instr.makeSlice 125 (.int .i64 4) (.int .i64 4)).run Tryz.prog w = .ok (.slice (some ⟨w.heap.size, 0, none⟩) 4 4) (w.alloc (.cells #[.string ⟨#[]⟩, .string ⟨#[]⟩, .string ⟨#[]⟩, .string ⟨#[]⟩] 9)) := by kernel_rfl
/-- the parts so far -/
def pat (ip : ByteArray) (k j : Nat) : ByteArray := if j < k then dec (by_ ip j) else ⟨#[]⟩
set_option maxRecDepth 100000 in
set_option maxHeartbeats 2000000 in
theorem text4 (ip : ByteArray) (w : World) (h : ip.size = 4) (ht : Tab w) : Calls Tryz.prog 180 #[.agg #[], .string ip] w fun e w' => e = .returned (.string (tx4 ip)) ∧ Below w.heap.size w w' := by
  have HI := Lib.hid Itoa_any
  have HT := Lib.hid ht
  have hmk := mk4
  have HJ := Lib.hid (fun (w w2 : World) g (hc : ∀ j, j < 4 → w2.cell? ⟨g, j, none⟩ = some (.string (pat ip 4 j))) (hg : g < w2.heap.size) => Any.strings_Join Tryz.laysJoin Tryz.joinExtra g 0 4 (pts ip) ⟨#[46]⟩ w2 (fun j x hx => by
    have hj : j < 4 := by
      rcases Nat.lt_or_ge j (pts ip).length with h | h
      · exact h
      · rw [List.getElem?_eq_none h] at hx; cases hx
    rw [Nat.zero_add, hc j hj]
    obtain rfl | rfl | rfl | rfl : j = 0 ∨ j = 1 ∨ j = 2 ∨ j = 3 := by omega
    all_goals
      cases hx
      rfl) hg (show 4 ≤ _ by omega) (show 4 ≤ 4 by omega) (by have := tx4_size ip; omega))
  have HX := Lib.hid (show tx4 ip = ⟨(Lib.join ((pts ip).map (·.data.toList)) (⟨#[46]⟩ : ByteArray).data.toList).toArray⟩ from rfl)
  generalize tx4 ip = TX at HX ⊢
  clear ht
  go_enter Tryz.func180, Tryz.ntmps180
  go_wp2_with fail
  obtain ⟨w2, hw2⟩ : ∃ w2, (w.alloc (.cells #[] 108)).alloc (.cells #[.string ⟨#[]⟩, .string ⟨#[]⟩, .string ⟨#[]⟩, .string ⟨#[]⟩] 9) = w2 := ⟨_, rfl⟩
  rw [hw2]
  have HB2 := Lib.hid (show Below w.heap.size w w2 from by rw [← hw2]; exact below_gb (gb_trans (gb_alloc _ _ _) (gb_alloc _ _ _)))
  have hs2 : w2.heap.size = w.heap.size + 2 := by rw [← hw2]; simp
  have hr2 : w2.heap[w.heap.size + 1]? = some (.cells #[.string ⟨#[]⟩, .string ⟨#[]⟩, .string ⟨#[]⟩, .string ⟨#[]⟩] 9) := by rw [← hw2]; have := World.alloc_heap_new (w.alloc (.cells #[] 108)) (.cells #[.string ⟨#[]⟩, .string ⟨#[]⟩, .string ⟨#[]⟩, .string ⟨#[]⟩] 9); rwa [World.size_alloc] at this
  have HC2 := Lib.hid (show ∀ j, j < 4 → w2.cell? ⟨w.heap.size + 1, j, none⟩ = some (.string (pat ip 0 j)) from fun j hj => by
    obtain rfl | rfl | rfl | rfl : j = 0 ∨ j = 1 ∨ j = 2 ∨ j = 3 := by omega
    all_goals exact cell_at hr2 rfl)
  have HF2 := Lib.hid (show ∀ j, w2.frozen? ⟨w.heap.size + 1, j, none⟩ = false from fun j => frozen_at j hr2)
  clear hw2 hr2 hmk
  go_loopw [10] (fun i wr => ∃ (k : Nat), k ≤ 4 ∧ i = .int .i64 (k : Int) ∧ Hid (∀ j, j < 4 → wr.cell? ⟨w.heap.size + 1, j, none⟩ = some (.string (pat ip k j))) ∧ Hid (∀ j, wr.frozen? ⟨w.heap.size + 1, j, none⟩ = false) ∧ Hid (Below w.heap.size w wr) ∧ Hid (w.heap.size + 1 < wr.heap.size)) (fun i _ => 4 - (iOf i).toNat)
  case atStart => exact ⟨0, by omega, rfl, HC2, HF2, HB2, Lib.hid (by omega)⟩
  case round =>
    obtain ⟨k, hk, rfl, HC, HF, HB, HL⟩ := hrel
    by_cases hkl : k < 4
    · have hks : k < ip.size := by omega
      have hb := by_at ip k hks
      have hlt := by_lt ip k
      have hi0 : (0 : Int) ≤ (k : Int) := by omega
      have hi4 : (k : Int) < 4 := by omega
      have hi5 : (k : Int) < (ip.size : Int) := by omega
      have HP := Lib.hid (show ∀ j, pat ip (k + 1) j = if j = k then dec (by_ ip k) else pat ip k j from fun j => by
        unfold pat
        by_cases e : j = k
        · subst e; rw [if_pos (by omega), if_pos rfl]
        · rw [if_neg e]
          by_cases l : j < k
          · rw [if_pos (by omega), if_pos l]
          · rw [if_neg (by omega), if_neg l])
      generalize by_ ip k = x at hb hlt HP
      have HTw := Lib.hid (HT.out.below HB.out)
      go_wp2_with fail
      refine (HI.out x (by omega) _ HTw.out).mono ?_
      rintro e w5 ⟨rfl, hb5⟩
      have hc5 := kcell hb5 (HC.out k hkl)
      have hl := HL.out
      have hf5 : w5.frozen? ⟨w.heap.size + 1, k, none⟩ = false := (hb5.frozen (p := ⟨w.heap.size + 1, k, none⟩) hl).trans (HF.out k)
      have HC5 := Lib.hid (show ∀ j, j < 4 → (w5.setCell ⟨w.heap.size + 1, k, none⟩ (.string (dec x))).cell? ⟨w.heap.size + 1, j, none⟩ = some (.string (pat ip (k + 1) j)) from fun j hj => by
        rw [HP.out j]
        by_cases e : j = k
        · subst e; rw [if_pos rfl]; exact World.cell?_setCell_same _ _ _ hc5
        · rw [if_neg e]
          exact (World.cell?_setCells_out (w.heap.size + 1) [.string (dec x)] k w5 ⟨w.heap.size + 1, j, none⟩ (fun _ _ => by show j < k ∨ k + 1 ≤ j; omega)).trans (kcell hb5 (HC.out j hj)))
      have HF5 := Lib.hid (show ∀ j, (w5.setCell ⟨w.heap.size + 1, k, none⟩ (.string (dec x))).frozen? ⟨w.heap.size + 1, j, none⟩ = false from fun j => (World.frozen?_setCells (w.heap.size + 1) [.string (dec x)] k w5 ⟨w.heap.size + 1, j, none⟩).trans ((hb5.frozen (p := ⟨w.heap.size + 1, j, none⟩) hl).trans (HF.out j)))
      have HB5 := Lib.hid (below_gb (gb_new (gb_below (blw HB.out hb5) none) (w.heap.size + 1) k (.string (dec x)) (by omega)))
      have HL5 := Lib.hid (show w.heap.size + 1 < (w5.setCell ⟨w.heap.size + 1, k, none⟩ (.string (dec x))).heap.size from by have := hb5.size; simp; omega)
      clear hb5 hl
      go_wp2_with fail
      exact ⟨⟨k + 1, by omega, by go_num, HC5, HF5, HB5, HL5⟩, by simp [iOf]; omega⟩
    · obtain rfl : k = 4 := by omega
      go_wp2_with fail
      refine (HJ.out w _ _ HC.out HL.out).mono ?_
      rintro e w5 ⟨rfl, hb5⟩
      rw [← HX.out]
      have HB5 := Lib.hid (blw HB.out hb5)
      clear hb5
      go_wp2
      go_ret
      exact ⟨rfl, HB5.out⟩
end Go.Proofs.YtpmmilnoeoapoaaGreatDoor.Bh
