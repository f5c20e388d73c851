/-
  The contracts of the digests: of, Sum, Old, Pair, Zero, Check, awake.
-/
import Derived.Test.YtionmnjcfnmpeaaDoorHd
import Derived.WalkKit
import Derived.WalkSpells
import Derived.WalkLawsBesides
import Derived.LoopTactic
import Derived.Outline
import Derived.Deep.QuietTactic
import Derived.BigQuiet
import Derived.BigRegion
import Derived.RegionTactic
import Derived.Lib.Hide
namespace Go.Proofs.YtionmnjcfnmpeaaDoor.Hh
open Go Go.RowKit


/-- a row of texts in a block -/
def Strs (w : World) (c : Nat) (ss : List ByteArray) : Prop := ∀ i, i < ss.length → w.cell? ⟨c, i, none⟩ = some (.string (ss.getD i ByteArray.empty))
/-- texts, one behind the other -/
def cat (ss : List ByteArray) : List UInt8 := (ss.map fun s => s.data.toList).flatten

theorem Strs.only {w w' : World} {b c : Nat} {ss : List ByteArray} (h : Strs w c ss) (ho : Only b w w') (hc : c ≠ b) : Strs w' c ss := fun i hi =>
  World.grownBy.cell ho (h i hi) (by simpa using hc)
theorem cat_take (ss : List ByteArray) (k : Nat) (h : k < ss.length) : cat (ss.take (k + 1)) = cat (ss.take k) ++ (ss.getD k ByteArray.empty).data.toList := by
  unfold cat
  rw [List.take_succ_eq_append_getElem h, List.map_append, List.flatten_append]
  simp [List.getD, h]
theorem cat_take_le (ss : List ByteArray) (k : Nat) : (cat (ss.take k)).length ≤ (cat ss).length := by
  have h : cat ss = cat (ss.take k) ++ cat (ss.drop k) := by
    unfold cat
    rw [← List.flatten_append, ← List.map_append, List.take_append_drop]
  rw [h, List.length_append]
  omega

set_option maxRecDepth 100000 in
set_option maxHeartbeats 400000 in
theorem each_any (b c : Nat) (w : World) (l : List UInt8) (ss : List ByteArray) (hc : c ≠ b) (hn : ss.length ≤ 1000) (hl : l.length + (cat ss).length ≤ maxLen) (hS : Strs w c ss) (H : HL w b l) :
    Calls Tryd.prog 128 #[.func (Fn.func 129) #[.pointer (some ⟨b, 0, none⟩)] #[], .slice (some ⟨c, 0, none⟩) ss.length ss.length] w fun e w' => e = .returned (.tuple #[]) ∧ HL w' b (l ++ cat ss) ∧ Only b w w' := by
  go_enter Tryd.func128, Tryd.ntmps128
  go_wp2
  go_loopw [5, 8] (fun _ i wr => ∃ k : Nat, k ≤ ss.length ∧ i = .int .i64 k ∧ HL wr b (l ++ cat (ss.take k)) ∧ Only b w wr) (fun _ i _ => ss.length - (intOf i).toNat)
  case atStart => exact ⟨0, Nat.zero_le _, rfl, by simpa [cat] using H, Only.refl _ _⟩
  case round =>
    obtain ⟨k, hk, rfl, hH, ho⟩ := hrel
    by_cases hlt : k < ss.length
    · have hcell := hS.only ho hc k hlt
      have hct := cat_take ss k hlt
      have hle := cat_take_le ss (k + 1)
      have hsz : (l ++ cat (ss.take k)).length + ss[k].size ≤ maxLen := by
        rw [hct] at hle
        simp [List.getD, hlt] at hle
        simp only [List.length_append]
        omega
      have Hct := Lib.hid hct
      clear hct hle hS
      go_wp2_with fail
      refine (add_any b _ (l ++ cat (ss.take k)) ss[k] hsz hH).mono ?_
      rintro e w1 ⟨rfl, hH1, ho1⟩
      go_wp2_with fail
      go_roundw
      case rel => exact ⟨k + 1, by omega, by go_num, by rw [Hct.out, ← List.append_assoc]; simpa [List.getD, hlt] using hH1, ho.trans ho1⟩
      case measure => simp [intOf]; omega
    · have hk' : k = ss.length := by omega
      rw [hk', List.take_length] at hH
      go_wp2
      go_end0
      exact ⟨rfl, hH, ho⟩

theorem cell_new (W : World) (c : Array Value) (t : TypeId) (i : Nat) : (W.alloc (.cells c t)).cell? ⟨W.heap.size, i, none⟩ = c[i]? := World.cell?_alloc_at _ _ _ _ rfl

set_option maxRecDepth 100000 in
set_option maxHeartbeats 400000 in
theorem of_any (c : Nat) (w : World) (ss : List ByteArray) (hn : ss.length ≤ 1000) (hl : (cat ss).length ≤ maxLen) (hS : Strs w c ss) (hc : c < w.heap.size) :
    Calls Tryd.prog 115 #[.slice (some ⟨c, 0, none⟩) ss.length ss.length] w fun e w' => e = .returned (.string (Dg.sum (cat ss))) ∧ Below w.heap.size w w' := by
  have hmf : ∀ (fn : Fn) (first cap : Array Value) (w : World), (Instr.makeFunc fn first cap).run Tryd.prog w = .ok (.func fn first cap) w := fun _ _ _ _ => rfl
  go_enter Tryd.func115, Tryd.ntmps115
  go_wp2_with fail
  refine (new_any _).mono ?_
  rintro e w1 ⟨rfl, hH1, hb1⟩
  have hS1 : Strs w1 c ss := fun i hi => by rw [hb1.cell (p := ⟨c, i, none⟩) hc]; exact hS i hi
  go_wp2_with fail
  refine (each_any w.heap.size c _ [] ss (by omega) hn (by simpa using hl) hS1 hH1).mono ?_
  rintro e w2 ⟨rfl, hH2, ho2⟩
  go_wp2_with fail
  refine (sum_any _ _ _ hH2).mono ?_
  rintro e w3 ⟨rfl, hb3⟩
  go_wp2
  go_ret
  exact ⟨rfl, (hb1.trans (ho2.below hb1.size (Nat.le_refl _))).trans (hb3.mono (Nat.le_trans hb1.size ho2.size))⟩

theorem strs_new (W : World) (ss : List ByteArray) (t : TypeId) : Strs (W.alloc (.cells (ss.map Value.string).toArray t)) W.heap.size ss := fun i hi => by
  rw [cell_new]
  simp [hi, List.getD]

theorem below_alloc {W w' : World} (o : Obj) (hb : Below (W.alloc o).heap.size (W.alloc o) w') : Below W.heap.size W w' :=
  ((Below.refl _ _).alloc (Nat.le_refl _) o).trans (hb.mono (by simp))

theorem cat1 (s : ByteArray) : cat [s] = s.data.toList := by simp [cat]
theorem cat2 (s t : ByteArray) : cat [s, t] = s.data.toList ++ t.data.toList := by simp [cat]

set_option maxRecDepth 100000 in
set_option maxHeartbeats 400000 in
theorem Sum_any (s : ByteArray) (w : World) (hs : s.size ≤ maxLen) :
    Calls Tryd.prog 91 #[.string s] w fun e w' => e = .returned (.string (Dg.sum s.data.toList)) ∧ Below w.heap.size w w' := by
  go_enter Tryd.func91, Tryd.ntmps91
  go_wp2_with fail
  refine (of_any w.heap.size (w.alloc (.cells #[.string s] 9)) [s] (by simp) (by simpa [cat] using hs) (strs_new w [s] _) (by simp)).mono ?_
  rintro e w1 ⟨rfl, hb⟩
  go_wp2
  go_ret
  exact ⟨by rw [← cat1 s]; rfl, below_alloc _ hb⟩

/-- 'old:' -/
def oldT : ByteArray := ⟨#[111, 108, 100, 58]⟩

set_option maxRecDepth 100000 in
set_option maxHeartbeats 400000 in
theorem Old_any (s : ByteArray) (w : World) (hs : s.size + 4 ≤ maxLen) :
    Calls Tryd.prog 102 #[.string s] w fun e w' => e = .returned (.string (Dg.old s.data.toList)) ∧ Below w.heap.size w w' := by
  go_enter Tryd.func102, Tryd.ntmps102
  go_wp2_with fail
  have hz := Dg.sum_size (cat [oldT, s])
  refine (of_any w.heap.size (w.alloc (.cells #[.string ⟨#[111, 108, 100, 58]⟩, .string s] 9)) [oldT, s] (by simp) (by simp [cat, oldT]; unfold maxLen at hs ⊢; omega) (strs_new w [oldT, s] _) (by simp)).mono ?_
  rintro e w1 ⟨rfl, hb⟩
  go_wp2
  go_ret
  have e : cat [oldT, s] = [111, 108, 100, 58] ++ s.data.toList := cat2 oldT s
  exact ⟨by show Ending.returned (Value.string ((Dg.sum (cat [oldT, s])).extract 0 20)) = _; rw [e]; rfl, below_alloc _ hb⟩

end Go.Proofs.YtionmnjcfnmpeaaDoor.Hh
