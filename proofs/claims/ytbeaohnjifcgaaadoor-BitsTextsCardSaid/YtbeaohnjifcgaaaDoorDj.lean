/-
  Texts of bits: what the library's Split and Cut cut.
-/
import Derived.Test.YtbeaohnjifcgaaaDoorDh
import Derived.Lib.CountLaws
import Derived.Lib.SplitLaws
namespace Go.Proofs.YtbeaohnjifcgaaaDoor.Db
open Go Go.RowKit Go.Shelf Go.Proofs.YtbeaohnjifcgaaaDoor.Sx Go.Proofs.YtbeaohnjifcgaaaDoor.Na Go.Proofs.YtbeaohnjifcgaaaDoor.Ba Go.Proofs.YtbeaohnjifcgaaaDoor.Bh Go.Proofs.YtbeaohnjifcgaaaDoor.Da

theorem index_none1 (c : UInt8) (l : List UInt8) (h : c ∉ l) : Lib.index l [c] = -1 := by
  induction l with
  | nil => rfl
  | cons b t ih =>
    have hb : c ≠ b := fun e => h (by rw [e]; exact List.mem_cons_self ..)
    rw [Lib.index, ih (fun m => h (List.mem_cons_of_mem _ m))]
    simp [List.isPrefixOf, hb]
theorem index_hit1 (c : UInt8) (p t : List UInt8) (h : c ∉ p) : Lib.index (p ++ c :: t) [c] = (p.length : Int) := by
  induction p with
  | nil => simp [Lib.index, List.isPrefixOf]
  | cons b q ih =>
    have hb : c ≠ b := fun e => h (by rw [e]; exact List.mem_cons_self ..)
    rw [List.cons_append, Lib.index, ih (fun m => h (List.mem_cons_of_mem _ m))]
    have : ¬ ((q.length : Int) == -1) = true := by rw [beq_iff_eq]; omega
    simp [List.isPrefixOf, hb]
theorem cut_none1 (c : UInt8) (l : List UInt8) (h : c ∉ l) : Lib.cut l [c] = (l, [], false) := by
  unfold Lib.cut
  rw [index_none1 c l h]
  rfl
theorem cut_hit1 (c : UInt8) (p t : List UInt8) (h : c ∉ p) : Lib.cut (p ++ c :: t) [c] = (p, t, true) := by
  unfold Lib.cut
  rw [index_hit1 c p t h, if_pos (by omega), Int.toNat_natCast]
  simp
theorem split_cut (c : UInt8) : ∀ (m : Nat) (s : ByteArray), s.size ≤ m → Lib.splitB ⟨#[c]⟩ 0 (Lib.countB s ⟨#[c]⟩) s = (cutL c s.data.toList).map tx := by
  intro m
  induction m with
  | zero =>
    intro s hs
    have e : s.data.toList = [] := List.eq_nil_of_length_eq_zero (by rw [len_data]; omega)
    have hi : Lib.indexB s ⟨#[c]⟩ = -1 := by show Lib.index s.data.toList [c] = -1; rw [e]; rfl
    rw [Lib.splitB_miss _ _ _ _ hi, e]
    show [s] = [tx []]
    rw [show s = tx [] from bx e]
  | succ m ih =>
    intro s hs
    by_cases hc : c ∈ s.data.toList
    · obtain ⟨p, t, e, hp⟩ := List.eq_append_cons_of_mem hc
      have hi : Lib.indexB s ⟨#[c]⟩ = (p.length : Int) := by show Lib.index s.data.toList [c] = _; rw [e]; exact index_hit1 c p t hp
      have hlen : s.size = p.length + (t.length + 1) := by rw [← len_data, e]; simp
      have e1 : s.extract 0 (p.length + 0) = tx p := by rw [ext_tx, e]; simp [tx]
      have e2 : s.extract (p.length + (⟨#[c]⟩ : ByteArray).size) s.size = tx t := by
        rw [ext_tx, e]
        show tx (List.take (s.size - (p.length + 1)) (List.drop (p.length + 1) (p ++ c :: t))) = tx t
        rw [show List.drop (p.length + 1) (p ++ c :: t) = t by simp, List.take_of_length_le (by omega)]
      rw [Lib.countB_hit s ⟨#[c]⟩ p.length (Nat.le_refl _) hi, Nat.add_comm, Lib.splitB_hit _ _ _ _ _ hi, e1, e2, e, cutL_hit c p t hp, ih (tx t) (by rw [tx_size]; omega), tx_data]
      rfl
    · have hi : Lib.indexB s ⟨#[c]⟩ = -1 := index_none1 c _ hc
      rw [Lib.splitB_miss _ _ _ _ hi, cutL_none c _ hc]
      show [s] = [tx _]
      rw [show s = tx s.data.toList from bx rfl]
      rfl
theorem count_cut (c : UInt8) (s : ByteArray) : Lib.countB s ⟨#[c]⟩ + 1 = (cutL c s.data.toList).length := by
  have h := split_cut c s.size s (Nat.le_refl _)
  have := Lib.splitB_all ⟨#[c]⟩ (Nat.le_refl _) 0 _ s rfl
  rw [h, List.length_map] at this
  exact this.symm
end Go.Proofs.YtbeaohnjifcgaaaDoor.Db
