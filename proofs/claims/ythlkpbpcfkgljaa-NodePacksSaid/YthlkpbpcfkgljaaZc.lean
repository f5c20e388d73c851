/-
  Nodes: the program's Unpack, whole.
-/
import Derived.Test.YthlkpbpcfkgljaaZb4
import Derived.Test.YthlkpbpcfkgljaaZb6
import Derived.Test.YthlkpbpcfkgljaaZb0
import Derived.Test.YthlkpbpcfkgljaaAv
set_option linter.unusedVariables false
namespace Go.Proofs.Ythlkpbpcfkgljaa.Ac
open Go Go.RowKit Go.Proofs.Ythlkpbpcfkgljaa.Hz Go.Proofs.Ythlkpbpcfkgljaa.Sx Go.Proofs.Ythlkpbpcfkgljaa.Rg

theorem row_heap {A B : World} {size : Nat} {v : Value} {n : Nat} {xs : List Value} (h : Row A size v n xs) (hs : B.heap.size = A.heap.size) (hb : ∀ g, v.ownBlock = some g → B.heap[g]? = A.heap[g]?) : Row B size v n xs := by
  refine ⟨h.len, h.val.imp id ?_⟩
  rintro ⟨g, off, cap, rfl, h1, h2, h3, h4, h5, h6⟩
  have hb := hb g rfl
  exact ⟨g, off, cap, rfl, h1, h2, by omega, fun j u hj => (World.cell?_of_block (a := ⟨g, off + j, none⟩) hb).trans (h4 j u hj),
    fun j hj => ⟨by rw [World.cell?_of_block (a := ⟨g, off + n * size + j, none⟩) hb]; exact (h5 j hj).1, (World.frozen?_of_block (a := ⟨g, off + n * size + j, none⟩) hb).trans (h5 j hj).2⟩, fun o => (World.frozen?_of_block (a := ⟨g, o, none⟩) hb).trans (h6 o)⟩

theorem uS_pos (f : Int) : 0 < uS f := by unfold uS; split <;> decide
theorem unE_ok {t : ByteArray} {f : Int} {n : Nat} (hf : f = 4 ∨ f = 6) (h : t.size = n * uS f) (ha : ∀ i, i < n → upE (pcs t (uS f) i) = 0) : unE t f = 0 := by
  unfold unE
  rw [if_neg (by omega), h, Nat.mul_div_cancel _ (uS_pos f), Nat.mul_mod_left, if_neg (by omega), if_pos ha]
theorem unE_12 {t : ByteArray} {f : Int} {n : Nat} (hf : f = 4 ∨ f = 6) (h : t.size = n * uS f) (ha : ¬ ∀ i, i < n → upE (pcs t (uS f) i) = 0) : unE t f = 12 := by
  unfold unE
  rw [if_neg (by omega), h, Nat.mul_div_cancel _ (uS_pos f), Nat.mul_mod_left, if_neg (by omega), if_neg ha]
theorem unE_11 {t : ByteArray} {f : Int} (hf : f = 4 ∨ f = 6) (h : t.size % uS f ≠ 0) : unE t f = 11 := by
  unfold unE
  rw [if_neg (by omega), if_pos h]
theorem unE_7 {t : ByteArray} {f : Int} (h4 : f ≠ 4) (h6 : f ≠ 6) : unE t f = 7 := if_pos ⟨h4, h6⟩

theorem enterNUnpack (args : Array Value) (w : World) : (callFunc 15 args).run Try.prog w = .ok (.enter 15 args) w := by kernel_rfl
/-- the world at the call of attempt -/
def bxn (w : World) (t : ByteArray) (f : Int) : World := (w.alloc (.cells #[.string t] 9)).alloc (.cells #[.int .i64 f] 3)
theorem bxn_size (w : World) (t : ByteArray) (f : Int) : (bxn w t f).heap.size = w.heap.size + 2 := by simp [bxn]
theorem bxn_t (w : World) (t : ByteArray) (f : Int) : (bxn w t f).cell? ⟨w.heap.size, 0, none⟩ = some (.string t) := by unfold bxn; exact acell _ (by simp [go_sem])
theorem bxn_f (w : World) (t : ByteArray) (f : Int) : (bxn w t f).cell? ⟨w.heap.size + 1, 0, none⟩ = some (.int .i64 f) := by unfold bxn; simp [go_sem]
theorem bxn_z (w : World) (t : ByteArray) (f : Int) : (bxn w t f).frozen? ⟨w.heap.size, 0, none⟩ = false := by unfold bxn; simp [go_sem]
theorem bxn_gb (w : World) (t : ByteArray) (f : Int) : w.grownBy (bxn w t f) none := gb_trans (gb_alloc _ _ _) (gb_alloc _ _ _)

/-- what attempt gives -/
def unPost (w : World) (t : ByteArray) (f : Int) (e : Ending) (w' : World) : Prop := (∃ v, e = .returned (.tuple #[v, .int .i64 (unE t f)]) ∧ Row w' 4 v (unN t f) (unC t f)) ∧ (bxn w t f).grownBy w' (some w.heap.size)

theorem NUnH (t : ByteArray) (f : Int) (w : World) (ht : t.size ≤ 70000) :
    Calls Try.prog 14 #[.func (Fn.func 15) #[] #[.pointer (some ⟨w.heap.size + 1, 0, none⟩), .pointer (some ⟨w.heap.size, 0, none⟩)]] (bxn w t f) (unPost w t f) := by
  have kt : (Av.aw (bxn w t f)).cell? ⟨w.heap.size, 0, none⟩ = some (.string t) := kcell (below_gb (Av.aw_gb _)) (bxn_t w t f)
  have kf : (Av.aw (bxn w t f)).cell? ⟨w.heap.size + 1, 0, none⟩ = some (.int .i64 f) := kcell (below_gb (Av.aw_gb _)) (bxn_f w t f)
  have fz : (Av.aw (bxn w t f)).frozen? ⟨w.heap.size, 0, none⟩ = false := gb_frozen (Av.aw_gb _) (bxn_t w t f) (bxn_z w t f) (by simp)
  have sz : (Av.aw (bxn w t f)).heap.size = w.heap.size + 4 := by rw [Av.aw_size, bxn_size]
  have hlt : ∀ k, some w.heap.size = some k → k < (bxn w t f).heap.size := fun k e => by have := Option.some.inj e; rw [bxn_size]; omega
  have bad : ∀ k, unE t f = k → k ≠ 0 → (Calls Try.prog 15 #[.pointer (some ⟨w.heap.size + 1, 0, none⟩), .pointer (some ⟨w.heap.size, 0, none⟩)] (Av.aw (bxn w t f)) fun e w' => e = .panicked [{ v := .iface 24 (.int .i64 k), recovered := false }] ∧ (Av.aw (bxn w t f)).grownBy w' (some w.heap.size)) →
      Calls Try.prog 14 #[.func (Fn.func 15) #[] #[.pointer (some ⟨w.heap.size + 1, 0, none⟩), .pointer (some ⟨w.heap.size, 0, none⟩)]] (bxn w t f) (unPost w t f) := by
    intro k hk h0 H
    refine (Av.att_no 15 _ k (bxn w t f) (some w.heap.size) (fun _ => True) (sta_true _) hlt enterNUnpack (H.mono fun e w' hh => ⟨hh.1, trivial, hh.2⟩)).mono fun e w' hh => ⟨⟨_, by rw [hk]; exact hh.1, ?_⟩, hh.2.2⟩
    have e1 : unN t f = 0 := if_neg (by rw [hk]; exact h0)
    have e2 : unC t f = [] := if_neg (by rw [hk]; exact h0)
    rw [e1, e2]
    exact Row.nil _ _
  have good : unE t f = 0 → (Calls Try.prog 15 #[.pointer (some ⟨w.heap.size + 1, 0, none⟩), .pointer (some ⟨w.heap.size, 0, none⟩)] (Av.aw (bxn w t f)) fun e w' => (∃ v, e = .returned v ∧ Row w' 4 v (t.size / uS f) (ucs t (uS f) (t.size / uS f)) ∧ ∀ k, v.ownBlock = some k → (Av.aw (bxn w t f)).heap.size ≤ k) ∧ (Av.aw (bxn w t f)).grownBy w' (some w.heap.size)) →
      Calls Try.prog 14 #[.func (Fn.func 15) #[] #[.pointer (some ⟨w.heap.size + 1, 0, none⟩), .pointer (some ⟨w.heap.size, 0, none⟩)]] (bxn w t f) (unPost w t f) := by
    intro h0 H
    have e1 : unN t f = t.size / uS f := if_pos h0
    have e2 : unC t f = ucs t (uS f) (t.size / uS f) := if_pos h0
    refine (Av.att_ex 15 _ (bxn w t f) (some w.heap.size) (fun s sl sc w' => Row w' 4 (.slice s sl sc) (unN t f) (unC t f) ∧ ∀ k, (Value.slice s sl sc).ownBlock = some k → w.heap.size + 4 ≤ k) (fun s sl sc A B hT hs hb => ⟨row_heap hT.1 hs fun g hg => hb g (by have := hT.2 g hg; rw [bxn_size]; omega) (by have := hT.2 g hg; rw [bxn_size]; omega), hT.2⟩) hlt enterNUnpack (H.mono fun e w' hh => ?_)).mono fun e w' hh => ?_
    · obtain ⟨⟨v, rfl, hr, ho⟩, hg⟩ := hh
      rw [sz] at ho
      rw [← e2, ← e1] at hr
      rcases hr.val with ⟨rfl, _⟩ | ⟨g, off, cap, rfl, _⟩
      · exact ⟨_, _, _, rfl, ⟨hr, ho⟩, hg⟩
      · exact ⟨_, _, _, rfl, ⟨hr, ho⟩, hg⟩
    · obtain ⟨s, sl, sc, rfl, ⟨hr, _⟩, hg⟩ := hh
      exact ⟨⟨_, by rw [h0], hr⟩, hg⟩
  by_cases h4 : f = 4
  · subst h4
    have hu : uS 4 = 26 := rfl
    by_cases hm : t.size % 26 = 0
    · obtain ⟨n, hn⟩ : ∃ n, t.size = n * 26 := ⟨t.size / 26, by omega⟩
      have hd : t.size / uS 4 = n := by rw [hu]; omega
      have HN := NUn_4 t n (w.heap.size + 1) w.heap.size (Av.aw (bxn w t 4)) kf (by omega) (by omega) (by omega) kt fz hn (by omega)
      by_cases ha : ∀ i, i < n → upE (pcs t 26 i) = 0
      · refine good (unE_ok (n := n) (by decide) hn ha) (HN.mono fun e w' hh => ⟨?_, hh.2⟩)
        rw [hd]
        rcases hh.1 with hh | hh
        · exact hh.2
        · exact absurd ha hh.1
      · refine bad 12 (unE_12 (n := n) (by decide) hn ha) (by omega) (HN.mono fun e w' hh => ⟨?_, hh.2⟩)
        rcases hh.1 with hh | hh
        · exact absurd hh.1 ha
        · exact hh.2
    · exact bad 11 (unE_11 (by decide) hm) (by omega) ((NUn_4size t _ _ _ kf kt hm).mono fun e w' hh => ⟨hh.1, gb_below hh.2 _⟩)
  by_cases h6 : f = 6
  · subst h6
    have hu : uS 6 = 38 := rfl
    by_cases hm : t.size % 38 = 0
    · obtain ⟨n, hn⟩ : ∃ n, t.size = n * 38 := ⟨t.size / 38, by omega⟩
      have hd : t.size / uS 6 = n := by rw [hu]; omega
      have HN := NUn_6 t n (w.heap.size + 1) w.heap.size (Av.aw (bxn w t 6)) kf (by omega) (by omega) (by omega) kt fz hn (by omega)
      by_cases ha : ∀ i, i < n → upE (pcs t 38 i) = 0
      · refine good (unE_ok (n := n) (by decide) hn ha) (HN.mono fun e w' hh => ⟨?_, hh.2⟩)
        rw [hd]
        rcases hh.1 with hh | hh
        · exact hh.2
        · exact absurd ha hh.1
      · refine bad 12 (unE_12 (n := n) (by decide) hn ha) (by omega) (HN.mono fun e w' hh => ⟨?_, hh.2⟩)
        rcases hh.1 with hh | hh
        · exact absurd hh.1 ha
        · exact hh.2
    · exact bad 11 (unE_11 (by decide) hm) (by omega) ((NUn_6size t _ _ _ kf kt hm).mono fun e w' hh => ⟨hh.1, gb_below hh.2 _⟩)
  exact bad 7 (unE_7 h4 h6) (by omega) ((NUn_fam t f _ _ _ kf h4 h6).mono fun e w' hh => ⟨hh.1, gb_below hh.2 _⟩)

set_option maxRecDepth 100000 in
set_option maxHeartbeats 800000 in
theorem NUnpack_any (t : ByteArray) (f : Int) (w : World) (ht : t.size ≤ 70000) :
    Calls Try.prog 5 #[.string t, .int .i64 f] w fun e w' => (∃ v, e = .returned (.tuple #[v, .int .i64 (unE t f)]) ∧ Row w' 4 v (unN t f) (unC t f)) ∧ Below w.heap.size w w' := by
  have hmf : ∀ (fn : Fn) (first cap : Array Value) (w : World), (Instr.makeFunc fn first cap).run Try.prog w = .ok (.func fn first cap) w := fun _ _ _ _ => rfl
  have H := Lib.hid (NUnH t f w ht)
  have HG := Lib.hid (bxn_gb w t f)
  unfold unPost at H
  generalize unE t f = E at H ⊢
  generalize unN t f = n at H ⊢
  generalize unC t f = cs at H ⊢
  unfold bxn at H HG
  go_enter Try.func5, Try.ntmps5
  go_wp2_with fail
  refine H.out.mono ?_
  rintro e w1 ⟨⟨v, rfl, hr⟩, hg⟩
  have HR := Lib.hid hr
  have HB := Lib.hid (below_gb (gb_mark HG.out hg (Nat.le_refl _)))
  clear hr hg
  go_wp2
  go_ret2
  exact ⟨⟨v, rfl, HR.out⟩, HB.out⟩
end Go.Proofs.Ythlkpbpcfkgljaa.Ac
