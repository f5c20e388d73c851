/-
  node: the specification's Distance, Common, Nearer.
-/
import Derived.Test.YtionmnjcfnmpeaaDoorNk
namespace Go.Proofs.YtionmnjcfnmpeaaDoor.Nj
open Go Go.RowKit Go.Proofs.YtionmnjcfnmpeaaDoor.Hz Go.Proofs.YtionmnjcfnmpeaaDoor.Na Go.Proofs.YtionmnjcfnmpeaaDoor.Nb Go.Proofs.YtionmnjcfnmpeaaDoor.Nf

/-- a block of truths -/
def Xs (w : World) (g : Nat) (f : Nat → Bool) : Prop := (∀ i, i < 160 → w.cell? ⟨g, i, none⟩ = some (.bool (f i))) ∧ ∀ i, w.frozen? ⟨g, i, none⟩ = false
theorem Xs.set {w : World} {g : Nat} {f : Nat → Bool} (h : Xs w g f) (k : Nat) (hk : k < 160) (c : Bool) : Xs (w.setCell ⟨g, k, none⟩ (.bool c)) g (fun i => if i = k then c else f i) := by
  refine ⟨fun i hi => ?_, fun i => (World.frozen?_setCell _ _ _ _).trans (h.2 i)⟩
  by_cases e : i = k
  · subst e
    rw [World.cell?_setCell_same _ _ _ (h.1 i hi)]
    simp
  · have hne : (⟨g, k, none⟩ : Addr) ≠ ⟨g, i, none⟩ := fun q => e (by injection q with _ q2; exact q2.symm)
    rw [World.cell?_setCell_other (w := w) (v := .bool c) (h := hne), h.1 i hi]
    simp [e]
theorem Xs.far {w : World} {g g' k : Nat} {v : Value} {f : Nat → Bool} (h : Xs w g f) (hne : g' ≠ g) : Xs (w.setCell ⟨g', k, none⟩ v) g f :=
  ⟨fun i hi => by rw [World.cell?_setCell_other (w := w) (v := v) (h := fun q => hne (by injection q))]; exact h.1 i hi, fun i => (World.frozen?_setCell _ _ _ _).trans (h.2 i)⟩
theorem Xs.drew {w : World} {g : Nat} {f : Nat → Bool} (h : Xs w g f) : Xs w.drew g f := h
theorem Xs.below {w w' : World} {g : Nat} {f : Nat → Bool} (h : Xs w g f) (hb : Below w.heap.size w w') : Xs w' g f := by
  have hlt : g < w.heap.size := World.block_lt_of_cell? w _ (h.1 0 (by omega))
  exact ⟨fun i hi => (hb.cell (p := ⟨g, i, none⟩) hlt).trans (h.1 i hi), fun i => (hb.frozen (p := ⟨g, i, none⟩) hlt).trans (h.2 i)⟩
theorem Xs.congr {w : World} {g : Nat} {f f' : Nat → Bool} (h : Xs w g f) (he : ∀ i, i < 160 → f i = f' i) : Xs w g f' := ⟨fun i hi => by rw [← he i hi]; exact h.1 i hi, h.2⟩
theorem bits_xs (s : ByteArray) (w : World) (hs : s.size = 20) : Calls Tryd.prog 73 #[.string s] w fun e w' => ∃ g cap, e = .returned (.slice (some ⟨g, 0, none⟩) 160 cap) ∧ w.heap.size ≤ g ∧ Xs w' g (bt s) ∧ Below w.heap.size w w' :=
  (bits_any s w hs).mono fun e w' ⟨v, he, ho, hb⟩ => by
    obtain ⟨g, cap, hv, hg, hc, hf⟩ := ho.row (by rw [bits_len]; omega)
    rw [bits_len] at hv hc
    exact ⟨g, cap, by rw [he, hv], hg, ⟨fun i hi => by rw [hc i hi, bits_at s i hi], hf⟩, hb⟩

set_option maxRecDepth 100000 in
set_option maxHeartbeats 1600000 in
theorem RCommon_any (a b : ByteArray) (w : World) (ha : a.size = 20) (hb : b.size = 20) : Calls Tryd.prog 75 #[.string a, .string b] w fun e w' => e = .returned (.int .i64 (cmn a b)) ∧ w = w' := by
  have HA := Lib.hid (fun k hk w => Bit_any a k w hk ha)
  have HB := Lib.hid (fun k hk w => Bit_any b k w hk hb)
  clear ha hb
  go_enter Tryd.func75, Tryd.ntmps75
  go_wp2_with fail
  go_loopw [5] (fun i wr => ∃ k : Nat, k ≤ 160 ∧ i = .int .i64 k ∧ (∀ j, j < k → (bt a j != bt b j) = false) ∧ w = wr) (fun i _ => 160 - (intOf i).toNat)
  case atStart => exact ⟨0, Nat.zero_le _, rfl, fun j hj => by omega, rfl⟩
  case round =>
    obtain ⟨k, hk, rfl, hall, rfl⟩ := hrel
    by_cases hlt : k < 160
    · have hA := HA.out k hlt
      have hB := HB.out k hlt
      cases hd : (bt a k != bt b k)
      · have HN := Lib.hid (show ∀ j, j < k + 1 → (bt a j != bt b j) = false from fun j hj => by
          by_cases e : j = k
          · rw [e, hd]
          · exact hall j (by omega))
        have he : bt a k = bt b k := by simpa using hd
        rw [he] at hA
        obtain ⟨c, hc⟩ : ∃ c, bt b k = c := ⟨_, rfl⟩
        simp only [hc] at hA hB
        have HA1 := Lib.hid hA
        have HB1 := Lib.hid hB
        clear hall hd he hA hB hc
        have hlt' : (k : Int) < 160 := by omega
        have hcc : (c == c) = true := by simp
        go_wp2_with (first
          | (go_at_call_of 23 a; refine (HA1.out _).mono ?_; rintro e w1 ⟨rfl, rfl⟩)
          | (go_at_call_of 23 b; refine (HB1.out _).mono ?_; rintro e w1 ⟨rfl, rfl⟩))
        exact ⟨⟨k + 1, by omega, by go_num, HN.out, trivial⟩, by simp [intOf]; omega⟩
      · have HN := Lib.hid (show cmn a b = k from fst_of _ _ hall (.inr ⟨hlt, hd⟩))
        have he : (bt a k == bt b k) = false := by revert hd; cases bt a k <;> cases bt b k <;> decide
        obtain ⟨c, hc⟩ : ∃ c, bt b k = c := ⟨_, rfl⟩
        obtain ⟨d, hd'⟩ : ∃ d, bt a k = d := ⟨_, rfl⟩
        simp only [hc, hd'] at hA hB he
        have HA1 := Lib.hid hA
        have HB1 := Lib.hid hB
        clear hall hd hA hB hc hd'
        have hlt' : (k : Int) < 160 := by omega
        go_wp2_with (first
          | (go_at_call_of 23 a; refine (HA1.out _).mono ?_; rintro e w1 ⟨rfl, rfl⟩)
          | (go_at_call_of 23 b; refine (HB1.out _).mono ?_; rintro e w1 ⟨rfl, rfl⟩))
        rw [HN.out]
        go_ret
        exact ⟨rfl, rfl⟩
    · obtain rfl : k = 160 := by omega
      have HN := Lib.hid (show cmn a b = 160 from fst_of _ _ hall (.inl rfl))
      clear hall
      go_wp2_with fail
      rw [HN.out]
      go_ret
      exact ⟨rfl, rfl⟩

end Go.Proofs.YtionmnjcfnmpeaaDoor.Nj
