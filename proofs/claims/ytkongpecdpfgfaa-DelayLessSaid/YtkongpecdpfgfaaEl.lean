/-
  DelayLess: the walk.
-/
import Derived.Test.YtkongpecdpfgfaaEk
namespace Go.Proofs.Ytkongpecdpfgfaa.Ee
open Go Go.RowKit Go.Proofs.Ytkongpecdpfgfaa.Ec

set_option maxRecDepth 100000 in
set_option maxHeartbeats 1000000 in
theorem dless_out (a b c : Int) (h : ¬ (dl a ∧ dl b)) (w : World) :
    Calls Try.prog 8 #[.int .i64 a, .int .i64 b, .int .i64 c] w fun e w' => e = .returned (.bool true) ∧ Below w.heap.size w w' := by
  have H1 := Lib.hid (Less_no a b h)
  have H2 := Lib.hid (Less_no b a (fun k => h ⟨k.2, k.1⟩))
  have h4 : a < 0 ∨ (0 ≤ a ∧ 4294967296 ≤ a) ∨ (0 ≤ a ∧ a < 4294967296 ∧ b < 0) ∨ (0 ≤ a ∧ a < 4294967296 ∧ 0 ≤ b ∧ 4294967296 ≤ b) := by
    unfold dl at h; omega
  clear h
  rcases h4 with h0 | ⟨h0, h1⟩ | ⟨h0, h1, h2⟩ | ⟨h0, h1, h2, h3⟩
  all_goals
    go_enter Try.func8, Try.ntmps8
    go_wp2_with fail
    refine (H1.out _).mono ?_
    rintro e w1 ⟨rfl, hb1⟩
    go_wp2_with fail
    refine (H2.out _).mono ?_
    rintro e w2 ⟨rfl, hb2⟩
    go_wp2_with fail
    refine (awake_any _).mono ?_
    rintro e w3 ⟨rfl, hb3⟩
    go_wp2
    go_ret
    exact ⟨rfl, blw (blw hb1 hb2) hb3⟩

set_option maxRecDepth 100000 in
set_option maxHeartbeats 2000000 in
theorem dless_in (a b c : Int) (ha : dl a) (hb : dl b) (w : World) :
    Calls Try.prog 8 #[.int .i64 a, .int .i64 b, .int .i64 c] w fun e w' => e = .returned (.bool true) ∧ Below w.heap.size w w' := by
  have h1 := Less_yes a b ha hb
  have h2 := Less_yes b a hb ha
  have h3 := rless_any a b ha hb
  have h4 := rless_any b a hb ha
  have hxy := ls_no a b
  have h5 : dl c → ∀ w, Calls Try.prog 39 #[.int .i64 ((a + c) % 4294967296), .int .i64 ((b + c) % 4294967296)] w fun e w' => e = .returned (.tuple #[.bool (ls a b), .int .i64 0]) ∧ Below w.heap.size w w' := fun hc w => by
    have := Less_yes ((a + c) % 4294967296) ((b + c) % 4294967296) ⟨by omega, by omega⟩ ⟨by omega, by omega⟩ w
    rwa [ls_by] at this
  generalize ls a b = x at h1 h3 hxy h5
  generalize ls b a = y at h2 h4 hxy
  obtain ⟨a0, a1⟩ := ha
  obtain ⟨b0, b1⟩ := hb
  have HX := Lib.hid hxy
  have H1 := Lib.hid h1
  have H2 := Lib.hid h2
  have H3 := Lib.hid h3
  have H4 := Lib.hid h4
  have H5 := Lib.hid h5
  clear h1 h2 h3 h4 h5 hxy
  have d1 : a < 4294967296 := by omega
  have d2 : b < 4294967296 := by omega
  have hc4 : c < 0 ∨ (0 ≤ c ∧ 4294967296 ≤ c) ∨ (0 ≤ c ∧ c < 4294967296) := by omega
  rcases hc4 with c0 | ⟨c0, c1⟩ | ⟨c0, c1⟩
  · cases x <;> cases y <;> try (exact absurd HX.out (by decide))
    all_goals
      go_enter Try.func8, Try.ntmps8
      go_wp2_with fail
      refine (H1.out _).mono ?_
      rintro e w1 ⟨rfl, hb1⟩
      go_wp2_with fail
      refine (H2.out _).mono ?_
      rintro e w2 ⟨rfl, hb2⟩
      go_wp2_with fail
      refine (H3.out _).mono ?_
      rintro e w9 ⟨rfl, rfl⟩
      go_wp2_with fail
      refine (H4.out _).mono ?_
      rintro e w9 ⟨rfl, rfl⟩
      go_wp2_with fail
      refine (awake_any _).mono ?_
      rintro e w3 ⟨rfl, hb3⟩
      go_wp2
      go_ret
      exact ⟨rfl, blw (blw hb1 hb2) hb3⟩
  · cases x <;> cases y <;> try (exact absurd HX.out (by decide))
    all_goals
      go_enter Try.func8, Try.ntmps8
      go_wp2_with fail
      refine (H1.out _).mono ?_
      rintro e w1 ⟨rfl, hb1⟩
      go_wp2_with fail
      refine (H2.out _).mono ?_
      rintro e w2 ⟨rfl, hb2⟩
      go_wp2_with fail
      refine (H3.out _).mono ?_
      rintro e w9 ⟨rfl, rfl⟩
      go_wp2_with fail
      refine (H4.out _).mono ?_
      rintro e w9 ⟨rfl, rfl⟩
      go_wp2_with fail
      refine (awake_any _).mono ?_
      rintro e w3 ⟨rfl, hb3⟩
      go_wp2
      go_ret
      exact ⟨rfl, blw (blw hb1 hb2) hb3⟩
  · have H6 := Lib.hid (H5.out ⟨c0, by omega⟩)
    clear H5
    have hwa : IntKind.i64.wrap (a + c) = a + c := by rw [IntKind.wrap_i64]; omega
    have hwb : IntKind.i64.wrap (b + c) = b + c := by rw [IntKind.wrap_i64]; omega
    have hta : (a + c).tmod 4294967296 = (a + c) % 4294967296 := Int.tmod_eq_emod_of_nonneg (by omega)
    have htb : (b + c).tmod 4294967296 = (b + c) % 4294967296 := Int.tmod_eq_emod_of_nonneg (by omega)
    cases x <;> cases y <;> try (exact absurd HX.out (by decide))
    all_goals
      go_enter Try.func8, Try.ntmps8
      go_wp2_with fail
      refine (H1.out _).mono ?_
      rintro e w1 ⟨rfl, hb1⟩
      go_wp2_with fail
      refine (H2.out _).mono ?_
      rintro e w2 ⟨rfl, hb2⟩
      go_wp2_with fail
      refine (H3.out _).mono ?_
      rintro e w9 ⟨rfl, rfl⟩
      go_wp2_with fail
      refine (H4.out _).mono ?_
      rintro e w9 ⟨rfl, rfl⟩
      go_wp2_with fail
      refine (H6.out _).mono ?_
      rintro e w4 ⟨rfl, hb4⟩
      go_wp2_with fail
      refine (awake_any _).mono ?_
      rintro e w3 ⟨rfl, hb3⟩
      go_wp2
      go_ret
      exact ⟨rfl, blw (blw (blw hb1 hb2) hb4) hb3⟩

end Go.Proofs.Ytkongpecdpfgfaa.Ee
