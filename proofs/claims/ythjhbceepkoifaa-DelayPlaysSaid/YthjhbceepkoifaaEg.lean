/-
  The sanity check of layer 26: New, Sample, Limit at the document's example.
-/
import Derived.Test.YthjhbceepkoifaaEf
namespace Go.Proofs.Ythjhbceepkoifaa.Ee
open Go Go.RowKit Go.Proofs.Ythjhbceepkoifaa.Ec

section
variable {w : World} {c : Nat} {now : Int} {hv : Bool} {at' target limit : Int} {g1 cap1 : Nat}

set_option maxRecDepth 100000 in
set_option maxHeartbeats 1000000 in
theorem cput_1 (hC : Ctl w c now hv at' target limit (.slice none 0 0) (.slice (some ⟨g1, 0, none⟩) 1 cap1)) :
    Calls Try.prog 45 #[.pointer (some ⟨c, 0, none⟩), .int .i64 0, .int .i64 7] w fun e w' => e = .returned (.tuple #[]) ∧
      ∃ g cap, Ctl w' c now hv at' target limit (.slice (some ⟨g, 0, none⟩) 1 cap) (.slice (some ⟨g1, 0, none⟩) 1 cap1) ∧ w'.cell? ⟨g, 0, none⟩ = some (.int .i64 0) ∧ w'.cell? ⟨g, 1, none⟩ = some (.int .i64 7) ∧ w.heap.size ≤ g ∧ w.grownBy w' (some c) := by
  have c6 := hC.c6
  have HP := Lib.hid (put_base c 0 7 now hv at' target limit _ w hC)
  go_enter Try.func45, Try.ntmps45
  go_wp2_with fail
  refine wp_loop_rounds 2 ?_
  rw [rounds_succ]
  go_wp2_with fail
  refine HP.out.mono ?_
  rintro e w1 ⟨rfl, g, cap, h1, h2, h3, h4, h5⟩
  go_wp2
  go_end0
  exact ⟨rfl, g, cap, h1, h2, h3, h4, h5⟩

end
end Go.Proofs.Ythjhbceepkoifaa.Ee
