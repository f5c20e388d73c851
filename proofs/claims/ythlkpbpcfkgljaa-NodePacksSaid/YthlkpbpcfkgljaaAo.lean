/-
  Addresses: the reference's Unpack, whole.
-/
import Derived.Test.YthlkpbpcfkgljaaAn
set_option linter.unusedVariables false
namespace Go.Proofs.Ythlkpbpcfkgljaa.Ac
open Go Go.RowKit Go.Proofs.Ythlkpbpcfkgljaa.Hz Go.Proofs.Ythlkpbpcfkgljaa.Sx

theorem RUnpack_any (s : ByteArray) (w : World) :
    Calls Try.prog 18 #[.string s] w fun e w' => e = .returned (.tuple #[.agg #[.int .i64 (upF s), .string (upI s), .int .i64 (upP s)], .int .i64 (upE s)]) ∧ Below w.heap.size w w' := by
  by_cases hl : 65536 < s.size
  · have hk : upE s = 3 := if_pos hl
    obtain ⟨h1, h2, h3⟩ := up_bad hk (by omega)
    rw [h1, h2, h3, hk]; exact RUnp_long s w hl
  by_cases h6 : s.size = 6
  · by_cases hp : prt s 4 = 0
    · have hk : upE s = 12 := by unfold upE; rw [if_neg hl, if_pos h6, if_pos hp]
      obtain ⟨h1, h2, h3⟩ := up_bad hk (by omega)
      rw [h1, h2, h3, hk]; exact RUnp_6no s 4 w rfl (by omega) hp
    · have h0 : upE s = 0 := by unfold upE; rw [if_neg hl, if_pos h6, if_neg hp]
      obtain ⟨h1, h2, h3⟩ := up_good h0
      rw [h1, h2, h3, h0, if_pos h6, show s.size - 2 = 4 by omega]; exact RUnp_6ok s 4 w rfl (by omega) hp
  by_cases h18 : s.size = 18
  · by_cases hp : prt s 16 = 0
    · have hk : upE s = 12 := by unfold upE; rw [if_neg hl, if_neg h6, if_pos h18, if_pos hp]
      obtain ⟨h1, h2, h3⟩ := up_bad hk (by omega)
      rw [h1, h2, h3, hk]; exact RUnp_18no s 16 w rfl (by omega) hp
    · have h0 : upE s = 0 := by unfold upE; rw [if_neg hl, if_neg h6, if_pos h18, if_neg hp]
      obtain ⟨h1, h2, h3⟩ := up_good h0
      rw [h1, h2, h3, h0, if_neg h6, show s.size - 2 = 16 by omega]; exact RUnp_18ok s 16 w rfl (by omega) hp
  · have hk : upE s = 11 := by unfold upE; rw [if_neg hl, if_neg h6, if_neg h18]
    obtain ⟨h1, h2, h3⟩ := up_bad hk (by omega)
    rw [h1, h2, h3, hk]; exact RUnp_other s w (by omega) h6 h18
end Go.Proofs.Ythlkpbpcfkgljaa.Ac
