/-
  SignKeys: the walk.
-/
import Derived.Test.YtionmnjcfnmpeaaDoorSk
namespace Go.Proofs.YtionmnjcfnmpeaaDoor.Sg
open Go Go.RowKit Go.Proofs.YtionmnjcfnmpeaaDoor.Hz

theorem by_e8 (x : Int) (k : Nat) (h : k < 8) : by_ (e8 x) k = ((nums x).getD k 0).toNat % 256 := by
  unfold by_ e8
  rw [strOfNums_data]
  have hl : k < (nums x).length := h
  simp [List.getD, List.getElem?_map, List.getElem?_eq_getElem hl]
theorem byte_nat (m c : Nat) : (((m : Int) / (c : Int)) % 256).toNat % 256 = m / c % 256 := by
  have e : ((m : Int) / (c : Int)) % 256 = ((m / c % 256 : Nat) : Int) := by rw [Int.natCast_emod, Int.natCast_ediv]; rfl
  rw [e, Int.toNat_natCast]
  omega
theorem step_nat (m c d : Nat) (h : d = c * 256) : m / d * 256 + m / c % 256 = m / c := by
  have : m / d = m / c / 256 := by rw [h, Nat.div_div_eq_div_mul]
  omega
theorem pre_e8 (m : Nat) (h : m < 18446744073709551616) : pre (e8 (m : Int)) 8 = m := by
  have b0 : by_ (e8 (m : Int)) 0 = m / 72057594037927936 % 256 := (by_e8 (m : Int) 0 (by omega)).trans (byte_nat m 72057594037927936)
  have b1 : by_ (e8 (m : Int)) 1 = m / 281474976710656 % 256 := (by_e8 (m : Int) 1 (by omega)).trans (byte_nat m 281474976710656)
  have b2 : by_ (e8 (m : Int)) 2 = m / 1099511627776 % 256 := (by_e8 (m : Int) 2 (by omega)).trans (byte_nat m 1099511627776)
  have b3 : by_ (e8 (m : Int)) 3 = m / 4294967296 % 256 := (by_e8 (m : Int) 3 (by omega)).trans (byte_nat m 4294967296)
  have b4 : by_ (e8 (m : Int)) 4 = m / 16777216 % 256 := (by_e8 (m : Int) 4 (by omega)).trans (byte_nat m 16777216)
  have b5 : by_ (e8 (m : Int)) 5 = m / 65536 % 256 := (by_e8 (m : Int) 5 (by omega)).trans (byte_nat m 65536)
  have b6 : by_ (e8 (m : Int)) 6 = m / 256 % 256 := (by_e8 (m : Int) 6 (by omega)).trans (byte_nat m 256)
  have b7 : by_ (e8 (m : Int)) 7 = m / 1 % 256 := by
    have := byte_nat m 1
    rw [show ((1 : Nat) : Int) = 1 from rfl, Int.ediv_one] at this
    exact (by_e8 (m : Int) 7 (by omega)).trans this
  simp only [pre]
  rw [b0, b1, b2, b3, b4, b5, b6, b7, Nat.zero_mul, Nat.zero_add, show m / 72057594037927936 % 256 = m / 72057594037927936 by omega,
    step_nat m 281474976710656 72057594037927936 (by decide), step_nat m 1099511627776 281474976710656 (by decide), step_nat m 4294967296 1099511627776 (by decide),
    step_nat m 16777216 4294967296 (by decide), step_nat m 65536 16777216 (by decide), step_nat m 256 65536 (by decide), step_nat m 1 256 (by decide), Nat.div_one]
theorem vk_e8 (m : Nat) (h0 : 0 < m) (h1 : m < P) : vk (e8 (m : Int)) = true := by
  have h2 : m < 18446744073709551616 := Nat.lt_trans h1 (by decide +kernel)
  unfold vk
  rw [pre_e8 m h2, e8_size]
  simp [h1]
  omega

theorem sh_ky (a b : Nat) (ha : sec (a : Int) = true) (hb : sec (b : Int) = true) : shT (a : Int) (kyT (b : Int)) = e8 (((37 ^ b % P) ^ a % P : Nat) : Int) ∧ shE (a : Int) (kyT (b : Int)) = 0 ∧ vk (kyT (b : Int)) = true ∧ (kyT (b : Int)).size = 8 := by
  have hk : kyT (b : Int) = e8 ((37 ^ b % P : Nat) : Int) := by
    unfold kyT; rw [hb, if_pos rfl]; rfl
  have hp := pow_pos37 b
  have hl : 37 ^ b % P < P := Nat.mod_lt _ (by decide +kernel)
  have hv := vk_e8 (37 ^ b % P) hp hl
  have hpre := pre_e8 (37 ^ b % P) (pw_lt 37 b)
  rw [hk]
  refine ⟨?_, ?_, hv, e8_size _⟩
  · unfold shT
    rw [hv, ha, hpre]
    rfl
  · unfold shE
    rw [hv, ha]
    rfl

end Go.Proofs.YtionmnjcfnmpeaaDoor.Sg
