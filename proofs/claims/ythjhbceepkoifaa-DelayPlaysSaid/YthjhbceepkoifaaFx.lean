/-
  light: acts are few, and times stay within bounds.
-/
import Derived.Test.YthjhbceepkoifaaEj
import Derived.Test.YthjhbceepkoifaaHz
import Derived.Test.YthjhbceepkoifaaSr
namespace Go.Proofs.Ythjhbceepkoifaa.Fx
open Go Go.RowKit Go.Proofs.Ythjhbceepkoifaa.Ee Go.Proofs.Ythjhbceepkoifaa.Hz

set_option maxRecDepth 100000 in
set_option maxHeartbeats 2000000 in
theorem light_any (a : Option Addr) (len cap : Nat) (w : World) (hR : Sr.Cells w a len 6) :
    Calls Try.prog 6 #[.slice a len cap] w fun e w' => Below w.heap.size w w' ∧ (e = .returned (.bool false) ∨ (e = .returned (.bool true) ∧ len ≤ 80 ∧
      ∀ b off, a = some ⟨b, off, none⟩ → ∀ i, i < len → ∀ z, w.cell? ⟨b, off + (i * 6 + 1), none⟩ = some (.int .i64 z) → -1000000 ≤ z ∧ z ≤ 1000000)) := by
  by_cases h1 : (80 : Int) < (len : Int)
  · go_enter Try.func6, Try.ntmps6
    go_wp2
    go_ret
    exact ⟨Below.refl _ _, .inl rfl⟩
  · have HR := Lib.hid hR
    clear hR
    go_enter Try.func6, Try.ntmps6
    go_wp2
    go_loopw [4, 10] (fun _ i wr => ∃ (k : Nat), k ≤ len ∧ i = .int .i64 k ∧ Below w.heap.size w wr ∧ ∀ b off, a = some ⟨b, off, none⟩ → ∀ j, j < k → ∀ z, w.cell? ⟨b, off + (j * 6 + 1), none⟩ = some (.int .i64 z) → -1000000 ≤ z ∧ z ≤ 1000000) (fun _ i _ => len - (intOf i).toNat)
    case atStart => exact ⟨0, Nat.zero_le _, rfl, Below.refl _ _, fun _ _ _ j hj => absurd hj (by omega)⟩
    case round =>
      obtain ⟨k, hk, rfl, hB, hz⟩ := hrel
      by_cases hlt : k < len
      · obtain ⟨b, off, ha, hb, hcell⟩ := HR.out.2 (by omega)
        subst ha
        obtain ⟨z0, w0, e0⟩ := hcell (k * 6 + 0) (by omega)
        have c0 : wr.cell? ⟨b, off + k * 6, none⟩ = some (.int .i64 z0) := (hB.cell (p := ⟨b, off + (k * 6 + 0), none⟩) hb).trans e0
        obtain ⟨z1, w1, e1⟩ := hcell (k * 6 + 1) (by omega)
        have c1 : wr.cell? ⟨b, off + k * 6 + 1, none⟩ = some (.int .i64 z1) := (hB.cell (p := ⟨b, off + (k * 6 + 1), none⟩) hb).trans e1
        obtain ⟨z2, w2, e2⟩ := hcell (k * 6 + 2) (by omega)
        have c2 : wr.cell? ⟨b, off + k * 6 + 2, none⟩ = some (.int .i64 z2) := (hB.cell (p := ⟨b, off + (k * 6 + 2), none⟩) hb).trans e2
        obtain ⟨z3, w3, e3⟩ := hcell (k * 6 + 3) (by omega)
        have c3 : wr.cell? ⟨b, off + k * 6 + 3, none⟩ = some (.int .i64 z3) := (hB.cell (p := ⟨b, off + (k * 6 + 3), none⟩) hb).trans e3
        obtain ⟨z4, w4, e4⟩ := hcell (k * 6 + 4) (by omega)
        have c4 : wr.cell? ⟨b, off + k * 6 + 4, none⟩ = some (.int .i64 z4) := (hB.cell (p := ⟨b, off + (k * 6 + 4), none⟩) hb).trans e4
        obtain ⟨z5, w5, e5⟩ := hcell (k * 6 + 5) (by omega)
        have c5 : wr.cell? ⟨b, off + k * 6 + 5, none⟩ = some (.int .i64 z5) := (hB.cell (p := ⟨b, off + (k * 6 + 5), none⟩) hb).trans e5
        by_cases q1 : 1000000 < z1
        · go_wp2
          go_ret
          exact ⟨blw_alloc hB, .inl rfl⟩
        · by_cases q2 : z1 < -1000000
          · go_wp2
            go_ret
            exact ⟨blw_alloc hB, .inl rfl⟩
          · go_wp2
            refine ⟨⟨k + 1, by omega, by go_num, blw_alloc hB, ?_⟩, by simp [intOf]; omega⟩
            intro b' off' hab j hj z hcz
            by_cases hjk : j < k
            · exact hz b' off' hab j hjk z hcz
            · have hjk' : j = k := by omega
              subst hjk'
              cases hab
              have := e1.symm.trans hcz
              cases this
              omega
      · have hk' : k = len := by omega
        subst hk'
        go_wp2
        go_ret
        exact ⟨hB, .inr ⟨rfl, by omega, hz⟩⟩
end Go.Proofs.Ythjhbceepkoifaa.Fx
