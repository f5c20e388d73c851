/-
  Addresses: V4 of the reference.
-/
import Derived.Test.YtpmmilnoeoapoaaGreatDoorBg
set_option linter.unusedVariables false
namespace Go.Proofs.YtpmmilnoeoapoaaGreatDoor.Bg
open Go Go.RowKit Go.Proofs.YtpmmilnoeoapoaaGreatDoor.Hz Go.Proofs.YtpmmilnoeoapoaaGreatDoor.Ac Go.Proofs.YtpmmilnoeoapoaaGreatDoor.Sx Go.Proofs.YtpmmilnoeoapoaaGreatDoor.Rg

set_option maxRecDepth 100000 in
set_option maxHeartbeats 4000000 in
theorem RV4_any (n : Nat → Int) (p : Int) (w : World) :
    Calls Tryz.prog 27 #[.int .i64 (n 0), .int .i64 (n 1), .int .i64 (n 2), .int .i64 (n 3), .int .i64 p] w fun e w' => e = .returned (.tuple #[.agg #[.int .i64 (vF n p), .string (vI n p), .int .i64 (vP n p)], .int .i64 (vE n p)]) ∧ Below w.heap.size w w' := by
  have HR : Hid (∃ w2, (w.alloc (.cells #[.int .i64 0, .string ⟨#[]⟩, .int .i64 0] 26)).alloc (.cells #[.int .i64 (n 0), .int .i64 (n 1), .int .i64 (n 2), .int .i64 (n 3)] 3) = w2 ∧ w2.heap.size = w.heap.size + 2 ∧ w2.heap[w.heap.size]? = some (.cells #[.int .i64 0, .string ⟨#[]⟩, .int .i64 0] 26) ∧ w.grownBy w2 none ∧ (∀ j, j < 4 → w2.cell? ⟨w.heap.size + 1, j, none⟩ = some (.int .i64 (n j)))) :=
    Lib.hid ⟨_, rfl, by simp, (Below.heap_alloc _ _ _ (by simp)).trans (World.alloc_heap_new _ _), gb_trans (gb_alloc _ _ _) (gb_alloc _ _ _), fun j hj => by
      obtain rfl | rfl | rfl | rfl : j = 0 ∨ j = 1 ∨ j = 2 ∨ j = 3 := by omega
      all_goals simp [go_sem]⟩
  have HRR := Lib.hid (fun (W : World) (F : Int) (I : ByteArray) (P : Int) (A B C : Value) (kr : W.heap[w.heap.size]? = some (.cells #[A, B, C] 26)) => run_loadVar_row (P := Tryz.prog) _ w.heap.size _ 26 _ _ _ (set3' W _ _ _ _ (.int .i64 F) (.string I) (.int .i64 P) _ kr) Tryz.underlying26 rfl (by kernel_rfl))
  have bad : ∀ h : ¬ v4ok n p, vF n p = 0 ∧ vI n p = ⟨#[]⟩ ∧ vP n p = 0 ∧ vE n p = 7 := fun h => ⟨if_neg h, if_neg h, if_neg h, if_neg h⟩
  have good : ∀ h : v4ok n p, vF n p = 4 ∧ vI n p = v4i n ∧ vP n p = p ∧ vE n p = 0 := fun h => ⟨if_pos h, if_pos h, if_pos h, if_pos h⟩
  have BAD := Lib.hid bad
  have GOOD := Lib.hid good
  clear bad good
  go_enter Tryz.func27, Tryz.ntmps27
  go_wp2_with fail
  obtain ⟨w2, e2, hs2, hr2, hg2, hc2⟩ := HR.out
  rw [e2]
  have HR2 := Lib.hid hr2
  have HG2 := Lib.hid hg2
  have HC2 := Lib.hid hc2
  clear hr2 hg2 hc2 e2 HR
  go_loopw [20] (fun i wr => ∃ (k : Nat), k ≤ 4 ∧ i = .int .i64 (k : Int) ∧ Hid (∀ j, j < k → 0 ≤ n j ∧ n j ≤ 255) ∧ wr = w2) (fun i _ => 4 - (iOf i).toNat)
  case atStart => exact ⟨0, by omega, rfl, Lib.hid (fun j hj => by omega), rfl⟩
  case round =>
    obtain ⟨k, hk, rfl, HE, rfl⟩ := hrel
    have c00 : wr.cell? ⟨w.heap.size, 0, none⟩ = some (.int .i64 0) := by have := HR2.out; simp [World.cell?, this]
    have f00 : wr.frozen? ⟨w.heap.size, 0, none⟩ = false := by have := HR2.out; simp [World.frozen?, this]
    have c01 : wr.cell? ⟨w.heap.size, 1, none⟩ = some (.string ⟨#[]⟩) := by have := HR2.out; simp [World.cell?, this]
    have f01 : wr.frozen? ⟨w.heap.size, 1, none⟩ = false := by have := HR2.out; simp [World.frozen?, this]
    have c02 : wr.cell? ⟨w.heap.size, 2, none⟩ = some (.int .i64 0) := by have := HR2.out; simp [World.cell?, this]
    have f02 : wr.frozen? ⟨w.heap.size, 2, none⟩ = false := by have := HR2.out; simp [World.frozen?, this]
    by_cases hkl : k < 4
    · have hci := HC2.out k hkl
      have hg0 : (0 : Int) ≤ (k : Int) := by omega
      have hg4 : (k : Int) < 4 := by omega
      by_cases hok : 0 ≤ n k ∧ n k ≤ 255
      · obtain ⟨hge, hle⟩ := hok
        clear c00 f00 c01 f01 c02 f02
        go_wp2_with fail
        exact ⟨⟨k + 1, by omega, by go_num, Lib.hid (fun j hj => by
          obtain h | rfl : j < k ∨ j = k := by omega
          · exact HE.out j h
          · exact ⟨hge, hle⟩), trivial⟩, by simp [iOf]; omega⟩
      · have HN := Lib.hid (show ¬ v4ok n p from fun h => hok (h.1 k hkl))
        have hG := Lib.hid (show Below w.heap.size w (((wr.setCell ⟨w.heap.size, 0, none⟩ (.int .i64 0)).setCell ⟨w.heap.size, 1, none⟩ (.string ⟨#[]⟩)).setCell ⟨w.heap.size, 2, none⟩ (.int .i64 0)) from below_gb (gb_new (gb_new (gb_new HG2.out _ _ _ (by omega)) _ _ _ (by omega)) _ _ _ (by omega)))
        by_cases hlo : n k < 0
        · go_wp2_with fail
          obtain ⟨e1, e2, e3, e4⟩ := BAD.out HN.out
          rw [e1, e2, e3, e4]
          have hq := HRR.out wr 0 ⟨#[]⟩ 0 _ _ _ HR2.out
          refine bodyPost_ret (v := .tuple #[.agg #[.int .i64 0, .string ⟨#[]⟩, .int .i64 0], .int .i64 7]) ?_ rfl ⟨rfl, hG.out⟩
          rw [results_cell_tmp rfl]
          change ((loadVar 26 ⟨w.heap.size, 0, none⟩).run Tryz.prog _).andThen (fun v w₂ => Result.ok (Value.tuple #[v, Value.int IntKind.i64 7]) w₂) = _
          rw [hq]
          rfl
        · have hhi : 255 < n k := by omega
          go_wp2_with fail
          obtain ⟨e1, e2, e3, e4⟩ := BAD.out HN.out
          rw [e1, e2, e3, e4]
          have hq := HRR.out wr 0 ⟨#[]⟩ 0 _ _ _ HR2.out
          refine bodyPost_ret (v := .tuple #[.agg #[.int .i64 0, .string ⟨#[]⟩, .int .i64 0], .int .i64 7]) ?_ rfl ⟨rfl, hG.out⟩
          rw [results_cell_tmp rfl]
          change ((loadVar 26 ⟨w.heap.size, 0, none⟩).run Tryz.prog _).andThen (fun v w₂ => Result.ok (Value.tuple #[v, Value.int IntKind.i64 7]) w₂) = _
          rw [hq]
          rfl
    · obtain rfl : k = 4 := by omega
      by_cases hok : 1 ≤ p ∧ p ≤ 65535
      · obtain ⟨hge, hle⟩ := hok
        clear c00 f00 c01 f01 c02 f02
        have HS2 := Lib.hid hs2
        have hv : ∀ j, j < 4 → IntKind.u8.wrap (n j) = n j := fun j hj => by have := HE.out j hj; rw [IntKind.wrap_u8]; omega
        have v0 := hv 0 (by omega)
        have v1 := hv 1 (by omega)
        have v2 := hv 2 (by omega)
        have v3 := hv 3 (by omega)
        clear hv
        have HV := Lib.hid (show v4ok n p from ⟨HE.out, hge, hle⟩)
        have hcv : (convert 66 9 (.slice (some ⟨wr.heap.size, 0, none⟩) 4 4)).run Tryz.prog (wr.alloc (.cells #[.int .u8 (n 0), .int .u8 (n 1), .int .u8 (n 2), .int .u8 (n 3)] 5)) = .ok (.string (v4i n)) (wr.alloc (.cells #[.int .u8 (n 0), .int .u8 (n 1), .int .u8 (n 2), .int .u8 (n 3)] 5)) :=
          run_convert_bytes_arg (P := Tryz.prog) _ 66 5 Tryz.underlying66 Tryz.underlying5 wr.heap.size 0 4 4 [n 0, n 1, n 2, n 3] rfl (fun i hi => by
            obtain rfl | rfl | rfl | rfl : i = 0 ∨ i = 1 ∨ i = 2 ∨ i = 3 := by omega
            all_goals simp [go_sem]) 9 Tryz.underlying9
        have KR := Lib.hid (show (wr.alloc (.cells #[.int .u8 (n 0), .int .u8 (n 1), .int .u8 (n 2), .int .u8 (n 3)] 5)).heap[w.heap.size]? = some (.cells #[.int .i64 0, .string ⟨#[]⟩, .int .i64 0] 26) from (Below.heap_alloc _ _ _ (by omega)).trans HR2.out)
        have c00 : (wr.alloc (.cells #[.int .u8 (n 0), .int .u8 (n 1), .int .u8 (n 2), .int .u8 (n 3)] 5)).cell? ⟨w.heap.size, 0, none⟩ = some (.int .i64 0) := by have := KR.out; simp [World.cell?, this]
        have f00 : (wr.alloc (.cells #[.int .u8 (n 0), .int .u8 (n 1), .int .u8 (n 2), .int .u8 (n 3)] 5)).frozen? ⟨w.heap.size, 0, none⟩ = false := by have := KR.out; simp [World.frozen?, this]
        have c01 : (wr.alloc (.cells #[.int .u8 (n 0), .int .u8 (n 1), .int .u8 (n 2), .int .u8 (n 3)] 5)).cell? ⟨w.heap.size, 1, none⟩ = some (.string ⟨#[]⟩) := by have := KR.out; simp [World.cell?, this]
        have f01 : (wr.alloc (.cells #[.int .u8 (n 0), .int .u8 (n 1), .int .u8 (n 2), .int .u8 (n 3)] 5)).frozen? ⟨w.heap.size, 1, none⟩ = false := by have := KR.out; simp [World.frozen?, this]
        have c02 : (wr.alloc (.cells #[.int .u8 (n 0), .int .u8 (n 1), .int .u8 (n 2), .int .u8 (n 3)] 5)).cell? ⟨w.heap.size, 2, none⟩ = some (.int .i64 0) := by have := KR.out; simp [World.cell?, this]
        have f02 : (wr.alloc (.cells #[.int .u8 (n 0), .int .u8 (n 1), .int .u8 (n 2), .int .u8 (n 3)] 5)).frozen? ⟨w.heap.size, 2, none⟩ = false := by have := KR.out; simp [World.frozen?, this]
        have hG := Lib.hid (show Below w.heap.size w ((((wr.alloc (.cells #[.int .u8 (n 0), .int .u8 (n 1), .int .u8 (n 2), .int .u8 (n 3)] 5)).setCell ⟨w.heap.size, 0, none⟩ (.int .i64 4)).setCell ⟨w.heap.size, 1, none⟩ (.string (v4i n))).setCell ⟨w.heap.size, 2, none⟩ (.int .i64 p)) from below_gb (gb_new (gb_new (gb_new (gb_trans HG2.out (gb_alloc _ _ _)) _ _ _ (by omega)) _ _ _ (by omega)) _ _ _ (by omega)))
        clear hs2
        go_wp2_with fail
        obtain ⟨e1, e2, e3, e4⟩ := GOOD.out HV.out
        rw [e1, e2, e3, e4]
        have hq := HRR.out _ 4 (v4i n) p _ _ _ KR.out
        refine bodyPost_ret (v := .tuple #[.agg #[.int .i64 4, .string (v4i n), .int .i64 p], .int .i64 0]) ?_ rfl ⟨rfl, hG.out⟩
        rw [results_cell_tmp rfl]
        change ((loadVar 26 ⟨w.heap.size, 0, none⟩).run Tryz.prog _).andThen (fun v w₂ => Result.ok (Value.tuple #[v, Value.int IntKind.i64 0]) w₂) = _
        rw [hq]
        rfl
      · have HN := Lib.hid (show ¬ v4ok n p from fun h => hok h.2)
        have hG := Lib.hid (show Below w.heap.size w (((wr.setCell ⟨w.heap.size, 0, none⟩ (.int .i64 0)).setCell ⟨w.heap.size, 1, none⟩ (.string ⟨#[]⟩)).setCell ⟨w.heap.size, 2, none⟩ (.int .i64 0)) from below_gb (gb_new (gb_new (gb_new HG2.out _ _ _ (by omega)) _ _ _ (by omega)) _ _ _ (by omega)))
        by_cases hlo : p < 1
        · go_wp2_with fail
          obtain ⟨e1, e2, e3, e4⟩ := BAD.out HN.out
          rw [e1, e2, e3, e4]
          have hq := HRR.out wr 0 ⟨#[]⟩ 0 _ _ _ HR2.out
          refine bodyPost_ret (v := .tuple #[.agg #[.int .i64 0, .string ⟨#[]⟩, .int .i64 0], .int .i64 7]) ?_ rfl ⟨rfl, hG.out⟩
          rw [results_cell_tmp rfl]
          change ((loadVar 26 ⟨w.heap.size, 0, none⟩).run Tryz.prog _).andThen (fun v w₂ => Result.ok (Value.tuple #[v, Value.int IntKind.i64 7]) w₂) = _
          rw [hq]
          rfl
        · have hhi : 65535 < p := by omega
          go_wp2_with fail
          obtain ⟨e1, e2, e3, e4⟩ := BAD.out HN.out
          rw [e1, e2, e3, e4]
          have hq := HRR.out wr 0 ⟨#[]⟩ 0 _ _ _ HR2.out
          refine bodyPost_ret (v := .tuple #[.agg #[.int .i64 0, .string ⟨#[]⟩, .int .i64 0], .int .i64 7]) ?_ rfl ⟨rfl, hG.out⟩
          rw [results_cell_tmp rfl]
          change ((loadVar 26 ⟨w.heap.size, 0, none⟩).run Tryz.prog _).andThen (fun v w₂ => Result.ok (Value.tuple #[v, Value.int IntKind.i64 7]) w₂) = _
          rw [hq]
          rfl
end Go.Proofs.YtpmmilnoeoapoaaGreatDoor.Bg
