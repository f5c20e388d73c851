/-
  Addresses: Kind of the reference, family 6, a part of the ways. (made by mk_cd.py)
-/
import Derived.Test.YtpmmilnoeoapoaaGreatDoorCd
set_option linter.unusedVariables false
namespace Go.Proofs.YtpmmilnoeoapoaaGreatDoor.Bd
open Go Go.RowKit Go.Proofs.YtpmmilnoeoapoaaGreatDoor.Hz Go.Proofs.YtpmmilnoeoapoaaGreatDoor.Ac Go.Proofs.YtpmmilnoeoapoaaGreatDoor.Na Go.Proofs.YtpmmilnoeoapoaaGreatDoor.Sx Go.Proofs.YtpmmilnoeoapoaaGreatDoor.Nb

set_option maxRecDepth 100000 in
set_option maxHeartbeats 8000000 in
theorem RK6_12 (ip : ByteArray) (p : Int) (w : World) (x y l : Nat) (h : ip.size = 16) (hZ : decide (zr ip 15) = true) (hxx : by_ ip 0 = x) (hyy : by_ ip 1 = y) (hll : by_ ip 15 = l) (g1 : l ≠ 0) (g2 : x ≠ 255) (g3 : l ≠ 1) (g4 : x ≠ 252) (g5 : x ≠ 253) (g6 : x = 254) (g7 : 128 ≤ y) (g8 : y ≤ 191) : Calls Tryz.prog 62 #[.agg #[.int .i64 6, .string ip, .int .i64 p]] w fun e w' => e = .returned (.int .i64 3) ∧ Below w.heap.size w w' := by
  obtain ⟨zs, hzs⟩ : ∃ zs : List Int, zs = List.replicate 15 0 := ⟨_, rfl⟩
  have hmk : ∀ w, (Instr.makeSlice 66 (.int .i64 15) (.int .i64 15)).run Tryz.prog w = .ok (.slice (some ⟨w.heap.size, 0, none⟩) 15 15) (w.alloc (.cells (bytesI zs) 5)) := fun w => by rw [hzs]; exact makeN 15 w (by omega)
  have hcv : (convert 66 9 (.slice (some ⟨w.heap.size + 1, 0, none⟩) 15 15)).run Tryz.prog ((w.alloc (.cells #[.int .i64 6, .string ip, .int .i64 p] 26)).alloc (.cells (bytesI zs) 5)).drew = .ok (.string (strOfNums (List.replicate 15 0))) ((w.alloc (.cells #[.int .i64 6, .string ip, .int .i64 p] 26)).alloc (.cells (bytesI zs) 5)).drew := by
    have := (Bk.new (w.alloc (.cells #[.int .i64 6, .string ip, .int .i64 p] 26)) zs 5).drew.conv 15 15 (by rw [hzs]; simp)
    rw [World.size_alloc] at this
    rw [hzs] at this ⊢
    exact this
  clear hzs
  have hzb := zr_beq ip 15 (by omega)
  have hx := by_at ip 0 (by omega)
  have hy := by_at ip 1 (by omega)
  have hl := by_at ip 15 (by omega)
  rw [hZ] at hzb
  rw [hxx] at hx
  rw [hyy] at hy
  rw [hll] at hl
  have q1 : ((l : Int) == 0) = false := by simp; omega
  have q2 : ((x : Int) == 255) = false := by simp; omega
  have q3 : ((l : Int) == 1) = false := by simp; omega
  have q4 : ((x : Int) == 252) = false := by simp; omega
  have q5 : ((x : Int) == 253) = false := by simp; omega
  have q6 : ((x : Int) == 254) = true := by simp; omega
  have q7 :  (128 : Int) ≤ (y : Int) := by omega
  have q8 :  (y : Int) ≤ 191 := by omega
  clear hZ hxx hyy hll g1 g2 g3 g4 g5 g6 g7 g8
  generalize strOfNums (List.replicate 15 0) = O at hcv hzb
  have hwr : IntKind.i64.wrap 15 = 15 := by decide
  go_enter Tryz.func62, Tryz.ntmps62
  go_wp2_with fail
  go_region
  obtain ⟨W2, hW2⟩ : ∃ W2, ((w.alloc (.cells #[.int .i64 6, .string ip, .int .i64 p] 26)).alloc (.cells (bytesI zs) 5)).drew = W2 := ⟨_, rfl⟩
  have c0 : W2.cell? ⟨w.heap.size, 0, none⟩ = some (.int .i64 6) := by rw [← hW2]; exact acell _ (by simp [go_sem])
  have c1 : W2.cell? ⟨w.heap.size, 1, none⟩ = some (.string ip) := by rw [← hW2]; exact acell _ (by simp [go_sem])
  have HB2 := Lib.hid (show ∀ n, Below w.heap.size w (W2.drewN n) from fun n => by rw [← hW2]; have hh := (below_gb (gb_trans (gb_alloc w (.cells #[.int .i64 6, .string ip, .int .i64 p] 26) none) (gb_alloc _ (.cells (bytesI zs) 5) none))).drew; exact ⟨hh.os, hh.tape, hh.output, hh.size, hh.block⟩)
  rw [hW2]
  clear hW2 hcv hzb hmk
  go_wp2_with fail
  go_quiet (fail)
  clear hx hy hl c1 h
  go_wp2_with fail
  go_ret
  exact ⟨rfl, HB2.out _⟩

set_option maxRecDepth 100000 in
set_option maxHeartbeats 8000000 in
theorem RK6_13 (ip : ByteArray) (p : Int) (w : World) (x y l : Nat) (h : ip.size = 16) (hZ : decide (zr ip 15) = true) (hxx : by_ ip 0 = x) (hyy : by_ ip 1 = y) (hll : by_ ip 15 = l) (g1 : l ≠ 0) (g2 : x ≠ 255) (g3 : l ≠ 1) (g4 : x ≠ 252) (g5 : x ≠ 253) (g6 : x = 254) (g7 : 128 ≤ y) (g8 : ¬ y ≤ 191) : Calls Tryz.prog 62 #[.agg #[.int .i64 6, .string ip, .int .i64 p]] w fun e w' => e = .returned (.int .i64 4) ∧ Below w.heap.size w w' := by
  obtain ⟨zs, hzs⟩ : ∃ zs : List Int, zs = List.replicate 15 0 := ⟨_, rfl⟩
  have hmk : ∀ w, (Instr.makeSlice 66 (.int .i64 15) (.int .i64 15)).run Tryz.prog w = .ok (.slice (some ⟨w.heap.size, 0, none⟩) 15 15) (w.alloc (.cells (bytesI zs) 5)) := fun w => by rw [hzs]; exact makeN 15 w (by omega)
  have hcv : (convert 66 9 (.slice (some ⟨w.heap.size + 1, 0, none⟩) 15 15)).run Tryz.prog ((w.alloc (.cells #[.int .i64 6, .string ip, .int .i64 p] 26)).alloc (.cells (bytesI zs) 5)).drew = .ok (.string (strOfNums (List.replicate 15 0))) ((w.alloc (.cells #[.int .i64 6, .string ip, .int .i64 p] 26)).alloc (.cells (bytesI zs) 5)).drew := by
    have := (Bk.new (w.alloc (.cells #[.int .i64 6, .string ip, .int .i64 p] 26)) zs 5).drew.conv 15 15 (by rw [hzs]; simp)
    rw [World.size_alloc] at this
    rw [hzs] at this ⊢
    exact this
  clear hzs
  have hzb := zr_beq ip 15 (by omega)
  have hx := by_at ip 0 (by omega)
  have hy := by_at ip 1 (by omega)
  have hl := by_at ip 15 (by omega)
  rw [hZ] at hzb
  rw [hxx] at hx
  rw [hyy] at hy
  rw [hll] at hl
  have q1 : ((l : Int) == 0) = false := by simp; omega
  have q2 : ((x : Int) == 255) = false := by simp; omega
  have q3 : ((l : Int) == 1) = false := by simp; omega
  have q4 : ((x : Int) == 252) = false := by simp; omega
  have q5 : ((x : Int) == 253) = false := by simp; omega
  have q6 : ((x : Int) == 254) = true := by simp; omega
  have q7 :  (128 : Int) ≤ (y : Int) := by omega
  have q8 : ¬ (y : Int) ≤ 191 := by omega
  clear hZ hxx hyy hll g1 g2 g3 g4 g5 g6 g7 g8
  generalize strOfNums (List.replicate 15 0) = O at hcv hzb
  have hwr : IntKind.i64.wrap 15 = 15 := by decide
  go_enter Tryz.func62, Tryz.ntmps62
  go_wp2_with fail
  go_region
  obtain ⟨W2, hW2⟩ : ∃ W2, ((w.alloc (.cells #[.int .i64 6, .string ip, .int .i64 p] 26)).alloc (.cells (bytesI zs) 5)).drew = W2 := ⟨_, rfl⟩
  have c0 : W2.cell? ⟨w.heap.size, 0, none⟩ = some (.int .i64 6) := by rw [← hW2]; exact acell _ (by simp [go_sem])
  have c1 : W2.cell? ⟨w.heap.size, 1, none⟩ = some (.string ip) := by rw [← hW2]; exact acell _ (by simp [go_sem])
  have HB2 := Lib.hid (show ∀ n, Below w.heap.size w (W2.drewN n) from fun n => by rw [← hW2]; have hh := (below_gb (gb_trans (gb_alloc w (.cells #[.int .i64 6, .string ip, .int .i64 p] 26) none) (gb_alloc _ (.cells (bytesI zs) 5) none))).drew; exact ⟨hh.os, hh.tape, hh.output, hh.size, hh.block⟩)
  rw [hW2]
  clear hW2 hcv hzb hmk
  go_wp2_with fail
  go_quiet (fail)
  clear hx hy hl c1 h
  go_wp2_with fail
  go_ret
  exact ⟨rfl, HB2.out _⟩

set_option maxRecDepth 100000 in
set_option maxHeartbeats 8000000 in
theorem RK6_14 (ip : ByteArray) (p : Int) (w : World) (x y l : Nat) (h : ip.size = 16) (hZ : decide (zr ip 15) = true) (hxx : by_ ip 0 = x) (hyy : by_ ip 1 = y) (hll : by_ ip 15 = l) (g1 : l ≠ 0) (g2 : x ≠ 255) (g3 : l ≠ 1) (g4 : x ≠ 252) (g5 : x ≠ 253) (g6 : x = 254) (g7 : ¬ 128 ≤ y) : Calls Tryz.prog 62 #[.agg #[.int .i64 6, .string ip, .int .i64 p]] w fun e w' => e = .returned (.int .i64 4) ∧ Below w.heap.size w w' := by
  obtain ⟨zs, hzs⟩ : ∃ zs : List Int, zs = List.replicate 15 0 := ⟨_, rfl⟩
  have hmk : ∀ w, (Instr.makeSlice 66 (.int .i64 15) (.int .i64 15)).run Tryz.prog w = .ok (.slice (some ⟨w.heap.size, 0, none⟩) 15 15) (w.alloc (.cells (bytesI zs) 5)) := fun w => by rw [hzs]; exact makeN 15 w (by omega)
  have hcv : (convert 66 9 (.slice (some ⟨w.heap.size + 1, 0, none⟩) 15 15)).run Tryz.prog ((w.alloc (.cells #[.int .i64 6, .string ip, .int .i64 p] 26)).alloc (.cells (bytesI zs) 5)).drew = .ok (.string (strOfNums (List.replicate 15 0))) ((w.alloc (.cells #[.int .i64 6, .string ip, .int .i64 p] 26)).alloc (.cells (bytesI zs) 5)).drew := by
    have := (Bk.new (w.alloc (.cells #[.int .i64 6, .string ip, .int .i64 p] 26)) zs 5).drew.conv 15 15 (by rw [hzs]; simp)
    rw [World.size_alloc] at this
    rw [hzs] at this ⊢
    exact this
  clear hzs
  have hzb := zr_beq ip 15 (by omega)
  have hx := by_at ip 0 (by omega)
  have hy := by_at ip 1 (by omega)
  have hl := by_at ip 15 (by omega)
  rw [hZ] at hzb
  rw [hxx] at hx
  rw [hyy] at hy
  rw [hll] at hl
  have q1 : ((l : Int) == 0) = false := by simp; omega
  have q2 : ((x : Int) == 255) = false := by simp; omega
  have q3 : ((l : Int) == 1) = false := by simp; omega
  have q4 : ((x : Int) == 252) = false := by simp; omega
  have q5 : ((x : Int) == 253) = false := by simp; omega
  have q6 : ((x : Int) == 254) = true := by simp; omega
  have q7 : ¬ (128 : Int) ≤ (y : Int) := by omega
  clear hZ hxx hyy hll g1 g2 g3 g4 g5 g6 g7
  generalize strOfNums (List.replicate 15 0) = O at hcv hzb
  have hwr : IntKind.i64.wrap 15 = 15 := by decide
  go_enter Tryz.func62, Tryz.ntmps62
  go_wp2_with fail
  go_region
  obtain ⟨W2, hW2⟩ : ∃ W2, ((w.alloc (.cells #[.int .i64 6, .string ip, .int .i64 p] 26)).alloc (.cells (bytesI zs) 5)).drew = W2 := ⟨_, rfl⟩
  have c0 : W2.cell? ⟨w.heap.size, 0, none⟩ = some (.int .i64 6) := by rw [← hW2]; exact acell _ (by simp [go_sem])
  have c1 : W2.cell? ⟨w.heap.size, 1, none⟩ = some (.string ip) := by rw [← hW2]; exact acell _ (by simp [go_sem])
  have HB2 := Lib.hid (show ∀ n, Below w.heap.size w (W2.drewN n) from fun n => by rw [← hW2]; have hh := (below_gb (gb_trans (gb_alloc w (.cells #[.int .i64 6, .string ip, .int .i64 p] 26) none) (gb_alloc _ (.cells (bytesI zs) 5) none))).drew; exact ⟨hh.os, hh.tape, hh.output, hh.size, hh.block⟩)
  rw [hW2]
  clear hW2 hcv hzb hmk
  go_wp2_with fail
  go_quiet (fail)
  clear hx hy hl c1 h
  go_wp2_with fail
  go_ret
  exact ⟨rfl, HB2.out _⟩

set_option maxRecDepth 100000 in
set_option maxHeartbeats 8000000 in
theorem RK6_15 (ip : ByteArray) (p : Int) (w : World) (x y l : Nat) (h : ip.size = 16) (hZ : decide (zr ip 15) = true) (hxx : by_ ip 0 = x) (hyy : by_ ip 1 = y) (hll : by_ ip 15 = l) (g1 : l ≠ 0) (g2 : x ≠ 255) (g3 : l ≠ 1) (g4 : x ≠ 252) (g5 : x ≠ 253) (g6 : x ≠ 254) : Calls Tryz.prog 62 #[.agg #[.int .i64 6, .string ip, .int .i64 p]] w fun e w' => e = .returned (.int .i64 4) ∧ Below w.heap.size w w' := by
  obtain ⟨zs, hzs⟩ : ∃ zs : List Int, zs = List.replicate 15 0 := ⟨_, rfl⟩
  have hmk : ∀ w, (Instr.makeSlice 66 (.int .i64 15) (.int .i64 15)).run Tryz.prog w = .ok (.slice (some ⟨w.heap.size, 0, none⟩) 15 15) (w.alloc (.cells (bytesI zs) 5)) := fun w => by rw [hzs]; exact makeN 15 w (by omega)
  have hcv : (convert 66 9 (.slice (some ⟨w.heap.size + 1, 0, none⟩) 15 15)).run Tryz.prog ((w.alloc (.cells #[.int .i64 6, .string ip, .int .i64 p] 26)).alloc (.cells (bytesI zs) 5)).drew = .ok (.string (strOfNums (List.replicate 15 0))) ((w.alloc (.cells #[.int .i64 6, .string ip, .int .i64 p] 26)).alloc (.cells (bytesI zs) 5)).drew := by
    have := (Bk.new (w.alloc (.cells #[.int .i64 6, .string ip, .int .i64 p] 26)) zs 5).drew.conv 15 15 (by rw [hzs]; simp)
    rw [World.size_alloc] at this
    rw [hzs] at this ⊢
    exact this
  clear hzs
  have hzb := zr_beq ip 15 (by omega)
  have hx := by_at ip 0 (by omega)
  have hy := by_at ip 1 (by omega)
  have hl := by_at ip 15 (by omega)
  rw [hZ] at hzb
  rw [hxx] at hx
  rw [hyy] at hy
  rw [hll] at hl
  have q1 : ((l : Int) == 0) = false := by simp; omega
  have q2 : ((x : Int) == 255) = false := by simp; omega
  have q3 : ((l : Int) == 1) = false := by simp; omega
  have q4 : ((x : Int) == 252) = false := by simp; omega
  have q5 : ((x : Int) == 253) = false := by simp; omega
  have q6 : ((x : Int) == 254) = false := by simp; omega
  clear hZ hxx hyy hll g1 g2 g3 g4 g5 g6
  generalize strOfNums (List.replicate 15 0) = O at hcv hzb
  have hwr : IntKind.i64.wrap 15 = 15 := by decide
  go_enter Tryz.func62, Tryz.ntmps62
  go_wp2_with fail
  go_region
  obtain ⟨W2, hW2⟩ : ∃ W2, ((w.alloc (.cells #[.int .i64 6, .string ip, .int .i64 p] 26)).alloc (.cells (bytesI zs) 5)).drew = W2 := ⟨_, rfl⟩
  have c0 : W2.cell? ⟨w.heap.size, 0, none⟩ = some (.int .i64 6) := by rw [← hW2]; exact acell _ (by simp [go_sem])
  have c1 : W2.cell? ⟨w.heap.size, 1, none⟩ = some (.string ip) := by rw [← hW2]; exact acell _ (by simp [go_sem])
  have HB2 := Lib.hid (show ∀ n, Below w.heap.size w (W2.drewN n) from fun n => by rw [← hW2]; have hh := (below_gb (gb_trans (gb_alloc w (.cells #[.int .i64 6, .string ip, .int .i64 p] 26) none) (gb_alloc _ (.cells (bytesI zs) 5) none))).drew; exact ⟨hh.os, hh.tape, hh.output, hh.size, hh.block⟩)
  rw [hW2]
  clear hW2 hcv hzb hmk
  go_wp2_with fail
  go_quiet (fail)
  clear hx hy hl c1 h
  go_wp2_with fail
  go_ret
  exact ⟨rfl, HB2.out _⟩
end Go.Proofs.YtpmmilnoeoapoaaGreatDoor.Bd
