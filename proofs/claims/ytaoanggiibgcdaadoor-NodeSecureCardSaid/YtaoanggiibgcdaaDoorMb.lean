/-
  Addresses: the specification's begins and Node: an identifier of 20 bytes.
-/
import Derived.Test.YtaoanggiibgcdaaDoorMa
namespace Go.Proofs.YtaoanggiibgcdaaDoor.Ma
open Go Go.RowKit Go.Shelf Go.Proofs.YtaoanggiibgcdaaDoor.Hz Go.Proofs.YtaoanggiibgcdaaDoor.Na Go.Proofs.YtaoanggiibgcdaaDoor.Nb

theorem conv1at (W : World) (b : Nat) (v : Int) (h : W.cell? ⟨b, 0, none⟩ = some (.int .u8 v)) : (convert 39 9 (.slice (some ⟨b, 0, none⟩) 1 1)).run Tryd.prog W = .ok (.string (strOfNums [v])) W :=
  run_convert_bytes_arg (P := Tryd.prog) W 39 5 Tryd.underlying39 Tryd.underlying5 b 0 1 1 [v] rfl (fun i hi => by
    obtain rfl : i = 0 := by omega
    exact h) 9 Tryd.underlying9
theorem undrew {W w' : World} (h : Below W.drew.heap.size W.drew w') : Below W.heap.size W w' := (blw_drew (Below.refl _ W)).trans h
theorem one_size (v : Int) : (strOfNums [v]).size = 1 := by rw [strOfNums_size]; rfl
theorem mask_any (f : Int) (ip : ByteArray) (p : Int) (w : World) (h : okIP f ip p) : Calls Tryd.prog 33 #[.agg #[.int .i64 f, .string ip, .int .i64 p]] w fun e w' => ∃ m : ByteArray, e = .returned (.string m) ∧ m.size ≤ 8 ∧ Below w.heap.size w w' := by
  rcases h.1 with ⟨rfl, h4⟩ | ⟨rfl, h6⟩
  · exact (mask4 ip p w (by omega)).mono fun e w' ⟨m, h1, h2, h3⟩ => ⟨m, h1, by omega, h3⟩
  · exact (mask6 ip p w (by omega)).mono fun e w' ⟨m, h1, h2, h3⟩ => ⟨m, h1, by omega, h3⟩
theorem sum32 (s : ByteArray) (w : World) (hs : s.size ≤ 100) : Calls Tryd.prog 13 #[.string s] w fun e w' => ∃ D : ByteArray, e = .returned (.string D) ∧ D.size = 32 ∧ Below w.heap.size w w' :=
  (Hh.RSum_any s w (by unfold maxLen; omega)).mono fun e w' ⟨h1, h2⟩ => ⟨_, h1, Dg.sum_size _, h2⟩

set_option maxRecDepth 100000 in
set_option maxHeartbeats 3200000 in
theorem begins_any (f : Int) (ip : ByteArray) (p : Int) (r : Nat) (w : World) (h : okIP f ip p) (hr : r ≤ 255) :
    Calls Tryd.prog 14 #[.agg #[.int .i64 f, .string ip, .int .i64 p], .int .i64 (r : Int)] w fun e w' => ∃ F : ByteArray, e = .returned (.string F) ∧ F.size = 3 ∧ Below w.heap.size w w' := by
  have HM := Lib.hid (fun w => mask_any f ip p w h)
  have HS := Lib.hid (fun s w hs => sum32 s w hs)
  have hcv := conv1at
  have hw1 : ((r : Int).tmod 8) = ((r % 8 : Nat) : Int) := by rw [Int.tmod_eq_emod_of_nonneg (by omega)]; omega
  have hw2 : IntKind.u8.wrap ((r % 8 : Nat) : Int) = ((r % 8 : Nat) : Int) := by rw [IntKind.wrap_u8]; omega
  have h1 := one_size ((r % 8 : Nat) : Int)
  obtain ⟨t, ht⟩ : ∃ t, r % 8 = t := ⟨_, rfl⟩
  rw [ht] at hw1 hw2 h1
  clear h ht
  go_enter Tryd.func14, Tryd.ntmps14
  go_wp2_with fail
  go_region_with (first
    | (go_at_call 33; refine (HM.out _).mono ?_; rintro e w2 ⟨m, rfl, hm, hb⟩; obtain ⟨hc, hf⟩ := bcell hb; have HBM := Lib.hid hb; clear hb)
    | (go_at_call 13; refine (HS.out _ _ (by rw [ByteArray.size_append, h1]; omega)).mono ?_; rintro e w3 ⟨D, rfl, hD, hb3⟩))
  all_goals
    go_wp2
    go_ret
    refine ⟨D.extract 0 3, rfl, by rw [ByteArray.size_extract]; omega, ?_⟩
    first
      | exact below_alloc _ (undrew (blw HBM.out (below_alloc _ hb3)))
      | exact below_alloc _ (below_alloc _ (undrew (blw HBM.out hb3)))

end Go.Proofs.YtaoanggiibgcdaaDoor.Ma
