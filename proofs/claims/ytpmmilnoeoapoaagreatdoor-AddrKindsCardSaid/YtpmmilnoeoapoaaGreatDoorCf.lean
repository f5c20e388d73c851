/-
  Addresses: Mask of the program, whole.
-/
import Derived.Test.YtpmmilnoeoapoaaGreatDoorCc
set_option linter.unusedVariables false
namespace Go.Proofs.YtpmmilnoeoapoaaGreatDoor.Ca
open Go Go.RowKit Go.Proofs.YtpmmilnoeoapoaaGreatDoor.Hz Go.Proofs.YtpmmilnoeoapoaaGreatDoor.Ac Go.Proofs.YtpmmilnoeoapoaaGreatDoor.Na Go.Proofs.YtpmmilnoeoapoaaGreatDoor.Nb Go.Proofs.YtpmmilnoeoapoaaGreatDoor.Sx

theorem enterMask (args : Array Value) (w : World) : (callFunc 63 args).run Tryz.prog w = .ok (.enter 63 args) w := by kernel_rfl
theorem MaskF_ok (f : Int) (ip : ByteArray) (p : Int) (b : Nat) (w : World) (h : okA f ip p) (k0 : w.cell? ⟨b, 0, none⟩ = some (.int .i64 f)) (k1 : w.cell? ⟨b, 1, none⟩ = some (.string ip)) (k2 : w.cell? ⟨b, 2, none⟩ = some (.int .i64 p)) :
    Calls Tryz.prog 63 #[.pointer (some ⟨b, 0, none⟩)] w fun e w' => e = .returned (.string (mk f ip)) ∧ Below w.heap.size w w' := by
  rcases h.1 with ⟨rfl, _⟩ | ⟨rfl, _⟩
  · exact MaskF_4 ip p b w h k0 k1 k2
  · exact MaskF_6 ip p b w h k0 k1 k2
set_option maxRecDepth 100000 in
set_option maxHeartbeats 800000 in
theorem Mask_any (f : Int) (ip : ByteArray) (p : Int) (w : World) :
    Calls Tryz.prog 24 #[.agg #[.int .i64 f, .string ip, .int .i64 p]] w fun e w' => e = .returned (.tuple #[.string (mkV f ip p), .int .i64 (mkE f ip p)]) ∧ Below w.heap.size w w' := by
  have hmf : ∀ (fn : Fn) (first cap : Array Value) (w : World), (Instr.makeFunc fn first cap).run Tryz.prog w = .ok (.func fn first cap) w := fun _ _ _ _ => rfl
  have H : Hid (Calls Tryz.prog 42 #[.func (Fn.func 63) #[] #[.pointer (some ⟨w.heap.size, 0, none⟩)]] (bxa w f ip p) fun e w' => e = .returned (.tuple #[.string (mkV f ip p), .int .i64 (mkE f ip p)]) ∧ (bxa w f ip p).grownBy w' none) := by
    refine Lib.hid ?_
    obtain ⟨k0, k1, k2⟩ := bxa_k w f ip p
    by_cases h : okA f ip p
    · rw [show mkV f ip p = mk f ip from if_pos h, show mkE f ip p = 0 from if_pos h]
      refine (Aa.att_ok 63 _ _ (bxa w f ip p) none (fun _ => True) (sta_true _) (fun _ h => by cases h) enterMask ((MaskF_ok f ip p _ _ h k0 k1 k2).mono fun e w' hh => ⟨hh.1, trivial, gb_below hh.2 _⟩)).mono fun e w' hh => ⟨hh.1, hh.2.2⟩
    · rw [show mkV f ip p = ⟨#[]⟩ from if_neg h, show mkE f ip p = 1 from if_neg h]
      refine (Aa.att_no 63 _ 1 (bxa w f ip p) none (fun _ => True) (sta_true _) (fun _ h => by cases h) enterMask ((MaskF_no f ip p _ _ h k0 k1 k2).mono fun e w' hh => ⟨hh.1, trivial, gb_below hh.2 _⟩)).mono fun e w' hh => ⟨hh.1, hh.2.2⟩
  generalize mkV f ip p = x at H ⊢
  generalize mkE f ip p = y at H ⊢
  have HW := Lib.hid (show Below w.heap.size w (bxa w f ip p) from (Below.refl _ _).alloc (Nat.le_refl _) _)
  unfold bxa at H HW
  go_enter Tryz.func24, Tryz.ntmps24
  go_wp2_with fail
  refine H.out.mono ?_
  rintro e w1 ⟨rfl, hg⟩
  have HG := Lib.hid (blw HW.out (below_gb hg))
  clear hg
  go_wp2
  go_ret2
  exact ⟨rfl, HG.out⟩
end Go.Proofs.YtpmmilnoeoapoaaGreatDoor.Ca
