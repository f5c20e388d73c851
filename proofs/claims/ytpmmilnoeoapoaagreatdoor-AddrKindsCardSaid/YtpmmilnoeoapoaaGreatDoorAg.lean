/-
  Addresses: the program's Pack, whole.
-/
import Derived.Test.YtpmmilnoeoapoaaGreatDoorAf
set_option linter.unusedVariables false
namespace Go.Proofs.YtpmmilnoeoapoaaGreatDoor.Ac
open Go Go.RowKit Go.Proofs.YtpmmilnoeoapoaaGreatDoor.Hz Go.Proofs.YtpmmilnoeoapoaaGreatDoor.Sx

theorem enterPack (args : Array Value) (w : World) : (callFunc 50 args).run Tryz.prog w = .ok (.enter 50 args) w := by kernel_rfl
/-- the world in which a boxed address lies -/
def bxa (w : World) (f : Int) (ip : ByteArray) (p : Int) : World := w.alloc (.cells #[.int .i64 f, .string ip, .int .i64 p] 26)
theorem bxa_k (w : World) (f : Int) (ip : ByteArray) (p : Int) : (Aa.aw (bxa w f ip p)).cell? ⟨w.heap.size, 0, none⟩ = some (.int .i64 f) ∧ (Aa.aw (bxa w f ip p)).cell? ⟨w.heap.size, 1, none⟩ = some (.string ip) ∧ (Aa.aw (bxa w f ip p)).cell? ⟨w.heap.size, 2, none⟩ = some (.int .i64 p) :=
  ⟨kcell (below_gb (Aa.aw_gb _)) (by unfold bxa; simp [go_sem]), kcell (below_gb (Aa.aw_gb _)) (by unfold bxa; simp [go_sem]), kcell (below_gb (Aa.aw_gb _)) (by unfold bxa; simp [go_sem])⟩
/-- what Pack answers -/
def pkS (f : Int) (ip : ByteArray) (p : Int) : ByteArray := if okA f ip p then pk ip p else ⟨#[]⟩
def pkE (f : Int) (ip : ByteArray) (p : Int) : Int := if okA f ip p then 0 else 1

set_option maxRecDepth 100000 in
set_option maxHeartbeats 800000 in
theorem Pack_any (f : Int) (ip : ByteArray) (p : Int) (w : World) :
    Calls Tryz.prog 16 #[.agg #[.int .i64 f, .string ip, .int .i64 p]] w fun e w' => e = .returned (.tuple #[.string (pkS f ip p), .int .i64 (pkE f ip p)]) ∧ Below w.heap.size w w' := by
  have hmf : ∀ (fn : Fn) (first cap : Array Value) (w : World), (Instr.makeFunc fn first cap).run Tryz.prog w = .ok (.func fn first cap) w := fun _ _ _ _ => rfl
  have H : Hid (Calls Tryz.prog 42 #[.func (Fn.func 50) #[] #[.pointer (some ⟨w.heap.size, 0, none⟩)]] (bxa w f ip p) fun e w' => e = .returned (.tuple #[.string (pkS f ip p), .int .i64 (pkE f ip p)]) ∧ (bxa w f ip p).grownBy w' none) := by
    refine Lib.hid ?_
    obtain ⟨k0, k1, k2⟩ := bxa_k w f ip p
    by_cases h : okA f ip p
    · rw [show pkS f ip p = pk ip p from if_pos h, show pkE f ip p = 0 from if_pos h]
      refine (Aa.att_ok 50 _ _ (bxa w f ip p) none (fun _ => True) (sta_true _) (fun _ h => by cases h) enterPack ((PackF_ok f ip p _ _ h k0 k1 k2).mono fun e w' hh => ⟨hh.1, trivial, gb_below hh.2 _⟩)).mono fun e w' hh => ⟨hh.1, hh.2.2⟩
    · rw [show pkS f ip p = ⟨#[]⟩ from if_neg h, show pkE f ip p = 1 from if_neg h]
      refine (Aa.att_no 50 _ 1 (bxa w f ip p) none (fun _ => True) (sta_true _) (fun _ h => by cases h) enterPack ((PackF_no f ip p _ _ h k0 k1 k2).mono fun e w' hh => ⟨hh.1, trivial, gb_below hh.2 _⟩)).mono fun e w' hh => ⟨hh.1, hh.2.2⟩
  generalize pkS f ip p = x at H ⊢
  generalize pkE f ip p = y at H ⊢
  have HW := Lib.hid (show Below w.heap.size w (bxa w f ip p) from (Below.refl _ _).alloc (Nat.le_refl _) _)
  unfold bxa at H HW
  go_enter Tryz.func16, Tryz.ntmps16
  go_wp2_with fail
  refine H.out.mono ?_
  rintro e w1 ⟨rfl, hg⟩
  have HG := Lib.hid (blw HW.out (below_gb hg))
  clear hg
  go_wp2
  go_ret2
  exact ⟨rfl, HG.out⟩
end Go.Proofs.YtpmmilnoeoapoaaGreatDoor.Ac
