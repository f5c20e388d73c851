/-
  Addresses: Text of an address of family 4.
-/
import Derived.Test.YtpmmilnoeoapoaaGreatDoorBh
import Derived.Test.YtpmmilnoeoapoaaGreatDoorAg
import Derived.Deep.RegionHeld3
import Derived.Deep.RegionWith
set_option linter.unusedVariables false
namespace Go.Proofs.YtpmmilnoeoapoaaGreatDoor.Bh
open Go Go.RowKit Go.Proofs.YtpmmilnoeoapoaaGreatDoor.Hz Go.Proofs.YtpmmilnoeoapoaaGreatDoor.Ac Go.Proofs.YtpmmilnoeoapoaaGreatDoor.Na Go.Proofs.YtpmmilnoeoapoaaGreatDoor.Sx

theorem mtx4 (w : World) : (method 296 108 (.agg #[]) "covey/addr.text").run Tryz.prog w = .ok (180, .agg #[]) w := by kernel_rfl
/-- the text of an address of family 4 -/
def txa (ip : ByteArray) (p : Nat) : ByteArray := tx4 ip ++ ⟨#[58]⟩ ++ dec p

set_option maxRecDepth 100000 in
set_option maxHeartbeats 4000000 in
theorem TextF (ip : ByteArray) (p : Nat) (b : Nat) (w : World) (h : okA 4 ip (p : Int)) (ht : Tab w) (k0 : w.cell? ⟨b, 0, none⟩ = some (.int .i64 4)) (k1 : w.cell? ⟨b, 1, none⟩ = some (.string ip)) (k2 : w.cell? ⟨b, 2, none⟩ = some (.int .i64 (p : Int))) :
    Calls Tryz.prog 74 #[.pointer (some ⟨b, 0, none⟩)] w fun e w' => e = .returned (.string (txa ip p)) ∧ Below w.heap.size w w' := by
  have hz : ip.size = 4 := by obtain ⟨h, _⟩ := h; omega
  have hp1 : p ≤ 65535 := by obtain ⟨_, _, h⟩ := h; omega
  have HA := Lib.hid (fun w => ask_ok 4 ip p w h)
  rw [show fam 4 = .iface 108 (.agg #[]) from if_pos rfl] at HA
  have HT := Lib.hid (fun w ht => text4 ip w hz ht)
  have HI := Lib.hid (fun w ht => Itoa_any p (by omega) w ht)
  have hm := mtx4
  have s1 : (tx4 ip).size ≤ 23 := by have := tx4_size ip; unfold tx4; simpa [ByteArray.size] using this
  have s2 := dec_size p (by omega)
  have HX := Lib.hid (show txa ip p = tx4 ip ++ ⟨#[58]⟩ ++ dec p from rfl)
  generalize txa ip p = TX at HX ⊢
  generalize tx4 ip = X at HT HX s1
  generalize dec p = Y at HI HX s2
  have b1 : ¬ 9223372036854775807 < X.size + 1 := by omega
  have b2 : ¬ 9223372036854775807 < X.size + 1 + Y.size := by omega
  clear h s1 s2
  go_enter Tryz.func74, Tryz.ntmps74
  go_wp2_with fail
  have hS0 : w.drew.cell? ⟨b, 0, none⟩ = some (.int .i64 4) ∧ w.drew.cell? ⟨b, 1, none⟩ = some (.string ip) ∧ w.drew.cell? ⟨b, 2, none⟩ = some (.int .i64 (p : Int)) ∧ Tab w.drew ∧ Below w.heap.size w w.drew := ⟨k0, k1, k2, ht.below (Below.refl _ _).drew, (Below.refl _ _).drew⟩
  go_region_held3 (fun w' => w'.cell? ⟨b, 0, none⟩ = some (.int .i64 4) ∧ w'.cell? ⟨b, 1, none⟩ = some (.string ip) ∧ w'.cell? ⟨b, 2, none⟩ = some (.int .i64 (p : Int)) ∧ Tab w' ∧ Below w.heap.size w w')
    (first
      | exact hS0
      | assumption
      | (go_split_ands; exact ⟨kcell hbx (by assumption), kcell hbx (by assumption), kcell hbx (by assumption), Tab.below (by assumption) hbx, blw (by assumption) hbx⟩))
    (first
      | (go_at_call 44; refine (HA.out _).mono ?_; rintro e w2 ⟨rfl, hbx⟩)
      | (go_at_call 180; refine (HT.out _ (by go_split_ands; assumption)).mono ?_; rintro e w2 ⟨rfl, hbx⟩)
      | (go_at_call 75; refine (HI.out _ (by go_split_ands; assumption)).mono ?_; rintro e w2 ⟨rfl, hbx⟩))
  all_goals
    go_split_ands
    go_wp2
    go_ret
    exact ⟨by rw [HX.out]; rfl, by assumption⟩

theorem enterText (args : Array Value) (w : World) : (callFunc 74 args).run Tryz.prog w = .ok (.enter 74 args) w := by kernel_rfl
set_option maxRecDepth 100000 in
set_option maxHeartbeats 800000 in
theorem Text_4 (ip : ByteArray) (p : Nat) (w : World) (h : okA 4 ip (p : Int)) (ht : Tab w) :
    Calls Tryz.prog 32 #[.agg #[.int .i64 4, .string ip, .int .i64 (p : Int)]] w fun e w' => e = .returned (.tuple #[.string (txa ip p), .int .i64 0]) ∧ Below w.heap.size w w' := by
  have hmf : ∀ (fn : Fn) (first cap : Array Value) (w : World), (Instr.makeFunc fn first cap).run Tryz.prog w = .ok (.func fn first cap) w := fun _ _ _ _ => rfl
  have H : Hid (Calls Tryz.prog 42 #[.func (Fn.func 74) #[] #[.pointer (some ⟨w.heap.size, 0, none⟩)]] (bxa w 4 ip p) fun e w' => e = .returned (.tuple #[.string (txa ip p), .int .i64 0]) ∧ (bxa w 4 ip p).grownBy w' none) := by
    refine Lib.hid ?_
    obtain ⟨k0, k1, k2⟩ := bxa_k w 4 ip p
    have ht2 : Tab (Aa.aw (bxa w 4 ip p)) := (ht.below (show Below w.heap.size w (bxa w 4 ip p) from (Below.refl _ _).alloc (Nat.le_refl _) _)).below (below_gb (Aa.aw_gb _))
    exact (Aa.att_ok 74 _ _ (bxa w 4 ip p) none (fun _ => True) (sta_true _) (fun _ h => by cases h) enterText ((TextF ip p _ _ h ht2 k0 k1 k2).mono fun e w' hh => ⟨hh.1, trivial, gb_below hh.2 _⟩)).mono fun e w' hh => ⟨hh.1, hh.2.2⟩
  generalize txa ip p = x at H ⊢
  have HW := Lib.hid (show Below w.heap.size w (bxa w 4 ip p) from (Below.refl _ _).alloc (Nat.le_refl _) _)
  unfold bxa at H HW
  go_enter Tryz.func32, Tryz.ntmps32
  go_wp2_with fail
  refine H.out.mono ?_
  rintro e w1 ⟨rfl, hg⟩
  have HG := Lib.hid (blw HW.out (below_gb hg))
  clear hg
  go_wp2
  go_ret2
  exact ⟨rfl, HG.out⟩
end Go.Proofs.YtpmmilnoeoapoaaGreatDoor.Bh
