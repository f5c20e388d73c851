/-
  Addresses: Mask of the program.
-/
import Derived.Test.YtpmmilnoeoapoaaGreatDoorCa
import Derived.Test.YtpmmilnoeoapoaaGreatDoorAg
import Derived.Deep.RegionHeld3
import Derived.RegionDies
set_option linter.unusedVariables false
namespace Go.Proofs.YtpmmilnoeoapoaaGreatDoor.Ca
open Go Go.RowKit Go.Proofs.YtpmmilnoeoapoaaGreatDoor.Hz Go.Proofs.YtpmmilnoeoapoaaGreatDoor.Ac Go.Proofs.YtpmmilnoeoapoaaGreatDoor.Na Go.Proofs.YtpmmilnoeoapoaaGreatDoor.Nb Go.Proofs.YtpmmilnoeoapoaaGreatDoor.Sx

def m4 : ByteArray := ⟨#[3, 15, 63, 255]⟩
def m6 : ByteArray := ⟨#[1, 3, 7, 15, 31, 63, 127, 255]⟩
/-- the masked IP -/
def mk (f : Int) (ip : ByteArray) : ByteArray := if f = 4 then ms ip m4 else ms ip m6
theorem mm4 (w : World) : (method 296 108 (.agg #[]) "covey/addr.mask").run Tryz.prog w = .ok (175, .agg #[]) w := by kernel_rfl
theorem mm6 (w : World) : (method 296 109 (.agg #[]) "covey/addr.mask").run Tryz.prog w = .ok (186, .agg #[]) w := by kernel_rfl
theorem mask4 (ip : ByteArray) (w : World) (h : ip.size = 4) : Calls Tryz.prog 175 #[.agg #[], .string ip] w fun e w' => e = .returned (.string (mk 4 ip)) ∧ Below w.heap.size w w' := by
  have HB := Lib.hid (fun w => both_any ip m4 w (by decide) (by rw [h]; decide) (by omega))
  rw [show mk 4 ip = ms ip m4 from if_pos rfl]
  generalize ms ip m4 = X at HB ⊢
  unfold m4 at HB
  go_enter Tryz.func175, Tryz.ntmps175
  go_wp2_with fail
  refine (HB.out _).mono ?_
  rintro e w1 ⟨rfl, hb⟩
  go_wp2
  go_ret
  exact ⟨rfl, below_alloc _ hb⟩
theorem mask6 (ip : ByteArray) (w : World) (h : ip.size = 16) : Calls Tryz.prog 186 #[.agg #[], .string ip] w fun e w' => e = .returned (.string (mk 6 ip)) ∧ Below w.heap.size w w' := by
  have HB := Lib.hid (fun w => both_any ip m6 w (by decide) (by rw [h]; decide) (by omega))
  rw [show mk 6 ip = ms ip m6 from if_neg (by decide)]
  generalize ms ip m6 = X at HB ⊢
  unfold m6 at HB
  go_enter Tryz.func186, Tryz.ntmps186
  go_wp2_with fail
  refine (HB.out _).mono ?_
  rintro e w1 ⟨rfl, hb⟩
  go_wp2
  go_ret
  exact ⟨rfl, below_alloc _ hb⟩

set_option maxRecDepth 100000 in
set_option maxHeartbeats 4000000 in
theorem MaskF_4 (ip : ByteArray) (p : Int) (b : Nat) (w : World) (h : okA 4 ip p) (k0 : w.cell? ⟨b, 0, none⟩ = some (.int .i64 4)) (k1 : w.cell? ⟨b, 1, none⟩ = some (.string ip)) (k2 : w.cell? ⟨b, 2, none⟩ = some (.int .i64 p)) :
    Calls Tryz.prog 63 #[.pointer (some ⟨b, 0, none⟩)] w fun e w' => e = .returned (.string (mk 4 ip)) ∧ Below w.heap.size w w' := by
  have hz : ip.size = 4 := by obtain ⟨h, _⟩ := h; omega
  have HA := Lib.hid (fun w => ask_ok 4 ip p w h)
  rw [show fam 4 = .iface 108 (.agg #[]) from if_pos rfl] at HA
  have HT := Lib.hid (fun w => mask4 ip w hz)
  have hm := mm4
  generalize mk 4 ip = X at HT ⊢
  clear h
  go_enter Tryz.func63, Tryz.ntmps63
  go_wp2_with fail
  have hS0 : w.drew.cell? ⟨b, 0, none⟩ = some (.int .i64 4) ∧ w.drew.cell? ⟨b, 1, none⟩ = some (.string ip) ∧ w.drew.cell? ⟨b, 2, none⟩ = some (.int .i64 p) ∧ Below w.heap.size w w.drew := ⟨k0, k1, k2, (Below.refl _ _).drew⟩
  go_region_held3 (fun w' => w'.cell? ⟨b, 0, none⟩ = some (.int .i64 4) ∧ w'.cell? ⟨b, 1, none⟩ = some (.string ip) ∧ w'.cell? ⟨b, 2, none⟩ = some (.int .i64 p) ∧ Below w.heap.size w w')
    (first
      | exact hS0
      | assumption
      | (go_split_ands; exact ⟨kcell hbx (by assumption), kcell hbx (by assumption), kcell hbx (by assumption), blw (by assumption) hbx⟩))
    (first
      | (go_at_call 44; refine (HA.out _).mono ?_; rintro e w2 ⟨rfl, hbx⟩)
      | (go_at_call 175; refine (HT.out _).mono ?_; rintro e w2 ⟨rfl, hbx⟩))
  all_goals
    go_split_ands
    go_wp2
    go_ret
    exact ⟨rfl, by assumption⟩
set_option maxRecDepth 100000 in
set_option maxHeartbeats 4000000 in
theorem MaskF_6 (ip : ByteArray) (p : Int) (b : Nat) (w : World) (h : okA 6 ip p) (k0 : w.cell? ⟨b, 0, none⟩ = some (.int .i64 6)) (k1 : w.cell? ⟨b, 1, none⟩ = some (.string ip)) (k2 : w.cell? ⟨b, 2, none⟩ = some (.int .i64 p)) :
    Calls Tryz.prog 63 #[.pointer (some ⟨b, 0, none⟩)] w fun e w' => e = .returned (.string (mk 6 ip)) ∧ Below w.heap.size w w' := by
  have hz : ip.size = 16 := by obtain ⟨h, _⟩ := h; omega
  have HA := Lib.hid (fun w => ask_ok 6 ip p w h)
  rw [show fam 6 = .iface 109 (.agg #[]) from if_neg (by decide)] at HA
  have HT := Lib.hid (fun w => mask6 ip w hz)
  have hm := mm6
  generalize mk 6 ip = X at HT ⊢
  clear h
  go_enter Tryz.func63, Tryz.ntmps63
  go_wp2_with fail
  have hS0 : w.drew.cell? ⟨b, 0, none⟩ = some (.int .i64 6) ∧ w.drew.cell? ⟨b, 1, none⟩ = some (.string ip) ∧ w.drew.cell? ⟨b, 2, none⟩ = some (.int .i64 p) ∧ Below w.heap.size w w.drew := ⟨k0, k1, k2, (Below.refl _ _).drew⟩
  go_region_held3 (fun w' => w'.cell? ⟨b, 0, none⟩ = some (.int .i64 6) ∧ w'.cell? ⟨b, 1, none⟩ = some (.string ip) ∧ w'.cell? ⟨b, 2, none⟩ = some (.int .i64 p) ∧ Below w.heap.size w w')
    (first
      | exact hS0
      | assumption
      | (go_split_ands; exact ⟨kcell hbx (by assumption), kcell hbx (by assumption), kcell hbx (by assumption), blw (by assumption) hbx⟩))
    (first
      | (go_at_call 44; refine (HA.out _).mono ?_; rintro e w2 ⟨rfl, hbx⟩)
      | (go_at_call 186; refine (HT.out _).mono ?_; rintro e w2 ⟨rfl, hbx⟩))
  all_goals
    go_split_ands
    go_wp2
    go_ret
    exact ⟨rfl, by assumption⟩
set_option maxRecDepth 100000 in
set_option maxHeartbeats 4000000 in
theorem MaskF_no (f : Int) (ip : ByteArray) (p : Int) (b : Nat) (w : World) (h : ¬ okA f ip p) (k0 : w.cell? ⟨b, 0, none⟩ = some (.int .i64 f)) (k1 : w.cell? ⟨b, 1, none⟩ = some (.string ip)) (k2 : w.cell? ⟨b, 2, none⟩ = some (.int .i64 p)) :
    Calls Tryz.prog 63 #[.pointer (some ⟨b, 0, none⟩)] w fun e w' => e = .panicked [{ v := .iface 27 (.int .i64 1), recovered := false }] ∧ Below w.heap.size w w' := by
  have HA := Lib.hid (fun w => ask_no f ip p w h)
  clear h
  go_enter Tryz.func63, Tryz.ntmps63
  go_wp2_with fail
  go_region_dies
  all_goals
    refine (HA.out _).mono ?_
    rintro e w2 ⟨rfl, hbx⟩
    first
      | exact ⟨rfl, rfl, hbx⟩
      | exact ⟨rfl, rfl, blw (Below.refl _ _).drew hbx⟩
end Go.Proofs.YtpmmilnoeoapoaaGreatDoor.Ca
