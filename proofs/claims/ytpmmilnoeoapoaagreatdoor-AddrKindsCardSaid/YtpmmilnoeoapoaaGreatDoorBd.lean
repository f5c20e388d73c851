/-
  Addresses: the kinds: plain words; the families' methods.
-/
import Derived.Test.YtpmmilnoeoapoaaGreatDoorAe
import Derived.Test.YtpmmilnoeoapoaaGreatDoorNa
import Derived.Shelf.Strings.Trim
import Derived.Shelf.Strings.Repeat
import Derived.Shelf.Lay
import Derived.Ground.NamesProg
set_option linter.unusedVariables false
namespace Go.Proofs
open Go.Shelf
shelf_lay Lays.n160 Nm 160 at Tryz as Tryz.laysTrim
shelf_lay Lays.n105 Nm 105 at Tryz as Tryz.laysRep
theorem Tryz.repExtra : Builder.Extra Tryz.prog Tryz.laysRep_ren where
  sizeBuilder := by kernel_rfl
  liesBuilder := by kernel_rfl
  t5 := Tryz.underlying5
  a5 := Tryz.isAgg5
  z5 := Tryz.sizeOf5
  v5 := Tryz.zeroValue5
  infoByte := by kernel_rfl
  cellsByte := by kernel_rfl
  sizeByte := by kernel_rfl
  neB5 := by decide
end Go.Proofs
namespace Go.Proofs.YtpmmilnoeoapoaaGreatDoor.Bd
open Go Go.RowKit Go.Proofs.YtpmmilnoeoapoaaGreatDoor.Hz Go.Proofs.YtpmmilnoeoapoaaGreatDoor.Ac Go.Proofs.YtpmmilnoeoapoaaGreatDoor.Na

/-- all bytes are 0 -/
def az (ip : ByteArray) : Prop := ∀ j, j < ip.size → by_ ip j = 0
/-- the number 1 -/
def on (ip : ByteArray) : Prop := ip = ⟨#[0, 0, 0, 0, 0, 0, 0, 0, 0, 0, 0, 0, 0, 0, 0, 1]⟩
instance (ip : ByteArray) : Decidable (az ip) := by unfold az; infer_instance
instance (ip : ByteArray) : Decidable (on ip) := by unfold on; infer_instance
def ne4 (x y : Nat) : Prop := x = 10 ∨ (x = 192 ∧ y = 168) ∨ (x = 169 ∧ y = 254) ∨ (x = 172 ∧ 16 ≤ y ∧ y ≤ 31)
def ne6 (x y : Nat) : Prop := x = 252 ∨ x = 253 ∨ (x = 254 ∧ 128 ≤ y ∧ y ≤ 191)
instance (x y : Nat) : Decidable (ne4 x y) := by unfold ne4; infer_instance
instance (x y : Nat) : Decidable (ne6 x y) := by unfold ne6; infer_instance
def noP (f : Int) (ip : ByteArray) : Prop := (f = 4 ∧ 224 ≤ by_ ip 0) ∨ (f = 6 ∧ by_ ip 0 = 255)
def owP (f : Int) (ip : ByteArray) : Prop := (f = 4 ∧ by_ ip 0 = 127) ∨ (f = 6 ∧ on ip)
def neP (f : Int) (ip : ByteArray) : Prop := (f = 4 ∧ ne4 (by_ ip 0) (by_ ip 1)) ∨ (f = 6 ∧ ne6 (by_ ip 0) (by_ ip 1))
instance (f : Int) (ip : ByteArray) : Decidable (noP f ip) := by unfold noP; infer_instance
instance (f : Int) (ip : ByteArray) : Decidable (owP f ip) := by unfold owP; infer_instance
instance (f : Int) (ip : ByteArray) : Decidable (neP f ip) := by unfold neP; infer_instance
/-- the kind of a valid address -/
def kd (f : Int) (ip : ByteArray) : Int := if az ip ∨ noP f ip then 1 else if owP f ip then 2 else if neP f ip then 3 else 4

theorem mno4 (w : World) : (method 296 108 (.agg #[]) "covey/addr.none").run Tryz.prog w = .ok (177, .agg #[]) w := by kernel_rfl
theorem mno6 (w : World) : (method 296 109 (.agg #[]) "covey/addr.none").run Tryz.prog w = .ok (188, .agg #[]) w := by kernel_rfl
theorem mow4 (w : World) : (method 296 108 (.agg #[]) "covey/addr.own").run Tryz.prog w = .ok (178, .agg #[]) w := by kernel_rfl
theorem mow6 (w : World) : (method 296 109 (.agg #[]) "covey/addr.own").run Tryz.prog w = .ok (189, .agg #[]) w := by kernel_rfl
theorem mne4 (w : World) : (method 296 108 (.agg #[]) "covey/addr.near").run Tryz.prog w = .ok (176, .agg #[]) w := by kernel_rfl
theorem mne6 (w : World) : (method 296 109 (.agg #[]) "covey/addr.near").run Tryz.prog w = .ok (187, .agg #[]) w := by kernel_rfl

theorem none4 (ip : ByteArray) (w : World) (h : ip.size = 4) : Calls Tryz.prog 177 #[.agg #[], .string ip] w fun e w' => e = .returned (.bool (decide (noP 4 ip))) ∧ Below w.heap.size w w' := by
  have h0 : 0 < ip.size := by omega
  have hb := by_at ip 0 h0
  have e1 : decide (noP 4 ip) = decide ((224 : Int) ≤ (by_ ip 0 : Int)) := decide_eq_decide.2 (by unfold noP; omega)
  rw [e1]
  generalize by_ ip 0 = x at hb
  go_enter Tryz.func177, Tryz.ntmps177
  go_wp2
  go_ret
  exact ⟨rfl, (Below.refl _ _).alloc (Nat.le_refl _) _⟩
theorem none6 (ip : ByteArray) (w : World) (h : ip.size = 16) : Calls Tryz.prog 188 #[.agg #[], .string ip] w fun e w' => e = .returned (.bool (decide (noP 6 ip))) ∧ Below w.heap.size w w' := by
  have h0 : 0 < ip.size := by omega
  have hb := by_at ip 0 h0
  have e1 : decide (noP 6 ip) = ((by_ ip 0 : Int) == 255) := by unfold noP; rw [Bool.eq_iff_iff]; simp; omega
  rw [e1]
  generalize by_ ip 0 = x at hb
  go_enter Tryz.func188, Tryz.ntmps188
  go_wp2
  go_ret
  exact ⟨rfl, (Below.refl _ _).alloc (Nat.le_refl _) _⟩
theorem own4 (ip : ByteArray) (w : World) (h : ip.size = 4) : Calls Tryz.prog 178 #[.agg #[], .string ip] w fun e w' => e = .returned (.bool (decide (owP 4 ip))) ∧ Below w.heap.size w w' := by
  have h0 : 0 < ip.size := by omega
  have hb := by_at ip 0 h0
  have e1 : decide (owP 4 ip) = ((by_ ip 0 : Int) == 127) := by unfold owP; rw [Bool.eq_iff_iff]; simp; omega
  rw [e1]
  generalize by_ ip 0 = x at hb
  go_enter Tryz.func178, Tryz.ntmps178
  go_wp2
  go_ret
  exact ⟨rfl, (Below.refl _ _).alloc (Nat.le_refl _) _⟩
theorem tl_beq (a b : ByteArray) : (a.toList == b.toList) = decide (a = b) := by
  rw [Bool.eq_iff_iff]
  simp only [beq_iff_eq, decide_eq_true_eq, ByteArray.toList_eq, Array.toList_inj]
  exact ⟨fun h => ByteArray.ext h, fun h => by rw [h]⟩
theorem repz : (⟨(Lib.repeatL (⟨#[0]⟩ : ByteArray).data.toList 15).toArray⟩ : ByteArray).size = 15 := by decide
theorem repb : (⟨(Lib.repeatL (⟨#[0]⟩ : ByteArray).data.toList 15).toArray⟩ : ByteArray) ++ ⟨#[1]⟩ = ⟨#[0, 0, 0, 0, 0, 0, 0, 0, 0, 0, 0, 0, 0, 0, 0, 1]⟩ := by decide
theorem Rep_any (w : World) : Calls Tryz.prog 192 #[.string ⟨#[0]⟩, .int .i64 15] w fun e w' => e = .returned (.string ⟨(Lib.repeatL (⟨#[0]⟩ : ByteArray).data.toList 15).toArray⟩) ∧ Below w.heap.size w w' :=
  Any.strings_Repeat Tryz.laysRep Tryz.repExtra ⟨#[0]⟩ 15 w (by omega) (by decide)
set_option maxRecDepth 100000 in
set_option maxHeartbeats 1000000 in
theorem own6 (ip : ByteArray) (w : World) (_h : ip.size = 16) : Calls Tryz.prog 189 #[.agg #[], .string ip] w fun e w' => e = .returned (.bool (decide (owP 6 ip))) ∧ Below w.heap.size w w' := by
  have HR := Lib.hid Rep_any
  have HE := Lib.hid repb
  have hz := repz
  generalize (⟨(Lib.repeatL (⟨#[0]⟩ : ByteArray).data.toList 15).toArray⟩ : ByteArray) = R at HR HE hz
  have e1 : decide (owP 6 ip) = decide (ip = R ++ ⟨#[1]⟩) := decide_eq_decide.2 (by rw [HE.out]; simp [owP, on])
  rw [e1]
  clear HE e1
  go_enter Tryz.func189, Tryz.ntmps189
  go_wp2_with fail
  refine (HR.out _).mono ?_
  rintro e w1 ⟨rfl, hb⟩
  go_wp2
  go_ret
  exact ⟨congrArg Ending.returned (congrArg Value.bool (tl_beq _ _)), below_alloc _ hb⟩
set_option maxRecDepth 100000 in
set_option maxHeartbeats 1000000 in
theorem near4 (ip : ByteArray) (w : World) (h : ip.size = 4) : Calls Tryz.prog 176 #[.agg #[], .string ip] w fun e w' => e = .returned (.bool (decide (neP 4 ip))) ∧ Below w.heap.size w w' := by
  have h0 : 0 < ip.size := by omega
  have h1 : 1 < ip.size := by omega
  have hb := by_at ip 0 h0
  have hc := by_at ip 1 h1
  have e1 : decide (neP 4 ip) = decide (ne4 (by_ ip 0) (by_ ip 1)) := decide_eq_decide.2 (by simp [neP])
  rw [e1]
  generalize by_ ip 0 = x at hb
  generalize by_ ip 1 = y at hc
  have HW := Lib.hid (show Below w.heap.size w (w.alloc (.cells #[] 108)) from (Below.refl _ _).alloc (Nat.le_refl _) _)
  go_enter Tryz.func176, Tryz.ntmps176
  go_wp2
  all_goals
    go_ret
    refine ⟨?_, HW.out⟩
    refine congrArg Ending.returned (congrArg Value.bool ?_)
    clear HW hb hc
    have e2 : (decide (ne4 x y) = true) ↔ ne4 x y := decide_eq_true_iff
    rw [Bool.eq_iff_iff, e2]
    clear e2 e1 h h0 h1
    unfold ne4
    simp at * <;> omega
set_option maxRecDepth 100000 in
set_option maxHeartbeats 1000000 in
theorem near6 (ip : ByteArray) (w : World) (h : ip.size = 16) : Calls Tryz.prog 187 #[.agg #[], .string ip] w fun e w' => e = .returned (.bool (decide (neP 6 ip))) ∧ Below w.heap.size w w' := by
  have h0 : 0 < ip.size := by omega
  have h1 : 1 < ip.size := by omega
  have hb := by_at ip 0 h0
  have hc := by_at ip 1 h1
  have e1 : decide (neP 6 ip) = decide (ne6 (by_ ip 0) (by_ ip 1)) := decide_eq_decide.2 (by simp [neP])
  rw [e1]
  generalize by_ ip 0 = x at hb
  generalize by_ ip 1 = y at hc
  have HW := Lib.hid (show Below w.heap.size w (w.alloc (.cells #[] 109)) from (Below.refl _ _).alloc (Nat.le_refl _) _)
  go_enter Tryz.func187, Tryz.ntmps187
  go_wp2
  all_goals
    go_ret
    refine ⟨?_, HW.out⟩
    refine congrArg Ending.returned (congrArg Value.bool ?_)
    clear HW hb hc
    have e2 : (decide (ne6 x y) = true) ↔ ne6 x y := decide_eq_true_iff
    rw [Bool.eq_iff_iff, e2]
    clear e2 e1 h h0 h1
    unfold ne6
    simp at * <;> omega
end Go.Proofs.YtpmmilnoeoapoaaGreatDoor.Bd
