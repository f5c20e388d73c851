/-
  Addresses: kind; Kind.
-/
import Derived.Test.YtpmmilnoeoapoaaGreatDoorBe
import Derived.Test.YtpmmilnoeoapoaaGreatDoorAg
set_option linter.unusedVariables false
namespace Go.Proofs.YtpmmilnoeoapoaaGreatDoor.Bd
open Go Go.RowKit Go.Proofs.YtpmmilnoeoapoaaGreatDoor.Hz Go.Proofs.YtpmmilnoeoapoaaGreatDoor.Ac Go.Proofs.YtpmmilnoeoapoaaGreatDoor.Na Go.Proofs.YtpmmilnoeoapoaaGreatDoor.Sx

theorem below_alloc' {w a b : World} {o : Obj} (h : Below w.heap.size w a) (k : Below (a.alloc o).heap.size (a.alloc o) b) : Below w.heap.size w b := blw (blw_alloc h) k
/-- the kind by three answers -/
def kb (a b c : Bool) : Int := if a then 1 else if b then 2 else if c then 3 else 4
theorem kd_kb (f : Int) (ip : ByteArray) : kd f ip = kb (decide (az ip ∨ noP f ip)) (decide (owP f ip)) (decide (neP f ip)) := by
  unfold kd kb
  simp only [decide_eq_true_eq]

theorem ix0 (w : World) : (Instr.index 100 ktab (.int .i64 0)).run Tryz.prog w = .ok (.agg #[.int .i64 1, .func (Fn.func 109) #[] #[]]) w := by kernel_rfl
theorem ix1 (w : World) : (Instr.index 100 ktab (.int .i64 1)).run Tryz.prog w = .ok (.agg #[.int .i64 2, .func (Fn.func 111) #[] #[]]) w := by kernel_rfl
theorem ix2 (w : World) : (Instr.index 100 ktab (.int .i64 2)).run Tryz.prog w = .ok (.agg #[.int .i64 3, .func (Fn.func 112) #[] #[]]) w := by kernel_rfl
theorem ix3 (w : World) : (Instr.index 100 ktab (.int .i64 3)).run Tryz.prog w = .ok (.agg #[.int .i64 4, .func (Fn.func 113) #[] #[]]) w := by kernel_rfl
def iOf : Value → Int | .int _ n => n | _ => 0

set_option maxRecDepth 100000 in
set_option maxHeartbeats 4000000 in
theorem kind_ok (f : Int) (ip : ByteArray) (p : Int) (w : World) (h : okA f ip p) : Calls Tryz.prog 61 #[.agg #[.int .i64 f, .string ip, .int .i64 p]] w fun e w' => e = .returned (.int .i64 (kd f ip)) ∧ Below w.heap.size w w' := by
  have hI : okI f ip := h.1
  have HA := Lib.hid (fun w => ask_ok f ip p w h)
  have HT := Lib.hid kinds_any
  have H1 := Lib.hid (fun w => ks1 f ip hI w)
  have H2 := Lib.hid (fun w => ks2 f ip hI w)
  have H3 := Lib.hid (fun w => ks3 f ip hI w)
  have H4 := Lib.hid (fun w => ks4 (fam f) ip w)
  rw [kd_kb f ip]
  have hsf : ∀ (K : FuncId) (a : Addr) (w : World), (store a (.func (Fn.func K) #[] #[]) .plain).run Tryz.prog w = stored Tryz.prog w a (.func (Fn.func K) #[] #[]) .plain := fun K a w => run_store Tryz.prog w a _ .plain rfl
  have x0 := ix0
  have x1 := ix1
  have x2 := ix2
  have x3 := ix3
  generalize ktab = KT at HT x0 x1 x2 x3
  generalize fam f = F at HA H1 H2 H3 H4
  generalize decide (az ip ∨ noP f ip) = b1 at H1 ⊢
  generalize decide (owP f ip) = b2 at H2 ⊢
  generalize decide (neP f ip) = b3 at H3 ⊢
  clear h hI
  obtain ⟨w1, hw1⟩ : ∃ w1, w.alloc (.cells #[.int .i64 f, .string ip, .int .i64 p] 26) = w1 := ⟨_, rfl⟩
  have hB1 : Below w.heap.size w w1 := by rw [← hw1]; exact (Below.refl _ _).alloc (Nat.le_refl _) _
  have k1 : w1.cell? ⟨w.heap.size, 1, none⟩ = some (.string ip) := by rw [← hw1]; simp [go_sem]
  have HW1 := Lib.hid hw1
  clear hw1
  go_enter Tryz.func61, Tryz.ntmps61
  go_wp2_with fail
  rw [HW1.out]
  refine (HA.out _).mono ?_
  rintro e w2 ⟨rfl, hb⟩
  have q1 := kcell hb k1
  have HB2 := Lib.hid (blw hB1 hb)
  clear hb k1
  go_wp2_with fail
  refine (HT.out _).mono ?_
  rintro e w3 ⟨rfl, hb⟩
  have q3 := kcell hb q1
  have HB3 := Lib.hid (blw HB2.out hb)
  clear hb q1
  go_wp2_with fail
  go_loopw [9] (fun i wr => ∃ (k : Nat), i = .int .i64 (k : Int) ∧ k < 4 ∧ (0 < k → b1 = false) ∧ (1 < k → b2 = false) ∧ (2 < k → b3 = false) ∧ wr.cell? ⟨w.heap.size, 1, none⟩ = some (.string ip) ∧ Hid (Below w.heap.size w wr)) (fun i _ => 4 - (iOf i).toNat)
  case atStart => exact ⟨0, rfl, by omega, by omega, by omega, by omega, q3, HB3⟩
  case round =>
    obtain ⟨k, rfl, hk, t1, t2, t3, c0, HB⟩ := hrel
    obtain rfl | rfl | rfl | rfl : k = 0 ∨ k = 1 ∨ k = 2 ∨ k = 3 := by omega
    · clear t1 t2 t3
      have ca := acell (.cells #[.int .i64 1, .func (Fn.func 109) #[] #[]] 99) c0
      go_wp2_with fail
      refine (H1.out _).mono ?_
      rintro e w5 ⟨rfl, hb5⟩
      have c5 : w5.cell? ⟨w.heap.size, 1, none⟩ = some (.string ip) := kcell hb5 (acell _ c0)
      have HB5 := Lib.hid (below_alloc' HB.out hb5)
      have q5 : w5.cell? ⟨wr.heap.size, 0, none⟩ = some (.int .i64 1) := kcell hb5 (by simp [go_sem])
      clear hb5
      cases h0 : b1
      · go_wp2_with fail
        exact ⟨⟨1, by go_num, by omega, fun _ => h0, fun h => absurd h (by omega), fun h => absurd h (by omega), c5, HB5⟩, by simp [iOf]⟩
      · go_wp2_with fail
        go_ret
        exact ⟨by simp [kb, h0], HB5.out⟩
    · have t1 := t1 (by omega)
      clear t2 t3
      have ca := acell (.cells #[.int .i64 2, .func (Fn.func 111) #[] #[]] 99) c0
      go_wp2_with fail
      refine (H2.out _).mono ?_
      rintro e w5 ⟨rfl, hb5⟩
      have c5 : w5.cell? ⟨w.heap.size, 1, none⟩ = some (.string ip) := kcell hb5 (acell _ c0)
      have HB5 := Lib.hid (below_alloc' HB.out hb5)
      have q5 : w5.cell? ⟨wr.heap.size, 0, none⟩ = some (.int .i64 2) := kcell hb5 (by simp [go_sem])
      clear hb5
      cases h1 : b2
      · go_wp2_with fail
        exact ⟨⟨2, by go_num, by omega, fun _ => t1, fun _ => h1, fun h => absurd h (by omega), c5, HB5⟩, by simp [iOf]⟩
      · go_wp2_with fail
        go_ret
        exact ⟨by simp [kb, t1, h1], HB5.out⟩
    · have t1 := t1 (by omega)
      have t2 := t2 (by omega)
      clear t3
      have ca := acell (.cells #[.int .i64 3, .func (Fn.func 112) #[] #[]] 99) c0
      go_wp2_with fail
      refine (H3.out _).mono ?_
      rintro e w5 ⟨rfl, hb5⟩
      have c5 : w5.cell? ⟨w.heap.size, 1, none⟩ = some (.string ip) := kcell hb5 (acell _ c0)
      have HB5 := Lib.hid (below_alloc' HB.out hb5)
      have q5 : w5.cell? ⟨wr.heap.size, 0, none⟩ = some (.int .i64 3) := kcell hb5 (by simp [go_sem])
      clear hb5
      cases h2 : b3
      · go_wp2_with fail
        exact ⟨⟨3, by go_num, by omega, fun _ => t1, fun _ => t2, fun _ => h2, c5, HB5⟩, by simp [iOf]⟩
      · go_wp2_with fail
        go_ret
        exact ⟨by simp [kb, t1, t2, h2], HB5.out⟩
    · have t1 := t1 (by omega)
      have t2 := t2 (by omega)
      have t3 := t3 (by omega)
      have ca := acell (.cells #[.int .i64 4, .func (Fn.func 113) #[] #[]] 99) c0
      go_wp2_with fail
      refine (H4.out _).mono ?_
      rintro e w5 ⟨rfl, hb5⟩
      have c5 : w5.cell? ⟨w.heap.size, 1, none⟩ = some (.string ip) := kcell hb5 (acell _ c0)
      have HB5 := Lib.hid (below_alloc' HB.out hb5)
      have q5 : w5.cell? ⟨wr.heap.size, 0, none⟩ = some (.int .i64 4) := kcell hb5 (by simp [go_sem])
      clear hb5
      go_wp2_with fail
      go_ret
      exact ⟨by simp [kb, t1, t2, t3], HB5.out⟩

theorem kind_no (f : Int) (ip : ByteArray) (p : Int) (w : World) (h : ¬ okA f ip p) : Calls Tryz.prog 61 #[.agg #[.int .i64 f, .string ip, .int .i64 p]] w fun e w' => e = .panicked [{ v := .iface 27 (.int .i64 1), recovered := false }] ∧ Below w.heap.size w w' := by
  have HA := Lib.hid (fun w => ask_no f ip p w h)
  clear h
  obtain ⟨w1, hw1⟩ : ∃ w1, w.alloc (.cells #[.int .i64 f, .string ip, .int .i64 p] 26) = w1 := ⟨_, rfl⟩
  have hB1 : Below w.heap.size w w1 := by rw [← hw1]; exact (Below.refl _ _).alloc (Nat.le_refl _) _
  have HW1 := Lib.hid hw1
  clear hw1
  go_enter Tryz.func61, Tryz.ntmps61
  go_wp2_with fail
  rw [HW1.out]
  refine (HA.out _).mono ?_
  rintro e w2 ⟨rfl, hb⟩
  exact ⟨rfl, rfl, blw hB1 hb⟩

theorem KindF_ok (f : Int) (ip : ByteArray) (p : Int) (b : Nat) (w : World) (h : okA f ip p) (k0 : w.cell? ⟨b, 0, none⟩ = some (.int .i64 f)) (k1 : w.cell? ⟨b, 1, none⟩ = some (.string ip)) (k2 : w.cell? ⟨b, 2, none⟩ = some (.int .i64 p)) : Calls Tryz.prog 60 #[.pointer (some ⟨b, 0, none⟩)] w fun e w' => e = .returned (.int .i64 (kd f ip)) ∧ Below w.heap.size w w' := by
  have HK := Lib.hid (fun w => kind_ok f ip p w h)
  generalize kd f ip = K at HK ⊢
  go_enter Tryz.func60, Tryz.ntmps60
  go_wp2_with fail
  refine (HK.out _).mono ?_
  rintro e w2 ⟨rfl, hb⟩
  go_wp2
  go_ret
  exact ⟨rfl, hb⟩
theorem KindF_no (f : Int) (ip : ByteArray) (p : Int) (b : Nat) (w : World) (h : ¬ okA f ip p) (k0 : w.cell? ⟨b, 0, none⟩ = some (.int .i64 f)) (k1 : w.cell? ⟨b, 1, none⟩ = some (.string ip)) (k2 : w.cell? ⟨b, 2, none⟩ = some (.int .i64 p)) : Calls Tryz.prog 60 #[.pointer (some ⟨b, 0, none⟩)] w fun e w' => e = .panicked [{ v := .iface 27 (.int .i64 1), recovered := false }] ∧ Below w.heap.size w w' := by
  have HK := Lib.hid (fun w => kind_no f ip p w h)
  go_enter Tryz.func60, Tryz.ntmps60
  go_wp2_with fail
  refine (HK.out _).mono ?_
  rintro e w2 ⟨rfl, hb⟩
  exact ⟨rfl, rfl, hb⟩

theorem enterKind (args : Array Value) (w : World) : (callFunc 60 args).run Tryz.prog w = .ok (.enter 60 args) w := by kernel_rfl
theorem bxi_k (w : World) (f : Int) (ip : ByteArray) (p : Int) : (Bb.aw (bxa w f ip p)).cell? ⟨w.heap.size, 0, none⟩ = some (.int .i64 f) ∧ (Bb.aw (bxa w f ip p)).cell? ⟨w.heap.size, 1, none⟩ = some (.string ip) ∧ (Bb.aw (bxa w f ip p)).cell? ⟨w.heap.size, 2, none⟩ = some (.int .i64 p) :=
  ⟨kcell (below_gb (Bb.aw_gb _)) (by unfold bxa; simp [go_sem]), kcell (below_gb (Bb.aw_gb _)) (by unfold bxa; simp [go_sem]), kcell (below_gb (Bb.aw_gb _)) (by unfold bxa; simp [go_sem])⟩
/-- what Kind answers -/
def kdV (f : Int) (ip : ByteArray) (p : Int) : Int := if okA f ip p then kd f ip else 0
def kdE (f : Int) (ip : ByteArray) (p : Int) : Int := if okA f ip p then 0 else 1
set_option maxRecDepth 100000 in
set_option maxHeartbeats 800000 in
theorem Kind_any (f : Int) (ip : ByteArray) (p : Int) (w : World) :
    Calls Tryz.prog 22 #[.agg #[.int .i64 f, .string ip, .int .i64 p]] w fun e w' => e = .returned (.tuple #[.int .i64 (kdV f ip p), .int .i64 (kdE f ip p)]) ∧ Below w.heap.size w w' := by
  have hmf : ∀ (fn : Fn) (first cap : Array Value) (w : World), (Instr.makeFunc fn first cap).run Tryz.prog w = .ok (.func fn first cap) w := fun _ _ _ _ => rfl
  have H : Hid (Calls Tryz.prog 58 #[.func (Fn.func 60) #[] #[.pointer (some ⟨w.heap.size, 0, none⟩)]] (bxa w f ip p) fun e w' => e = .returned (.tuple #[.int .i64 (kdV f ip p), .int .i64 (kdE f ip p)]) ∧ (bxa w f ip p).grownBy w' none) := by
    refine Lib.hid ?_
    obtain ⟨k0, k1, k2⟩ := bxi_k w f ip p
    by_cases h : okA f ip p
    · rw [show kdV f ip p = kd f ip from if_pos h, show kdE f ip p = 0 from if_pos h]
      refine (Bb.att_ok 60 _ _ (bxa w f ip p) none (fun _ => True) (sta_true _) (fun _ h => by cases h) enterKind ((KindF_ok f ip p _ _ h k0 k1 k2).mono fun e w' hh => ⟨hh.1, trivial, gb_below hh.2 _⟩)).mono fun e w' hh => ⟨hh.1, hh.2.2⟩
    · rw [show kdV f ip p = 0 from if_neg h, show kdE f ip p = 1 from if_neg h]
      refine (Bb.att_no 60 _ 1 (bxa w f ip p) none (fun _ => True) (sta_true _) (fun _ h => by cases h) enterKind ((KindF_no f ip p _ _ h k0 k1 k2).mono fun e w' hh => ⟨hh.1, trivial, gb_below hh.2 _⟩)).mono fun e w' hh => ⟨hh.1, hh.2.2⟩
  generalize kdV f ip p = x at H ⊢
  generalize kdE f ip p = y at H ⊢
  have HW := Lib.hid (show Below w.heap.size w (bxa w f ip p) from (Below.refl _ _).alloc (Nat.le_refl _) _)
  unfold bxa at H HW
  go_enter Tryz.func22, Tryz.ntmps22
  go_wp2_with fail
  refine H.out.mono ?_
  rintro e w1 ⟨rfl, hg⟩
  have HG := Lib.hid (blw HW.out (below_gb hg))
  clear hg
  go_wp2
  go_ret2
  exact ⟨rfl, HG.out⟩
end Go.Proofs.YtpmmilnoeoapoaaGreatDoor.Bd
