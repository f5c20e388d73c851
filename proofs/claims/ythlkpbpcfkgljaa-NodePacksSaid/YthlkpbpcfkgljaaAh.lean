/-
  Addresses: the program's ask, pack, Pack.
-/
import Derived.Test.YthlkpbpcfkgljaaAd
import Derived.WalkKit
import Derived.Deep.RegionWith
import Derived.Laws.BytesArg
namespace Go.Proofs.Ythlkpbpcfkgljaa.Ac
open Go Go.RowKit Go.Proofs.Ythlkpbpcfkgljaa.Hz

theorem familyOf_ok (f : Int) (ip : ByteArray) (p : Int) (h : okA f ip p) (w : World) : Calls Try.prog 59 #[.int .i64 f] w fun e w' => e = .returned (.tuple #[fam f, .bool true]) ∧ w = w' := by
  obtain ⟨⟨rfl, _⟩ | ⟨rfl, _⟩, _⟩ := h
  · exact familyOf_4 w
  · exact familyOf_6 w

set_option maxHeartbeats 1000000 in
theorem ask_ok (f : Int) (ip : ByteArray) (p : Int) (w : World) (h : okA f ip p) : Calls Try.prog 43 #[.agg #[.int .i64 f, .string ip, .int .i64 p]] w fun e w' => e = .returned (fam f) ∧ Below w.heap.size w w' := by
  have HV := Lib.hid (fun w => (Valid_any f ip p w))
  have HF := Lib.hid (familyOf_ok f ip p h)
  have HD := Lib.hid (decide_eq_true h)
  generalize fam f = F at HF ⊢
  clear h
  obtain ⟨w1, hw1⟩ : ∃ w1, w.alloc (.cells #[.int .i64 f, .string ip, .int .i64 p] 34) = w1 := ⟨_, rfl⟩
  have hB1 : Below w.heap.size w w1 := by rw [← hw1]; exact (Below.refl _ _).alloc (Nat.le_refl _) _
  have k0 : w1.cell? ⟨w.heap.size, 0, none⟩ = some (.int .i64 f) := by rw [← hw1]; simp [go_sem]
  have HW1 := Lib.hid hw1
  clear hw1
  go_enter Try.func43, Try.ntmps43
  go_wp2_with fail
  refine (HV.out _).mono ?_
  rintro e w2 ⟨rfl, hb⟩
  rw [HW1.out] at hb
  rw [HD.out]
  have q0 : w2.cell? ⟨w.heap.size, 0, none⟩ = some (.int .i64 f) := kcell hb k0
  have q1 : Below w.heap.size w w2 := blw hB1 hb
  go_wp2_with fail
  refine (Aa.refuse_no _ _).mono ?_
  rintro e w3 ⟨rfl, rfl⟩
  go_wp2_with fail
  refine (HF.out _).mono ?_
  rintro e w3 ⟨rfl, rfl⟩
  go_wp2_with fail
  go_ret
  exact ⟨rfl, q1⟩

set_option maxHeartbeats 1000000 in
theorem ask_no (f : Int) (ip : ByteArray) (p : Int) (w : World) (h : ¬ okA f ip p) : Calls Try.prog 43 #[.agg #[.int .i64 f, .string ip, .int .i64 p]] w fun e w' => e = .panicked [{ v := .iface 24 (.int .i64 1), recovered := false }] ∧ Below w.heap.size w w' := by
  have HV := Lib.hid (fun w => (Valid_any f ip p w))
  have HD := Lib.hid (decide_eq_false h)
  clear h
  obtain ⟨w1, hw1⟩ : ∃ w1, w.alloc (.cells #[.int .i64 f, .string ip, .int .i64 p] 34) = w1 := ⟨_, rfl⟩
  have hB1 : Below w.heap.size w w1 := by rw [← hw1]; exact (Below.refl _ _).alloc (Nat.le_refl _) _
  have HW1 := Lib.hid hw1
  clear hw1
  go_enter Try.func43, Try.ntmps43
  go_wp2_with fail
  refine (HV.out _).mono ?_
  rintro e w2 ⟨rfl, hb⟩
  rw [HW1.out] at hb
  rw [HD.out]
  have q1 : Below w.heap.size w w2 := blw hB1 hb
  go_wp2_with fail
  refine (Aa.refuse_yes _ _).mono ?_
  rintro e w3 ⟨rfl, rfl⟩
  exact ⟨rfl, rfl, q1⟩
end Go.Proofs.Ythlkpbpcfkgljaa.Ac

/-
  Addresses: the program's pack, Pack.
-/
namespace Go.Proofs.Ythlkpbpcfkgljaa.Ac
open Go Go.RowKit Go.Proofs.Ythlkpbpcfkgljaa.Hz

theorem cnv2 (w : World) (u v : Int) : (convert 58 9 (.slice (some ⟨w.heap.size, 0, none⟩) 2 2)).run Try.prog (w.alloc (.cells #[.int .u8 u, .int .u8 v] 5)) = .ok (.string (strOfNums [u, v])) (w.alloc (.cells #[.int .u8 u, .int .u8 v] 5)) := by
  refine run_convert_bytes_arg (P := Try.prog) _ 58 5 Try.underlying58 Try.underlying5 w.heap.size 0 2 2 [u, v] rfl (fun i hi => ?_) 9 Try.underlying9
  obtain rfl | rfl : i = 0 ∨ i = 1 := by omega
  · simp [go_sem]
  · simp [go_sem]

/-- the pack of an address -/
def pk (ip : ByteArray) (p : Int) : ByteArray := ip ++ strOfNums [p / 256, p % 256]

set_option maxHeartbeats 1000000 in
theorem pack_any (f : Int) (ip : ByteArray) (p : Int) (w : World) (hz : ip.size ≤ 16) (p1 : 1 ≤ p) (p2 : p ≤ 65535) : Calls Try.prog 44 #[.agg #[.int .i64 f, .string ip, .int .i64 p]] w fun e w' => e = .returned (.string (pk ip p)) ∧ Below w.heap.size w w' := by
  have hcv := cnv2 (w.alloc (.cells #[.int .i64 f, .string ip, .int .i64 p] 34)) (p / 256) (p % 256)
  rw [World.size_alloc] at hcv
  go_enter Try.func44, Try.ntmps44
  have hs : (strOfNums [p / 256, p % 256]).size = 2 := by rw [strOfNums_size]; rfl
  go_wp2
  go_ret
  exact ⟨rfl, ((Below.refl _ _).alloc (Nat.le_refl _) _).alloc (by simp) _⟩

set_option maxHeartbeats 1000000 in
theorem PackF_ok (f : Int) (ip : ByteArray) (p : Int) (b : Nat) (w : World) (h : okA f ip p) (k0 : w.cell? ⟨b, 0, none⟩ = some (.int .i64 f)) (k1 : w.cell? ⟨b, 1, none⟩ = some (.string ip)) (k2 : w.cell? ⟨b, 2, none⟩ = some (.int .i64 p)) : Calls Try.prog 42 #[.pointer (some ⟨b, 0, none⟩)] w fun e w' => e = .returned (.string (pk ip p)) ∧ Below w.heap.size w w' := by
  have HA := Lib.hid (fun w => (ask_ok f ip p w h))
  have HP := Lib.hid (fun w => (pack_any f ip p w (by obtain ⟨h, _⟩ := h; omega) h.2.1 h.2.2))
  clear h
  go_enter Try.func42, Try.ntmps42
  go_wp2_with fail
  refine (HA.out _).mono ?_
  rintro e w2 ⟨rfl, hb⟩
  have q0 := kcell hb k0
  have q1 := kcell hb k1
  have q2 := kcell hb k2
  clear k0 k1 k2
  go_wp2_with fail
  refine (HP.out _).mono ?_
  rintro e w3 ⟨rfl, hb3⟩
  have hb4 := blw hb hb3
  go_wp2_with fail
  go_ret
  exact ⟨rfl, hb4⟩

set_option maxHeartbeats 1000000 in
theorem PackF_no (f : Int) (ip : ByteArray) (p : Int) (b : Nat) (w : World) (h : ¬ okA f ip p) (k0 : w.cell? ⟨b, 0, none⟩ = some (.int .i64 f)) (k1 : w.cell? ⟨b, 1, none⟩ = some (.string ip)) (k2 : w.cell? ⟨b, 2, none⟩ = some (.int .i64 p)) : Calls Try.prog 42 #[.pointer (some ⟨b, 0, none⟩)] w fun e w' => e = .panicked [{ v := .iface 24 (.int .i64 1), recovered := false }] ∧ Below w.heap.size w w' := by
  have HA := Lib.hid (fun w => (ask_no f ip p w h))
  clear h
  go_enter Try.func42, Try.ntmps42
  go_wp2_with fail
  refine (HA.out _).mono ?_
  rintro e w2 ⟨rfl, hb⟩
  exact ⟨rfl, rfl, hb⟩
end Go.Proofs.Ythlkpbpcfkgljaa.Ac

/-
  Addresses: the program's Pack, whole.
-/
namespace Go.Proofs.Ythlkpbpcfkgljaa.Ac
open Go Go.RowKit Go.Proofs.Ythlkpbpcfkgljaa.Hz Go.Proofs.Ythlkpbpcfkgljaa.Sx

theorem enterPack (args : Array Value) (w : World) : (callFunc 42 args).run Try.prog w = .ok (.enter 42 args) w := by kernel_rfl
/-- the world in which a boxed address lies -/
def bxa (w : World) (f : Int) (ip : ByteArray) (p : Int) : World := w.alloc (.cells #[.int .i64 f, .string ip, .int .i64 p] 34)
theorem bxa_k (w : World) (f : Int) (ip : ByteArray) (p : Int) : (Aa.aw (bxa w f ip p)).cell? ⟨w.heap.size, 0, none⟩ = some (.int .i64 f) ∧ (Aa.aw (bxa w f ip p)).cell? ⟨w.heap.size, 1, none⟩ = some (.string ip) ∧ (Aa.aw (bxa w f ip p)).cell? ⟨w.heap.size, 2, none⟩ = some (.int .i64 p) :=
  ⟨kcell (below_gb (Aa.aw_gb _)) (by unfold bxa; simp [go_sem]), kcell (below_gb (Aa.aw_gb _)) (by unfold bxa; simp [go_sem]), kcell (below_gb (Aa.aw_gb _)) (by unfold bxa; simp [go_sem])⟩
/-- what Pack answers -/
def pkS (f : Int) (ip : ByteArray) (p : Int) : ByteArray := if okA f ip p then pk ip p else ⟨#[]⟩
def pkE (f : Int) (ip : ByteArray) (p : Int) : Int := if okA f ip p then 0 else 1

set_option maxRecDepth 100000 in
set_option maxHeartbeats 800000 in
theorem Pack_any (f : Int) (ip : ByteArray) (p : Int) (w : World) :
    Calls Try.prog 22 #[.agg #[.int .i64 f, .string ip, .int .i64 p]] w fun e w' => e = .returned (.tuple #[.string (pkS f ip p), .int .i64 (pkE f ip p)]) ∧ Below w.heap.size w w' := by
  have hmf : ∀ (fn : Fn) (first cap : Array Value) (w : World), (Instr.makeFunc fn first cap).run Try.prog w = .ok (.func fn first cap) w := fun _ _ _ _ => rfl
  have H : Hid (Calls Try.prog 41 #[.func (Fn.func 42) #[] #[.pointer (some ⟨w.heap.size, 0, none⟩)]] (bxa w f ip p) fun e w' => e = .returned (.tuple #[.string (pkS f ip p), .int .i64 (pkE f ip p)]) ∧ (bxa w f ip p).grownBy w' none) := by
    refine Lib.hid ?_
    obtain ⟨k0, k1, k2⟩ := bxa_k w f ip p
    by_cases h : okA f ip p
    · rw [show pkS f ip p = pk ip p from if_pos h, show pkE f ip p = 0 from if_pos h]
      refine (Aa.att_ok 42 _ _ (bxa w f ip p) none (fun _ => True) (sta_true _) (fun _ h => by cases h) enterPack ((PackF_ok f ip p _ _ h k0 k1 k2).mono fun e w' hh => ⟨hh.1, trivial, gb_below hh.2 _⟩)).mono fun e w' hh => ⟨hh.1, hh.2.2⟩
    · rw [show pkS f ip p = ⟨#[]⟩ from if_neg h, show pkE f ip p = 1 from if_neg h]
      refine (Aa.att_no 42 _ 1 (bxa w f ip p) none (fun _ => True) (sta_true _) (fun _ h => by cases h) enterPack ((PackF_no f ip p _ _ h k0 k1 k2).mono fun e w' hh => ⟨hh.1, trivial, gb_below hh.2 _⟩)).mono fun e w' hh => ⟨hh.1, hh.2.2⟩
  generalize pkS f ip p = x at H ⊢
  generalize pkE f ip p = y at H ⊢
  have HW := Lib.hid (show Below w.heap.size w (bxa w f ip p) from (Below.refl _ _).alloc (Nat.le_refl _) _)
  unfold bxa at H HW
  go_enter Try.func22, Try.ntmps22
  go_wp2_with fail
  refine H.out.mono ?_
  rintro e w1 ⟨rfl, hg⟩
  have HG := Lib.hid (blw HW.out (below_gb hg))
  clear hg
  go_wp2
  go_ret2
  exact ⟨rfl, HG.out⟩
end Go.Proofs.Ythlkpbpcfkgljaa.Ac

/-
  Addresses: the reference's Valid, pack, Pack.
-/
namespace Go.Proofs.Ythlkpbpcfkgljaa.Ac
open Go Go.RowKit Go.Proofs.Ythlkpbpcfkgljaa.Hz Go.Proofs.Ythlkpbpcfkgljaa.Sx

set_option maxRecDepth 100000 in
set_option maxHeartbeats 3200000 in
theorem RVal_any (f : Int) (ip : ByteArray) (p : Int) (w : World) : Calls Try.prog 46 #[.agg #[.int .i64 f, .string ip, .int .i64 p]] w fun e w' => e = .returned (.bool (decide (okA f ip p))) ∧ Below w.heap.size w w' := by
  by_cases f4 : f = 4
  · subst f4
    by_cases z : (ip.size : Int) = 4
    · by_cases p1 : 1 ≤ p
      · by_cases p2 : p ≤ 65535
        · have D : decide (okA 4 ip p) = true := decide_eq_true (by unfold okA; omega)
          have DD := Lib.hid D
          clear D
          go_enter Try.func46, Try.ntmps46
          go_wp2
          go_ret
          exact ⟨by rw [DD.out]; rfl, (Below.refl _ _).alloc (Nat.le_refl _) _⟩
        · have D : decide (okA 4 ip p) = false := decide_eq_false (by unfold okA; omega)
          have DD := Lib.hid D
          clear D
          go_enter Try.func46, Try.ntmps46
          go_wp2
          go_ret
          exact ⟨by rw [DD.out]; rfl, (Below.refl _ _).alloc (Nat.le_refl _) _⟩
      · have D : decide (okA 4 ip p) = false := decide_eq_false (by unfold okA; omega)
        have DD := Lib.hid D
        clear D
        go_enter Try.func46, Try.ntmps46
        go_wp2
        go_ret
        exact ⟨by rw [DD.out]; rfl, (Below.refl _ _).alloc (Nat.le_refl _) _⟩
    · have D : decide (okA 4 ip p) = false := decide_eq_false (by unfold okA; omega)
      have DD := Lib.hid D
      clear D
      go_enter Try.func46, Try.ntmps46
      go_wp2
      go_ret
      exact ⟨by rw [DD.out]; rfl, (Below.refl _ _).alloc (Nat.le_refl _) _⟩
  · by_cases f6 : f = 6
    · subst f6
      by_cases z : (ip.size : Int) = 16
      · by_cases p1 : 1 ≤ p
        · by_cases p2 : p ≤ 65535
          · have D : decide (okA 6 ip p) = true := decide_eq_true (by unfold okA; omega)
            have DD := Lib.hid D
            clear D
            go_enter Try.func46, Try.ntmps46
            go_wp2
            go_ret
            exact ⟨by rw [DD.out]; rfl, (Below.refl _ _).alloc (Nat.le_refl _) _⟩
          · have D : decide (okA 6 ip p) = false := decide_eq_false (by unfold okA; omega)
            have DD := Lib.hid D
            clear D
            go_enter Try.func46, Try.ntmps46
            go_wp2
            go_ret
            exact ⟨by rw [DD.out]; rfl, (Below.refl _ _).alloc (Nat.le_refl _) _⟩
        · have D : decide (okA 6 ip p) = false := decide_eq_false (by unfold okA; omega)
          have DD := Lib.hid D
          clear D
          go_enter Try.func46, Try.ntmps46
          go_wp2
          go_ret
          exact ⟨by rw [DD.out]; rfl, (Below.refl _ _).alloc (Nat.le_refl _) _⟩
      · have D : decide (okA 6 ip p) = false := decide_eq_false (by unfold okA; omega)
        have DD := Lib.hid D
        clear D
        go_enter Try.func46, Try.ntmps46
        go_wp2
        go_ret
        exact ⟨by rw [DD.out]; rfl, (Below.refl _ _).alloc (Nat.le_refl _) _⟩
    · have D : decide (okA f ip p) = false := decide_eq_false (by unfold okA; omega)
      have DD := Lib.hid D
      clear D
      go_enter Try.func46, Try.ntmps46
      go_wp2
      go_ret
      exact ⟨by rw [DD.out]; rfl, (Below.refl _ _).alloc (Nat.le_refl _) _⟩


set_option maxHeartbeats 1000000 in
theorem rpack_any (f : Int) (ip : ByteArray) (p : Int) (w : World) (hz : ip.size ≤ 16) (p1 : 1 ≤ p) (p2 : p ≤ 65535) : Calls Try.prog 47 #[.agg #[.int .i64 f, .string ip, .int .i64 p]] w fun e w' => e = .returned (.string (pk ip p)) ∧ Below w.heap.size w w' := by
  have hcv := cnv2 (w.alloc (.cells #[.int .i64 f, .string ip, .int .i64 p] 34)) (p / 256) (p % 256)
  rw [World.size_alloc] at hcv
  have hs : (strOfNums [p / 256, p % 256]).size = 2 := by rw [strOfNums_size]; rfl
  go_enter Try.func47, Try.ntmps47
  go_wp2
  go_ret
  exact ⟨rfl, ((Below.refl _ _).alloc (Nat.le_refl _) _).alloc (by simp) _⟩

set_option maxRecDepth 100000 in
set_option maxHeartbeats 1000000 in
theorem RPack_any (f : Int) (ip : ByteArray) (p : Int) (w : World) : Calls Try.prog 24 #[.agg #[.int .i64 f, .string ip, .int .i64 p]] w fun e w' => e = .returned (.tuple #[.string (pkS f ip p), .int .i64 (pkE f ip p)]) ∧ Below w.heap.size w w' := by
  have HV := Lib.hid (RVal_any f ip p)
  obtain ⟨w1, hw1⟩ : ∃ w1, w.alloc (.cells #[.int .i64 f, .string ip, .int .i64 p] 34) = w1 := ⟨_, rfl⟩
  have hB1 : Below w.heap.size w w1 := by rw [← hw1]; exact (Below.refl _ _).alloc (Nat.le_refl _) _
  have k0 : w1.cell? ⟨w.heap.size, 0, none⟩ = some (.int .i64 f) := by rw [← hw1]; simp [go_sem]
  have k1 : w1.cell? ⟨w.heap.size, 1, none⟩ = some (.string ip) := by rw [← hw1]; simp [go_sem]
  have k2 : w1.cell? ⟨w.heap.size, 2, none⟩ = some (.int .i64 p) := by rw [← hw1]; simp [go_sem]
  have HW1 := Lib.hid hw1
  clear hw1
  by_cases h : okA f ip p
  · rw [show pkS f ip p = pk ip p from if_pos h, show pkE f ip p = 0 from if_pos h]
    have HD := Lib.hid (decide_eq_true h)
    have HP := Lib.hid (fun w => (rpack_any f ip p w (by obtain ⟨h, _⟩ := h; omega) h.2.1 h.2.2))
    clear h
    generalize pk ip p = S at HP ⊢
    go_enter Try.func24, Try.ntmps24
    go_wp2_with fail
    refine (HV.out _).mono ?_
    rintro e w2 ⟨rfl, hb⟩
    rw [HW1.out] at hb
    rw [HD.out]
    have q0 := kcell hb k0
    have q1 := kcell hb k1
    have q2 := kcell hb k2
    have hb1 := blw hB1 hb
    go_wp2_with fail
    refine (HP.out _).mono ?_
    rintro e w3 ⟨rfl, hb3⟩
    have hb4 := blw hb1 hb3
    go_wp2_with fail
    go_ret2
    exact ⟨rfl, hb4⟩
  · rw [show pkS f ip p = ⟨#[]⟩ from if_neg h, show pkE f ip p = 1 from if_neg h]
    have HD := Lib.hid (decide_eq_false h)
    clear h
    go_enter Try.func24, Try.ntmps24
    go_wp2_with fail
    refine (HV.out _).mono ?_
    rintro e w2 ⟨rfl, hb⟩
    rw [HW1.out] at hb
    rw [HD.out]
    have hb1 := blw hB1 hb
    go_wp2_with fail
    go_ret2
    exact ⟨rfl, hb1⟩
end Go.Proofs.Ythlkpbpcfkgljaa.Ac
