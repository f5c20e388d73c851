/-
  Nodes: the program's ValidNode.
-/
import Derived.Test.YthlkpbpcfkgljaaAo
set_option linter.unusedVariables false
namespace Go.Proofs.Ythlkpbpcfkgljaa.Ac
open Go Go.RowKit Go.Proofs.Ythlkpbpcfkgljaa.Hz Go.Proofs.Ythlkpbpcfkgljaa.Sx

/-- a node is valid -/
def okN (id : ByteArray) (f : Int) (ip : ByteArray) (p : Int) : Prop := id.size = 20 ∧ okA f ip p
instance (id : ByteArray) (f : Int) (ip : ByteArray) (p : Int) : Decidable (okN id f ip p) := by unfold okN; infer_instance

set_option maxHeartbeats 400000 in
theorem nval (id : ByteArray) (b : Bool) (hb : ((id.size : Int) == 20) = b) (w : World) : Calls Try.prog 52 #[.string id] w fun e w' => e = .returned (.bool b) ∧ w = w' := by
  have H := Lib.hid hb
  clear hb
  go_enter Try.func52, Try.ntmps52
  go_wp2
  rw [H.out]
  go_ret
  exact ⟨rfl, rfl⟩

set_option maxRecDepth 100000 in
set_option maxHeartbeats 1000000 in
theorem ValidNode_any (id : ByteArray) (f : Int) (ip : ByteArray) (p : Int) (w : World) : Calls Try.prog 40 #[.agg #[.string id, .int .i64 f, .string ip, .int .i64 p]] w fun e w' => e = .returned (.bool (decide (okN id f ip p))) ∧ Below w.heap.size w w' := by
  have HV := Lib.hid (Valid_any f ip p)
  obtain ⟨w1, hw1⟩ : ∃ w1, w.alloc (.cells #[.string id, .int .i64 f, .string ip, .int .i64 p] 36) = w1 := ⟨_, rfl⟩
  have hB1 : Below w.heap.size w w1 := by rw [← hw1]; exact (Below.refl _ _).alloc (Nat.le_refl _) _
  have k0 : w1.cell? ⟨w.heap.size, 0, none⟩ = some (.string id) := by rw [← hw1]; simp [go_sem]
  have k1 : w1.cell? ⟨w.heap.size, 1, none⟩ = some (.int .i64 f) := by rw [← hw1]; simp [go_sem]
  have k2 : w1.cell? ⟨w.heap.size, 2, none⟩ = some (.string ip) := by rw [← hw1]; simp [go_sem]
  have k3 : w1.cell? ⟨w.heap.size, 3, none⟩ = some (.int .i64 p) := by rw [← hw1]; simp [go_sem]
  have HW1 := Lib.hid hw1
  clear hw1
  by_cases h : id.size = 20
  · have HN := Lib.hid (nval id true (by simp [h]; done))
    rw [show decide (okN id f ip p) = decide (okA f ip p) from by unfold okN; simp [h]]
    clear h
    generalize decide (okA f ip p) = B at HV ⊢
    go_enter Try.func40, Try.ntmps40
    go_wp2_with fail
    rw [HW1.out]
    refine (HN.out _).mono ?_
    rintro e w2 ⟨rfl, rfl⟩
    go_wp2_with fail
    refine (HV.out _).mono ?_
    rintro e w3 ⟨rfl, hb⟩
    have hb1 := blw hB1 hb
    go_wp2_with fail
    go_ret
    exact ⟨rfl, hb1⟩
  · have HN := Lib.hid (nval id false (by simp; omega))
    rw [show decide (okN id f ip p) = false from decide_eq_false (by unfold okN; exact fun hh => h hh.1)]
    clear h
    go_enter Try.func40, Try.ntmps40
    go_wp2_with fail
    rw [HW1.out]
    refine (HN.out _).mono ?_
    rintro e w2 ⟨rfl, rfl⟩
    go_wp2_with fail
    go_ret
    exact ⟨rfl, hB1⟩
end Go.Proofs.Ythlkpbpcfkgljaa.Ac

/-
  Nodes: the reference's ValidNode.
-/
namespace Go.Proofs.Ythlkpbpcfkgljaa.Ac
open Go Go.RowKit Go.Proofs.Ythlkpbpcfkgljaa.Hz Go.Proofs.Ythlkpbpcfkgljaa.Sx

set_option maxHeartbeats 400000 in
theorem rnval (id : ByteArray) (b : Bool) (hb : ((id.size : Int) == 20) = b) (w : World) : Calls Try.prog 45 #[.string id] w fun e w' => e = .returned (.bool b) ∧ w = w' := by
  have H := Lib.hid hb
  clear hb
  go_enter Try.func45, Try.ntmps45
  go_wp2
  rw [H.out]
  go_ret
  exact ⟨rfl, rfl⟩

set_option maxRecDepth 100000 in
set_option maxHeartbeats 1000000 in
theorem RValidNode_any (id : ByteArray) (f : Int) (ip : ByteArray) (p : Int) (w : World) : Calls Try.prog 23 #[.agg #[.string id, .int .i64 f, .string ip, .int .i64 p]] w fun e w' => e = .returned (.bool (decide (okN id f ip p))) ∧ Below w.heap.size w w' := by
  have HV := Lib.hid (RVal_any f ip p)
  obtain ⟨w1, hw1⟩ : ∃ w1, w.alloc (.cells #[.string id, .int .i64 f, .string ip, .int .i64 p] 36) = w1 := ⟨_, rfl⟩
  have hB1 : Below w.heap.size w w1 := by rw [← hw1]; exact (Below.refl _ _).alloc (Nat.le_refl _) _
  have k0 : w1.cell? ⟨w.heap.size, 0, none⟩ = some (.string id) := by rw [← hw1]; simp [go_sem]
  have k1 : w1.cell? ⟨w.heap.size, 1, none⟩ = some (.int .i64 f) := by rw [← hw1]; simp [go_sem]
  have k2 : w1.cell? ⟨w.heap.size, 2, none⟩ = some (.string ip) := by rw [← hw1]; simp [go_sem]
  have k3 : w1.cell? ⟨w.heap.size, 3, none⟩ = some (.int .i64 p) := by rw [← hw1]; simp [go_sem]
  have HW1 := Lib.hid hw1
  clear hw1
  by_cases h : id.size = 20
  · have HN := Lib.hid (rnval id true (by simp [h]; done))
    rw [show decide (okN id f ip p) = decide (okA f ip p) from by unfold okN; simp [h]]
    clear h
    generalize decide (okA f ip p) = B at HV ⊢
    go_enter Try.func23, Try.ntmps23
    go_wp2_with fail
    rw [HW1.out]
    refine (HN.out _).mono ?_
    rintro e w2 ⟨rfl, rfl⟩
    go_wp2_with fail
    refine (HV.out _).mono ?_
    rintro e w3 ⟨rfl, hb⟩
    have hb1 := blw hB1 hb
    go_wp2_with fail
    go_ret
    exact ⟨rfl, hb1⟩
  · have HN := Lib.hid (rnval id false (by simp; omega))
    rw [show decide (okN id f ip p) = false from decide_eq_false (by unfold okN; exact fun hh => h hh.1)]
    clear h
    go_enter Try.func23, Try.ntmps23
    go_wp2_with fail
    rw [HW1.out]
    refine (HN.out _).mono ?_
    rintro e w2 ⟨rfl, rfl⟩
    go_wp2_with fail
    go_ret
    exact ⟨rfl, hB1⟩
end Go.Proofs.Ythlkpbpcfkgljaa.Ac

/-
  Nodes: lists of nodes; the law's right.
-/
namespace Go.Proofs.Ythlkpbpcfkgljaa.Ac
open Go Go.RowKit Go.Proofs.Ythlkpbpcfkgljaa.Hz Go.Proofs.Ythlkpbpcfkgljaa.Sx

structure Nod where
  id : ByteArray
  f : Int
  ip : ByteArray
  p : Int
def Nod.ok (n : Nod) : Prop := okN n.id n.f n.ip n.p
instance (n : Nod) : Decidable n.ok := by unfold Nod.ok; infer_instance
/-- the nodes of a list -/
def NA (w : World) (a : Option Addr) (len : Nat) (N : Nat → Nod) : Prop := 0 < len → ∃ b off, a = some ⟨b, off, none⟩ ∧ b < w.heap.size ∧ ∀ i, i < len →
  w.cell? ⟨b, off + i * 4, none⟩ = some (.string (N i).id) ∧ w.cell? ⟨b, off + i * 4 + 1, none⟩ = some (.int .i64 (N i).f) ∧ w.cell? ⟨b, off + i * 4 + 2, none⟩ = some (.string (N i).ip) ∧ w.cell? ⟨b, off + i * 4 + 3, none⟩ = some (.int .i64 (N i).p)
theorem NA.below {w w' : World} {a : Option Addr} {len : Nat} {N : Nat → Nod} (h : NA w a len N) (hb : Below w.heap.size w w') : NA w' a len N := fun h0 => by
  obtain ⟨b, off, e, hlt, hc⟩ := h h0
  exact ⟨b, off, e, Nat.lt_of_lt_of_le hlt hb.size, fun i hi => ⟨kcell hb (hc i hi).1, kcell hb (hc i hi).2.1, kcell hb (hc i hi).2.2.1, kcell hb (hc i hi).2.2.2⟩⟩
def intOf : Value → Int | .int _ n => n | _ => 0

set_option maxRecDepth 100000 in
set_option maxHeartbeats 2000000 in
theorem right_any (a : Option Addr) (len cap : Nat) (N : Nat → Nod) (w : World) (hl : len ≤ 1000000) (hN : NA w a len N) :
    Calls Try.prog 9 #[.slice a len cap] w fun e w' => e = .returned (.bool (decide (∀ i, i < len → (N i).ok))) ∧ Below w.heap.size w w' := by
  have HV := Lib.hid RValidNode_any
  have HN := Lib.hid hN
  clear hN
  go_enter Try.func9, Try.ntmps9
  go_wp2_with fail
  go_loopw [7, 4] (fun i _ wr => ∃ (k : Nat), k ≤ len ∧ i = .int .i64 (k : Int) ∧ Hid (∀ j, j < k → (N j).ok) ∧ Hid (Below w.heap.size w wr)) (fun i _ _ => len - (intOf i).toNat)
  case atStart => exact ⟨0, Nat.zero_le _, rfl, Lib.hid (fun j hj => by omega), Lib.hid (Below.refl _ _)⟩
  case round =>
    obtain ⟨k, hk, rfl, HO, HB⟩ := hrel
    by_cases hkl : k < len
    · have hN := HN.out.below HB.out
      obtain ⟨b, off, rfl, hb, hc⟩ := hN (by omega)
      obtain ⟨c0, c1, c2, c3⟩ := hc k hkl
      clear hc
      go_wp2_with fail
      refine (HV.out _ _ _ _ _).mono ?_
      rintro e w3 ⟨rfl, hb3⟩
      have hb1 := blw (blw_alloc HB.out) hb3
      by_cases ho : (N k).ok
      · rw [decide_eq_true (show okN (N k).id (N k).f (N k).ip (N k).p from ho)]
        go_wp2_with fail
        exact ⟨⟨k + 1, by omega, by go_num, Lib.hid (fun j hj => by
          obtain h | rfl : j < k ∨ j = k := by omega
          · exact HO.out j h
          · exact ho), Lib.hid hb1⟩, by simp [intOf]; omega⟩
      · rw [decide_eq_false (show ¬ okN (N k).id (N k).f (N k).ip (N k).p from ho)]
        go_wp2_with fail
        go_ret
        exact ⟨by rw [decide_eq_false (fun h => ho (h k hkl))]; rfl, hb1⟩
    · obtain rfl : k = len := by omega
      go_wp2_with fail
      go_ret
      exact ⟨by rw [decide_eq_true HO.out]; rfl, HB.out⟩
end Go.Proofs.Ythlkpbpcfkgljaa.Ac

/-
  Nodes: the program's askNodes.
-/
namespace Go.Proofs.Ythlkpbpcfkgljaa.Ac
open Go Go.RowKit Go.Proofs.Ythlkpbpcfkgljaa.Hz Go.Proofs.Ythlkpbpcfkgljaa.Sx


set_option maxHeartbeats 400000 in
theorem nrefuse_no (k : Int) (w : World) : Calls Try.prog 16 #[.bool false, .int .i64 k] w fun e w' => e = .returned (.tuple #[]) ∧ w = w' := by
  go_enter Try.func16, Try.ntmps16
  go_wp2
  go_end0
  exact ⟨rfl, rfl⟩
set_option maxHeartbeats 400000 in
theorem nrefuse_yes (k : Int) (w : World) : Calls Try.prog 16 #[.bool true, .int .i64 k] w fun e w' => e = .panicked [{ v := .iface 24 (.int .i64 k), recovered := false }] ∧ w = w' := by
  go_enter Try.func16, Try.ntmps16
  go_wp2
  simp [bodyPost]


set_option maxRecDepth 100000 in
set_option maxHeartbeats 2000000 in
theorem askNodes_any (a : Option Addr) (len cap : Nat) (N : Nat → Nod) (w : World) (hl : len ≤ 1000000) (hN : NA w a len N) :
    Calls Try.prog 21 #[.slice a len cap] w fun e w' => ((∀ i, i < len → (N i).ok) ∧ e = .returned (.tuple #[]) ∨ (¬ (∀ i, i < len → (N i).ok)) ∧ e = .panicked [{ v := .iface 24 (.int .i64 1), recovered := false }]) ∧ Below w.heap.size w w' := by
  have HV := Lib.hid ValidNode_any
  have HN := Lib.hid hN
  clear hN
  go_enter Try.func21, Try.ntmps21
  go_wp2_with fail
  go_loopw [6, 3] (fun i _ wr => ∃ (k : Nat), k ≤ len ∧ i = .int .i64 (k : Int) ∧ Hid (∀ j, j < k → (N j).ok) ∧ Hid (Below w.heap.size w wr)) (fun i _ _ => len - (intOf i).toNat)
  case atStart => exact ⟨0, Nat.zero_le _, rfl, Lib.hid (fun j hj => by omega), Lib.hid (Below.refl _ _)⟩
  case round =>
    obtain ⟨k, hk, rfl, HO, HB⟩ := hrel
    by_cases hkl : k < len
    · have hN := HN.out.below HB.out
      obtain ⟨b, off, rfl, hb, hc⟩ := hN (by omega)
      obtain ⟨c0, c1, c2, c3⟩ := hc k hkl
      clear hc
      go_wp2_with fail
      refine (HV.out _ _ _ _ _).mono ?_
      rintro e w3 ⟨rfl, hb3⟩
      have hb1 := blw (blw_alloc HB.out) hb3
      by_cases ho : (N k).ok
      · rw [decide_eq_true (show okN (N k).id (N k).f (N k).ip (N k).p from ho)]
        go_wp2_with fail
        refine (nrefuse_no _ _).mono ?_
        rintro e w4 ⟨rfl, rfl⟩
        go_wp2_with fail
        exact ⟨⟨k + 1, by omega, by go_num, Lib.hid (fun j hj => by
          obtain h | rfl : j < k ∨ j = k := by omega
          · exact HO.out j h
          · exact ho), Lib.hid hb1⟩, by simp [intOf]; omega⟩
      · rw [decide_eq_false (show ¬ okN (N k).id (N k).f (N k).ip (N k).p from ho)]
        go_wp2_with fail
        refine (nrefuse_yes _ _).mono ?_
        rintro e w4 ⟨rfl, rfl⟩
        exact ⟨rfl, Or.inr ⟨fun h => ho (h k hkl), rfl⟩, hb1⟩
    · obtain rfl : k = len := by omega
      go_wp2_with fail
      go_end0
      exact ⟨Or.inl ⟨HO.out, rfl⟩, HB.out⟩
end Go.Proofs.Ythlkpbpcfkgljaa.Ac

/-
  Nodes: the reference's Pack.
-/
namespace Go.Proofs.Ythlkpbpcfkgljaa.Ac
open Go Go.RowKit Go.Proofs.Ythlkpbpcfkgljaa.Hz Go.Proofs.Ythlkpbpcfkgljaa.Sx

/-- one node's pack -/
def Nod.pk (n : Nod) : ByteArray := n.id ++ Ac.pk n.ip n.p
/-- the packs of the first nodes -/
def packs (N : Nat → Nod) : Nat → ByteArray × ByteArray
  | 0 => (⟨#[]⟩, ⟨#[]⟩)
  | k + 1 => if (N k).f = 4 then ((packs N k).1 ++ (N k).pk, (packs N k).2) else ((packs N k).1, (packs N k).2 ++ (N k).pk)
theorem Nod.pk_size (n : Nod) (h : n.ok) : n.pk.size ≤ 38 := by
  obtain ⟨h1, h2, _⟩ := h
  unfold Nod.pk Ac.pk
  rw [ByteArray.size_append, ByteArray.size_append, strOfNums_size]
  show n.id.size + (n.ip.size + 2) ≤ 38
  omega
theorem packs_size (N : Nat → Nod) (k : Nat) (h : ∀ j, j < k → (N j).ok) : (packs N k).1.size ≤ 38 * k ∧ (packs N k).2.size ≤ 38 * k := by
  induction k with
  | zero => exact ⟨Nat.le_refl _, Nat.le_refl _⟩
  | succ k ih =>
    obtain ⟨h1, h2⟩ := ih fun j hj => h j (by omega)
    have h3 := (N k).pk_size (h k (by omega))
    unfold packs
    by_cases hf : (N k).f = 4
    · rw [if_pos hf]
      exact ⟨by rw [ByteArray.size_append]; omega, by show (packs N k).2.size ≤ _; omega⟩
    · rw [if_neg hf]
      exact ⟨by show (packs N k).1.size ≤ _; omega, by rw [ByteArray.size_append]; omega⟩

set_option maxRecDepth 100000 in
set_option maxHeartbeats 2000000 in
theorem RPacks_any (a : Option Addr) (len cap : Nat) (N : Nat → Nod) (w : World) (hl : len ≤ 1000) (hN : NA w a len N) (hok : ∀ i, i < len → (N i).ok) :
    Calls Try.prog 10 #[.slice a len cap] w fun e w' => e = .returned (.tuple #[.string (packs N len).1, .string (packs N len).2]) ∧ Below w.heap.size w w' := by
  have HP := Lib.hid RPack_any
  have HN := Lib.hid hN
  have HK := Lib.hid hok
  clear hN hok
  go_enter Try.func10, Try.ntmps10
  go_wp2_with fail
  go_loopw [10, 2, 3] (fun i x y wr => ∃ (k : Nat), k ≤ len ∧ i = .int .i64 (k : Int) ∧ x = .string (packs N k).1 ∧ y = .string (packs N k).2 ∧ Hid (Below w.heap.size w wr)) (fun i _ _ _ => len - (intOf i).toNat)
  case atStart => exact ⟨0, Nat.zero_le _, rfl, rfl, rfl, Lib.hid (Below.refl _ _)⟩
  case round =>
    obtain ⟨k, hk, rfl, rfl, rfl, HB⟩ := hrel
    by_cases hkl : k < len
    · have hN := HN.out.below HB.out
      obtain ⟨b, off, rfl, hb, hc⟩ := hN (by omega)
      obtain ⟨c0, c1, c2, c3⟩ := hc k hkl
      clear hc
      have hko := HK.out k hkl
      have HA := Lib.hid (show okA (N k).f (N k).ip (N k).p from hko.2)
      have HPK := Lib.hid (show packs N (k + 1) = _ from packs.eq_2 N k)
      obtain ⟨z1, z2⟩ := packs_size N k fun j hj => HK.out j (by omega)
      have z3 : (N k).id.size = 20 := hko.1
      have z4 : (pk (N k).ip (N k).p).size ≤ 18 := by have := (N k).pk_size hko; unfold Nod.pk at this; rw [ByteArray.size_append] at this; omega
      have z5 : 38 * k ≤ 38000 := by omega
      have HX := Lib.hid (show (N k).pk = (N k).id ++ pk (N k).ip (N k).p from rfl)
      clear hko
      have HS := Lib.hid (show pkS (N k).f (N k).ip (N k).p = pk (N k).ip (N k).p from if_pos HA.out)
      generalize pk (N k).ip (N k).p = P at z4 HS HX
      go_wp2_with fail
      refine (HP.out _ _ _ _).mono ?_
      rintro e w3 ⟨rfl, hb3⟩
      rw [HS.out]
      have hb1 := blw (blw_alloc HB.out) hb3
      have q0 : w3.cell? ⟨wr.heap.size, 0, none⟩ = some (.string (N k).id) := kcell hb3 (by simp [go_sem])
      have q1 : w3.cell? ⟨wr.heap.size, 1, none⟩ = some (.int .i64 (N k).f) := kcell hb3 (by simp [go_sem])
      by_cases hf : (N k).f = 4
      · have hff : ((N k).f == 4) = true := by simpa using hf
        go_wp2_with fail
        exact ⟨⟨k + 1, by omega, by go_num, by rw [HPK.out, if_pos hf, HX.out], by rw [HPK.out, if_pos hf], Lib.hid hb1⟩, by simp [intOf]; omega⟩
      · have hff : ((N k).f == 4) = false := by simpa using hf
        go_wp2_with fail
        exact ⟨⟨k + 1, by omega, by go_num, by rw [HPK.out, if_neg hf], by rw [HPK.out, if_neg hf, HX.out], Lib.hid hb1⟩, by simp [intOf]; omega⟩
    · obtain rfl : k = len := by omega
      go_wp2_with fail
      go_ret2
      exact ⟨rfl, HB.out⟩
end Go.Proofs.Ythlkpbpcfkgljaa.Ac
