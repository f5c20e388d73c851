/-
  Nodes: the closure of the program's Pack.
-/
import Derived.Test.YthlkpbpcfkgljaaAt
import Derived.Test.YthlkpbpcfkgljaaAu
import Derived.BigQuiet
set_option linter.unusedVariables false
namespace Go.Proofs.Ythlkpbpcfkgljaa.Ac
open Go Go.RowKit Go.Proofs.Ythlkpbpcfkgljaa.Hz Go.Proofs.Ythlkpbpcfkgljaa.Sx

set_option maxHeartbeats 1000000 in
theorem NPackF_no (a : Option Addr) (len cap : Nat) (N : Nat → Nod) (c : Nat) (w : World) (hl : len ≤ 1000) (hN : NA w a len N) (kc : w.cell? ⟨c, 0, none⟩ = some (.slice a len cap)) (hno : ¬ ∀ i, i < len → (N i).ok) :
    Calls Try.prog 20 #[.pointer (some ⟨c, 0, none⟩)] w fun e w' => e = .panicked [{ v := .iface 24 (.int .i64 1), recovered := false }] ∧ Below w.heap.size w w' := by
  have HQ := Lib.hid (askNodes_any a len cap N (w.alloc (.cells #[.string ⟨#[]⟩, .string ⟨#[]⟩] 49)) (by omega) (hN.below ((Below.refl _ _).alloc (Nat.le_refl _) _)))
  have kq := acell (.cells #[.string ⟨#[]⟩, .string ⟨#[]⟩] 49) kc
  have HW := Lib.hid (show Below w.heap.size w (w.alloc (.cells #[.string ⟨#[]⟩, .string ⟨#[]⟩] 49)) from (Below.refl _ _).alloc (Nat.le_refl _) _)
  have HH := Lib.hid hno
  clear hno hN kc
  go_enter Try.func20, Try.ntmps20
  go_wp2_with fail
  refine HQ.out.mono ?_
  rintro e w2 ⟨⟨h, rfl⟩ | ⟨h, rfl⟩, hb⟩
  · exact absurd h HH.out
  · exact ⟨rfl, rfl, blw HW.out hb⟩

set_option maxRecDepth 100000 in
set_option maxHeartbeats 4000000 in
theorem NPackF_ok (a : Option Addr) (len cap : Nat) (N : Nat → Nod) (c : Nat) (w : World) (hl : len ≤ 1000) (hN : NA w a len N) (kc : w.cell? ⟨c, 0, none⟩ = some (.slice a len cap)) (hok : ∀ i, i < len → (N i).ok) :
    Calls Try.prog 20 #[.pointer (some ⟨c, 0, none⟩)] w fun e w' => e = .returned (.agg #[.string (packs N len).1, .string (packs N len).2]) ∧ Below w.heap.size w w' := by
  have HQ := Lib.hid (askNodes_any a len cap N (w.alloc (.cells #[.string ⟨#[]⟩, .string ⟨#[]⟩] 49)) (by omega) (hN.below ((Below.refl _ _).alloc (Nat.le_refl _) _)))
  have kq := acell (.cells #[.string ⟨#[]⟩, .string ⟨#[]⟩] 49) kc
  have HW := Lib.hid (show Below w.heap.size w (w.alloc (.cells #[.string ⟨#[]⟩, .string ⟨#[]⟩] 49)) from (Below.refl _ _).alloc (Nat.le_refl _) _)
  have HG := Lib.hid (World.alloc_heap_new w (.cells #[.string ⟨#[]⟩, .string ⟨#[]⟩] 49))
  have HK := Lib.hid hok
  have HN := Lib.hid hN
  have HP := Lib.hid Pack_any
  clear hok hN kc
  go_enter Try.func20, Try.ntmps20
  go_wp2_with fail
  refine HQ.out.mono ?_
  rintro e w3 ⟨⟨h, rfl⟩ | ⟨h, rfl⟩, hb⟩
  rotate_left
  · exact absurd HK.out h
  clear h
  have kq3 := kcell hb kq
  have HB3 := Lib.hid (blw HW.out hb)
  have HG3 := Lib.hid ((hb.block w.heap.size (by simp)).trans HG.out)
  have HS3 := Lib.hid (show w.heap.size + 1 ≤ w3.heap.size from by have := hb.size; simp at this; omega)
  clear hb HG HW HQ
  have kq4 := acell (.cells #[.string ⟨#[]⟩, .string ⟨#[]⟩] 49) kq3
  go_wp2_with fail
  go_loopw [11] (fun i wr => ∃ (k : Nat), k ≤ len ∧ i = .int .i64 (k : Int) ∧ wr.heap[w3.heap.size]? = some (.cells #[.string (packs N k).1, .string (packs N k).2] 49) ∧ Hid (Below w3.heap.size w3 wr) ∧ Hid (w3.heap.size < wr.heap.size)) (fun i _ => len - (intOf i).toNat)
  case atStart => exact ⟨0, Nat.zero_le _, rfl, World.alloc_heap_new _ _, Lib.hid ((Below.refl _ _).alloc (Nat.le_refl _) _), Lib.hid (by simp)⟩
  case round =>
    obtain ⟨k, hk, rfl, ho, HB, HL⟩ := hrel
    by_cases hkl : k < len
    · have hN := (HN.out.below HB3.out).below HB.out
      obtain ⟨b, off, rfl, hb, hc⟩ := hN (by omega)
      obtain ⟨c0, c1, c2, c3⟩ := hc k hkl
      clear hc
      have hko := HK.out k hkl
      have HA := Lib.hid (show okA (N k).f (N k).ip (N k).p from hko.2)
      have HPK := Lib.hid (show packs N (k + 1) = _ from packs.eq_2 N k)
      obtain ⟨z1, z2⟩ := packs_size N k fun j hj => HK.out j (by omega)
      have z3 : (N k).id.size = 20 := hko.1
      have z4 : (pk (N k).ip (N k).p).size ≤ 18 := by have := (N k).pk_size hko; unfold Nod.pk at this; rw [ByteArray.size_append] at this; omega
      have z5 : 38 * k ≤ 38000 := by omega
      have HX := Lib.hid (show (N k).pk = (N k).id ++ pk (N k).ip (N k).p from rfl)
      clear hko
      have HS := Lib.hid (show pkS (N k).f (N k).ip (N k).p = pk (N k).ip (N k).p from if_pos HA.out)
      have HE := Lib.hid (show pkE (N k).f (N k).ip (N k).p = 0 from if_pos HA.out)
      generalize pk (N k).ip (N k).p = P at z4 HS HX
      have HO := Lib.hid ho
      clear ho
      go_wp2_with fail
      refine (HP.out _ _ _ _).mono ?_
      rintro e w5 ⟨rfl, hb5⟩
      rw [HS.out, HE.out]
      have hb1 := blw (blw_alloc HB.out) hb5
      have q0 : w5.cell? ⟨wr.heap.size, 0, none⟩ = some (.string (N k).id) := kcell hb5 (by simp [go_sem])
      have q1 : w5.cell? ⟨wr.heap.size, 1, none⟩ = some (.int .i64 (N k).f) := kcell hb5 (by simp [go_sem])
      have ho5 := (hb5.block w3.heap.size (by have := HL.out; simp; omega)).trans ((Below.heap_alloc _ _ _ (by have := HL.out; omega)).trans HO.out)
      have o0 : w5.cell? ⟨w3.heap.size, 0, none⟩ = some (.string (packs N k).1) := by simp [World.cell?, ho5]
      have o1 : w5.cell? ⟨w3.heap.size, 1, none⟩ = some (.string (packs N k).2) := by simp [World.cell?, ho5]
      have f0 : w5.frozen? ⟨w3.heap.size, 0, none⟩ = false := by simp [World.frozen?, ho5]
      have f1 : w5.frozen? ⟨w3.heap.size, 1, none⟩ = false := by simp [World.frozen?, ho5]
      have HO5 := Lib.hid ho5
      have HL5 := Lib.hid (show w3.heap.size < w5.heap.size from by have := hb5.size; have := HL.out; simp at *; omega)
      clear ho5 HO
      go_wp2_with fail
      refine (nrefuse_no _ _).mono ?_
      rintro e w6 ⟨rfl, rfl⟩
      by_cases hf : (N k).f = 4
      · have hff : ((N k).f == 4) = true := by simpa using hf
        go_wp2_with fail
        have s1 := heap_setCell_same w5 w3.heap.size 0 _ _ (.string ((packs N k).1 ++ ((N k).id ++ P))) HO5.out
        exact ⟨⟨k + 1, by omega, by go_num, by rw [HPK.out, if_pos hf, HX.out]; simpa using s1, Lib.hid (below_gb (gb_new (gb_below hb1 none) _ _ _ (Nat.le_refl _))), Lib.hid (by have := HL5.out; simpa using this)⟩, by simp [intOf]; omega⟩
      · have hff : ((N k).f == 4) = false := by simpa using hf
        go_wp2_with fail
        have s1 := heap_setCell_same w5 w3.heap.size 1 _ _ (.string ((packs N k).2 ++ ((N k).id ++ P))) HO5.out
        exact ⟨⟨k + 1, by omega, by go_num, by rw [HPK.out, if_neg hf, HX.out]; simpa using s1, Lib.hid (below_gb (gb_new (gb_below hb1 none) _ _ _ (Nat.le_refl _))), Lib.hid (by have := HL5.out; simpa using this)⟩, by simp [intOf]; omega⟩
    · obtain rfl : k = len := by omega
      have hs3 := HS3.out
      have o0 : wr.cell? ⟨w3.heap.size, 0, none⟩ = some (.string (packs N k).1) := by simp [World.cell?, ho]
      have o1 : wr.cell? ⟨w3.heap.size, 1, none⟩ = some (.string (packs N k).2) := by simp [World.cell?, ho]
      have hr := (HB.out.block w.heap.size (by omega)).trans HG3.out
      have r0 : wr.cell? ⟨w.heap.size, 0, none⟩ = some (.string ⟨#[]⟩) := by simp [World.cell?, hr]
      have r1 : wr.cell? ⟨w.heap.size, 1, none⟩ = some (.string ⟨#[]⟩) := by simp [World.cell?, hr]
      have f0 : wr.frozen? ⟨w.heap.size, 0, none⟩ = false := by simp [World.frozen?, hr]
      have f1 : wr.frozen? ⟨w.heap.size, 1, none⟩ = false := by simp [World.frozen?, hr]
      have HR := Lib.hid hr
      clear hr ho
      go_wp2_with fail
      have s1 := heap_setCell_same wr w.heap.size 0 _ _ (.string (packs N k).1) HR.out
      have s2 := heap_setCell_same _ w.heap.size 1 _ _ (.string (packs N k).2) s1
      exact bodyPost_ret (results_cell_row rfl _ _ w.heap.size 49 _ _ _ rfl (by simpa using s2) Try.underlying49 rfl (by kernel_rfl)) rfl ⟨rfl, below_gb (gb_new (gb_new (gb_below (blw HB3.out HB.out) none) _ _ _ (Nat.le_refl _)) _ _ _ (Nat.le_refl _))⟩
end Go.Proofs.Ythlkpbpcfkgljaa.Ac

/-
  Nodes: the program's Pack, whole.
-/
namespace Go.Proofs.Ythlkpbpcfkgljaa.Ac
open Go Go.RowKit Go.Proofs.Ythlkpbpcfkgljaa.Hz Go.Proofs.Ythlkpbpcfkgljaa.Sx

theorem enterNPack (args : Array Value) (w : World) : (callFunc 20 args).run Try.prog w = .ok (.enter 20 args) w := by kernel_rfl
/-- the world in which a boxed list lies -/
def bxl (w : World) (a : Option Addr) (len cap : Nat) : World := w.alloc (.cells #[.slice a len cap] 22)
theorem bxl_k (w : World) (a : Option Addr) (len cap : Nat) : (Au.aw (bxl w a len cap)).cell? ⟨w.heap.size, 0, none⟩ = some (.slice a len cap) :=
  kcell (below_gb (Au.aw_gb _)) (by unfold bxl; simp [go_sem])
theorem bxl_below (w : World) (a : Option Addr) (len cap : Nat) : Below w.heap.size w (bxl w a len cap) := (Below.refl _ _).alloc (Nat.le_refl _) _

/-- what Pack answers of the first family, the second, the Errno -/
def npS (N : Nat → Nod) (len : Nat) : ByteArray := if ∀ i, i < len → (N i).ok then (packs N len).1 else ⟨#[]⟩
def npT (N : Nat → Nod) (len : Nat) : ByteArray := if ∀ i, i < len → (N i).ok then (packs N len).2 else ⟨#[]⟩
def npE (N : Nat → Nod) (len : Nat) : Int := if ∀ i, i < len → (N i).ok then 0 else 1

set_option maxRecDepth 100000 in
set_option maxHeartbeats 1000000 in
theorem NPack_any (a : Option Addr) (len cap : Nat) (N : Nat → Nod) (w : World) (hl : len ≤ 1000) (hN : NA w a len N) :
    Calls Try.prog 8 #[.slice a len cap] w fun e w' => e = .returned (.tuple #[.string (npS N len), .string (npT N len), .int .i64 (npE N len)]) ∧ Below w.heap.size w w' := by
  have hmf : ∀ (fn : Fn) (first cap : Array Value) (w : World), (Instr.makeFunc fn first cap).run Try.prog w = .ok (.func fn first cap) w := fun _ _ _ _ => rfl
  have H : Hid (Calls Try.prog 19 #[.func (Fn.func 20) #[] #[.pointer (some ⟨w.heap.size, 0, none⟩)]] (bxl w a len cap) fun e w' => e = .returned (.tuple #[.agg #[.string (npS N len), .string (npT N len)], .int .i64 (npE N len)]) ∧ (bxl w a len cap).grownBy w' none) := by
    refine Lib.hid ?_
    have k0 := bxl_k w a len cap
    have hN2 : NA (Au.aw (bxl w a len cap)) a len N := (hN.below (bxl_below w a len cap)).below (below_gb (Au.aw_gb _))
    by_cases h : ∀ i, i < len → (N i).ok
    · rw [show npS N len = (packs N len).1 from if_pos h, show npT N len = (packs N len).2 from if_pos h, show npE N len = 0 from if_pos h]
      exact (Au.att_ex 20 _ (bxl w a len cap) none (fun x y _ => x = (packs N len).1 ∧ y = (packs N len).2) (fun _ _ _ _ h _ _ => h) (fun _ h => by cases h) enterNPack ((NPackF_ok a len cap N _ _ hl hN2 k0 h).mono fun e w' hh => ⟨_, _, hh.1, ⟨rfl, rfl⟩, gb_below hh.2 _⟩)).mono fun e w' ⟨x, y, he, ⟨hx, hy⟩, hg⟩ => by rw [← hx, ← hy]; exact ⟨he, hg⟩
    · rw [show npS N len = ⟨#[]⟩ from if_neg h, show npT N len = ⟨#[]⟩ from if_neg h, show npE N len = 1 from if_neg h]
      exact (Au.att_no 20 _ 1 (bxl w a len cap) none (fun _ => True) (sta_true _) (fun _ _ _ => trivial) (fun _ h => by cases h) enterNPack ((NPackF_no a len cap N _ _ hl hN2 k0 h).mono fun e w' hh => ⟨hh.1, trivial, gb_below hh.2 _⟩)).mono fun e w' hh => ⟨hh.1, hh.2.2⟩
  generalize npS N len = x at H ⊢
  generalize npT N len = y at H ⊢
  generalize npE N len = z at H ⊢
  have HW := Lib.hid (bxl_below w a len cap)
  unfold bxl at H HW
  clear hN
  go_enter Try.func8, Try.ntmps8
  go_wp2_with fail
  refine H.out.mono ?_
  rintro e w1 ⟨rfl, hg⟩
  have HG := Lib.hid (blw HW.out (below_gb hg))
  clear hg
  go_wp2
  go_region
  all_goals
    go_wp2
    exact bodyPost_ret (v := .tuple #[.string x, .string y, .int .i64 z]) (by simp [results, Try.results8, go_sem]) rfl ⟨rfl, (blw_alloc HG.out).drew⟩
end Go.Proofs.Ythlkpbpcfkgljaa.Ac
