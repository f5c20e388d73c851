/-
  Fields of bits: strconv.Itoa and strings.Builder, laid.
-/
import Derived.Test.YtbeaohnjifcgaaaDoorBp
import Derived.Shelf.Strconv.Itoa3
import Derived.Shelf.Strings.BuilderK
import Derived.Shelf.Lay
import Derived.Ground.NamesProg
import Derived.Lib.AppendIntMem
import Derived.WalkKit
import Derived.WalkSpells
import Derived.LoopTactic
import Derived.Outline
import Derived.BigRegion
import Derived.Lib.Hide
namespace Go.Proofs
open Go.Shelf
shelf_lay LaysM.n171 Nm 171 at Tryd as Tryd.laysItoa
shelf_lay Lays.n169 Nm 169 at Tryd as Tryd.laysStr
theorem Tryd.extraStr : Builder.Extra Tryd.prog Tryd.laysStr_ren where
  sizeBuilder := by kernel_rfl
  liesBuilder := by kernel_rfl
  t5 := Tryd.underlying5
  a5 := Tryd.isAgg5
  z5 := Tryd.sizeOf5
  v5 := Tryd.zeroValue5
  infoByte := by kernel_rfl
  cellsByte := by kernel_rfl
  sizeByte := by kernel_rfl
  neB5 := by decide
end Go.Proofs
namespace Go.Proofs.YtbeaohnjifcgaaaDoor.Hh
open Go Go.RowKit

/-- strconv's table in memory -/
def Tab (w : World) : Prop := Lib.TabIs Tryd.prog w "internal/strconv.uint64pow10" .u64 Lib.pow10Tab
theorem Tab.below {w w' : World} (h : Tab w) (hb : Below w.heap.size w w') : Tab w' := Lib.tabBelow_of_tabIs h w' hb

/-- a number's digits -/
def dec (k : Nat) : ByteArray := ⟨(Lib.decDigits k).toArray⟩
theorem dec_data (k : Nat) : (dec k).data.toList = Lib.decDigits k := rfl

theorem below_grow (w : World) (k : Nat) (os : Array Obj) : Below w.heap.size w (Sort.grow (w.drewN k) os) := by
  refine ⟨rfl, rfl, rfl, ?_, fun b hb => ?_⟩
  · simp [Sort.grow]
  · simp [Sort.grow, Array.getElem?_append_left hb]

theorem Itoa_any (k : Nat) (hk : k ≤ 9223372036854775807) (w : World) (ht : Tab w) :
    Calls Tryd.prog 116 #[.int .i64 (k : Int)] w fun e w' => e = .returned (.string (dec k)) ∧ Below w.heap.size w w' := by
  refine (Any.strconv_Itoa Tryd.laysItoa (k : Int) (by omega) (by omega) w ht).mono ?_
  rintro e w' ⟨rfl, n, os, rfl⟩
  refine ⟨?_, below_grow w n os⟩
  rw [Lib.itoa_nonneg]
  rfl

theorem dec_small (k : Nat) (h : k < 10) : dec k = strOfNums [48 + (k : Int)] := by
  apply ByteArray.ext
  apply Array.toList_inj.1
  rw [dec_data, Lib.decDigits_one h, strOfNums_data]
  simp only [List.map_cons, List.map_nil]
  rw [show (48 + (k : Int)).toNat = 48 + k by omega]
theorem dec_big (k : Nat) (h : ¬ k < 10) : dec k = dec (k / 10) ++ strOfNums [48 + ((k % 10 : Nat) : Int)] := by
  apply ByteArray.ext
  apply Array.toList_inj.1
  rw [ByteArray.data_append, Array.toList_append, dec_data, dec_data, strOfNums_data]
  rw [Lib.decDigits, dif_neg h]
  simp only [List.map_cons, List.map_nil]
  rw [show (48 + ((k % 10 : Nat) : Int)).toNat = 48 + k % 10 by omega]
theorem dec_size (k : Nat) (h : k ≤ 9223372036854775807) : (dec k).size ≤ 30 := by
  have : ∀ n k : Nat, k < 10 ^ (n + 1) → (dec k).size ≤ n + 1 := by
    intro n
    induction n with
    | zero => intro k hk; rw [dec_small k (by omega), strOfNums_size]; simp
    | succ n ih =>
      intro k hk
      by_cases h10 : k < 10
      · rw [dec_small k h10, strOfNums_size]; simp
      · rw [dec_big k h10, ByteArray.size_append, strOfNums_size]
        have := ih (k / 10) (by rw [Nat.pow_succ] at hk; omega)
        simp; omega
  have := this 19 k (by omega)
  omega
end Go.Proofs.YtbeaohnjifcgaaaDoor.Hh
namespace Go.Proofs.YtbeaohnjifcgaaaDoor.Bh
open Go Go.RowKit Go.Shelf Go.Proofs.YtbeaohnjifcgaaaDoor.Sx Go.Proofs.YtbeaohnjifcgaaaDoor.Na Go.Proofs.YtbeaohnjifcgaaaDoor.Ba

/-- a builder in block b that holds the bytes l -/
abbrev Bu (B b : Nat) (l : List UInt8) (w : World) : Prop := Lib.IsBuilderF 97 5 B b (Lib.byteCells l) w
abbrev Ok (b : Nat) (w w' : World) : Prop := Lib.OthersKept 5 (some b) w w'
theorem Bu.grow {B b : Nat} {l : List UInt8} {w w' : World} (h : Bu B b l w) (hg : w.grownBy w' none) : Bu B b l w' := by
  have one : ∀ p, Lib.BuilderAtF 97 5 B b p (Lib.byteCells l) w → Lib.BuilderAtF 97 5 B b p (Lib.byteCells l) w' := by
    rintro p ⟨hB, v, hb, hown, hne⟩
    exact ⟨hB, v, gb_block hg hb (by simp), hown.kept hg (by cases hv : v.ownBlock <;> simp), hne⟩
  exact h.elim (fun h => .inl (one _ h)) (fun h => .inr (one _ h))
theorem Bu.new (w : World) : Bu w.heap.size w.heap.size [] (w.alloc (.cells #[.pointer none, .slice none 0 0] 97)) :=
  .inl ⟨Nat.le_refl _, .slice none 0 0, World.alloc_heap_new _ _, ⟨rfl, .inl ⟨rfl, rfl⟩⟩, by simp [Value.ownBlock]⟩
theorem bytes_len (l : List UInt8) : (Lib.byteCells l).length = l.length := by simp [Lib.byteCells]
theorem b_size : (Tryd.prog.info? 97).map (·.size) = some 2 := by kernel_rfl
theorem b_lies : liesAt Tryd.prog Tryd.prog.depth 97 (2 / Tryd.prog.cellsOf 97) 0 97 1 = true := by kernel_rfl
abbrev BuF (B b : Nat) (p : Value) (l : List Value) (w : World) : Prop := Lib.BuilderAtF 97 5 B b p l w
set_option maxHeartbeats 2000000 in
set_option maxRecDepth 100000 in
theorem copyCheck_any (B b : Nat) (l : List Value) (w : World) (h : Lib.IsBuilderF 97 5 B b l w) :
    Calls Tryd.prog 120 #[.pointer (some ⟨b, 0, none⟩)] w fun e w' => e = .returned (.tuple #[]) ∧ BuF B b (.pointer (some ⟨b, 0, none⟩)) l w' ∧ Below B w w' ∧ Ok b w w' := by
  obtain ⟨j, hj, hjs⟩ := Option.map_eq_some_iff.1 b_size
  rcases h with h | h
  · have c0 := h.cell0
    have hsh := h.shape
    have hfz := h.frozen0
    have HH := Lib.hid h
    clear h
    go_enter Tryd.func120, Tryd.ntmps120
    go_wp2
    rw [Lib.run_to_unsafe w ⟨b, 0, none⟩ Tryd.underlying95 Tryd.underlying107 hj (by rw [hjs]; decide) hsh (Nat.zero_lt_succ 1)]
    simp only [Result.andThen]
    rw [Oper.upon_value]
    go_wp2
    rw [run_callFunc_extern Tryd.func126 (by kernel_rfl) (by kernel_rfl) (by kernel_rfl) (e := Extern.AbiNoEscape.same) (by kernel_rfl)]
    rw [Lib.run_noEscape]
    simp only [Result.andThen]
    rw [Oper.upon_value]
    go_wp2
    rw [Lib.run_from_unsafe w ⟨b, 0, none⟩ Tryd.underlying107 Tryd.underlying95 hj hsh b_lies]
    simp only [Result.andThen]
    rw [Oper.upon_value]
    go_wp2
    go_end0
    exact ⟨rfl, HH.out.used _, (Below.refl B w).setCell (p := ⟨b, 0, none⟩) HH.out.1 _, (Lib.OthersKept.refl _ _ w).setCell ⟨b, 0, none⟩ rfl _⟩
  · have c0 := h.cell0
    have HH := Lib.hid h
    clear h
    go_enter Tryd.func120, Tryd.ntmps120
    go_wp2
    rw [Lib.run_neq_ptr_same w _ Tryd.underlying95 hj]
    go_wp2
    go_end0
    exact ⟨rfl, HH.out, Below.refl B _, Lib.OthersKept.refl _ _ _⟩
theorem u8_parts : (Tryd.prog.info? 5).map (fun i => (i.zero, i.size, i.bytes)) = some (some (.int .u8 0), 1, 1) := u8_info
theorem lt_block {w : World} {b : Nat} {o : Obj} (h : w.heap[b]? = some o) : b < w.heap.size := (Array.getElem?_eq_some_iff.1 h).1

set_option maxHeartbeats 2000000 in
set_option maxRecDepth 100000 in
theorem WB_any (B b : Nat) (l : List UInt8) (x : UInt8) (w : World) (h : Bu B b l w) (hl : l.length ≤ 1000000) (hB : B ≤ w.heap.size) :
    Calls Tryd.prog 114 #[.pointer (some ⟨b, 0, none⟩), .int .u8 (x.toNat : Int)] w fun e w' => e = .returned .nilIface ∧ Bu B b (l ++ [x]) w' ∧ Below B w w' ∧ Ok b w w' := by
  obtain ⟨i0, hi, hz0, hz1, hz2⟩ := info_parts u8_parts
  have HC := Lib.hid (copyCheck_any B b _ w h)
  have hbl := bytes_len l
  have HE : Hid (Lib.byteCells (l ++ [x]) = Lib.byteCells l ++ [.int .u8 (x.toNat : Int)]) := Lib.hid (by simp [Lib.byteCells])
  clear h
  obtain ⟨c, hc⟩ : ∃ c : Int, (x.toNat : Int) = c := ⟨_, rfl⟩
  rw [hc] at HE ⊢
  clear hc
  obtain ⟨bs, hbs⟩ : ∃ bs, Lib.byteCells l = bs := ⟨_, rfl⟩
  rw [hbs] at HC HE hbl
  have hbl2 : bs.length ≤ 1000000 := by omega
  clear hbs hbl hl
  go_enter Tryd.func114, Tryd.ntmps114
  go_wp2_with fail
  refine HC.out.mono ?_
  rintro e w1 ⟨rfl, ⟨hBb, v, hbk, hown, hne⟩, hb1, hk1⟩
  have c0 : w1.cell? ⟨b, 0, none⟩ = some (.pointer (some ⟨b, 0, none⟩)) := by rw [Lib.cell_of_heap hbk]; rfl
  have c1 : w1.cell? ⟨b, 1, none⟩ = some v := by rw [Lib.cell_of_heap hbk]; rfl
  have hs1 := hb1.size
  have hlt := lt_block hbk
  have HK := Lib.hid hk1
  have HBl := Lib.hid hb1
  have HBk := Lib.hid hbk
  have HO := Lib.hid hown
  clear hk1 hb1 hbk
  go_wp2_with (at_builtin; refine wpList_append_ownF _ rfl _ _ 57 rfl B 5 i0 (.int .u8 0) 1 1 Tryd.underlying57 hi hz0 hz1 hz2 rfl (by decide) _ _ _ rfl (hown.alloc _) ⟨w1.heap.size, 0, none⟩ 1 1 [.int .u8 c] rfl rfl (cell_one_new _ _ _) (by simp [Value.oneCell']) (by unfold maxLen; omega) (by omega) (by simp; omega) ?_)
  intro v' w2 hown' hgrow _
  have hb2 : w2.heap[b]? = some (.cells #[.pointer (some ⟨b, 0, none⟩), v] 97 (0, 0)) := by
    rw [hgrow.block b (by simp; omega) (fun e => hne e.symm), Lib.alloc_old w1 _ b hlt]
    exact HBk.out
  have d0 : w2.cell? ⟨b, 0, none⟩ = some (.pointer (some ⟨b, 0, none⟩)) := by rw [Lib.cell_of_heap hb2]; rfl
  have d1 : w2.cell? ⟨b, 1, none⟩ = some v := by rw [Lib.cell_of_heap hb2]; rfl
  have f1 : w2.frozen? ⟨b, 1, none⟩ = false := Lib.frozen_of_heap hb2 1
  obtain ⟨g, cap, rfl⟩ : ∃ g cap, v' = .slice (some ⟨g, 0, none⟩) (bs.length + 1) cap := by
    rcases hown'.2 with ⟨_, h0⟩ | ⟨g, cap, cur, fz, hv, _⟩
    · omega
    · exact ⟨g, cap, hv⟩
  have HA := Lib.hid (Lib.BuilderAtF.put (T := 97) (e := 5) hBb hb2 (bs' := bs ++ [.int .u8 c]) (by simpa using hown') (by decide))
  have HKK := Lib.hid (((HK.out.alloc (.cells #[.int .u8 c] 5)).grown hgrow (Lib.ownsRowF_kind (HO.out.alloc _))).setCell ⟨b, 1, none⟩ rfl (.slice (some ⟨g, 0, none⟩) (bs.length + 1) cap))
  have HBB := Lib.hid (((HBl.out.alloc (by omega) (.cells #[.int .u8 c] 5)).grown hgrow (by simp; omega) (fun k hk => (HO.out.lt k hk).1)).setCell (p := ⟨b, 1, none⟩) hBb (.slice (some ⟨g, 0, none⟩) (bs.length + 1) cap))
  clear hown' hgrow hb2 hown
  go_wp2
  go_ret
  exact ⟨rfl, .inr (by rw [HE.out]; exact HA.out), HBB.out, HKK.out⟩

set_option maxHeartbeats 2000000 in
set_option maxRecDepth 100000 in
theorem WS_any (B b : Nat) (l : List UInt8) (s : ByteArray) (w : World) (h : Bu B b l w) (hl : l.length + s.size ≤ 1000000) (hB : B ≤ w.heap.size) :
    Calls Tryd.prog 115 #[.pointer (some ⟨b, 0, none⟩), .string s] w fun e w' => e = .returned (.tuple #[.int .i64 s.size, .nilIface]) ∧ Bu B b (l ++ s.data.toList) w' ∧ Below B w w' ∧ Ok b w w' := by
  obtain ⟨i0, hi, hz0, hz1, hz2⟩ := info_parts u8_parts
  have HC := Lib.hid (copyCheck_any B b _ w h)
  have hbl := bytes_len l
  have HE : Hid (Lib.byteCells (l ++ s.data.toList) = Lib.byteCells l ++ Lib.strCells s) := Lib.hid (by simp [Lib.byteCells, Lib.strCells])
  clear h
  obtain ⟨bs, hbs⟩ : ∃ bs, Lib.byteCells l = bs := ⟨_, rfl⟩
  rw [hbs] at HC HE hbl
  have hbl2 : bs.length + s.size ≤ 1000000 := by omega
  clear hbs hbl hl
  go_enter Tryd.func115, Tryd.ntmps115
  go_wp2_with fail
  refine HC.out.mono ?_
  rintro e w1 ⟨rfl, ⟨hBb, v, hbk, hown, hne⟩, hb1, hk1⟩
  have c0 : w1.cell? ⟨b, 0, none⟩ = some (.pointer (some ⟨b, 0, none⟩)) := by rw [Lib.cell_of_heap hbk]; rfl
  have c1 : w1.cell? ⟨b, 1, none⟩ = some v := by rw [Lib.cell_of_heap hbk]; rfl
  have hs1 := hb1.size
  have hlt := lt_block hbk
  have HK := Lib.hid hk1
  have HBl := Lib.hid hb1
  have HBk := Lib.hid hbk
  have HO := Lib.hid hown
  clear hk1 hb1 hbk
  go_wp2_with (at_builtin; refine Lib.wpList_append_own_stringF _ rfl _ _ 57 9 rfl B 5 i0 Tryd.underlying57 Tryd.underlying9 hi hz0 hz1 hz2 _ _ _ rfl hown s rfl (by unfold maxLen; omega) (by omega) (by omega) ?_)
  intro v' w2 hown' hgrow _
  have hb2 : w2.heap[b]? = some (.cells #[.pointer (some ⟨b, 0, none⟩), v] 97 (0, 0)) := by
    rw [hgrow.block b hlt (fun e => hne e.symm)]
    exact HBk.out
  have d0 : w2.cell? ⟨b, 0, none⟩ = some (.pointer (some ⟨b, 0, none⟩)) := by rw [Lib.cell_of_heap hb2]; rfl
  have d1 : w2.cell? ⟨b, 1, none⟩ = some v := by rw [Lib.cell_of_heap hb2]; rfl
  have f1 : w2.frozen? ⟨b, 1, none⟩ = false := Lib.frozen_of_heap hb2 1
  obtain ⟨ao, n', cap, rfl⟩ : ∃ ao n' cap, v' = .slice ao n' cap := by
    rcases hown'.2 with ⟨hv, _⟩ | ⟨g, cap, cur, fz, hv, _⟩
    · exact ⟨_, _, _, hv⟩
    · exact ⟨_, _, _, hv⟩
  have HA := Lib.hid (Lib.BuilderAtF.put (T := 97) (e := 5) hBb hb2 (bs' := bs ++ Lib.strCells s) (by simpa [Lib.strCells_length] using hown') (by decide))
  have HKK := Lib.hid ((HK.out.grown hgrow (Lib.ownsRowF_kind HO.out)).setCell ⟨b, 1, none⟩ rfl (.slice ao n' cap))
  have HBB := Lib.hid ((HBl.out.grown hgrow (by omega) (fun k hk => (HO.out.lt k hk).1)).setCell (p := ⟨b, 1, none⟩) hBb (.slice ao n' cap))
  clear hown' hgrow hb2 hown
  go_wp2
  go_ret2
  exact ⟨rfl, .inr (by rw [HE.out]; exact HA.out), HBB.out, HKK.out⟩
theorem Str_any (B b : Nat) (l : List UInt8) (w : World) (h : Bu B b l w) (hB : B ≤ w.heap.size) :
    Calls Tryd.prog 117 #[.pointer (some ⟨b, 0, none⟩)] w fun e w' => e = .returned (.string ⟨l.toArray⟩) ∧ Below B w w' :=
  (Any.Builder_String_any_k Tryd.laysStr Tryd.extraStr B b l w h hB).mono fun _ _ ⟨he, _, h2, _⟩ => ⟨he, h2⟩
end Go.Proofs.YtbeaohnjifcgaaaDoor.Bh
