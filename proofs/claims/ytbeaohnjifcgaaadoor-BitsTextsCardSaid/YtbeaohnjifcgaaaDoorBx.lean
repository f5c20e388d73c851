/-
  Fields of bits: the program's text. (made by mk_br.py)
-/
import Derived.Test.YtbeaohnjifcgaaaDoorBq
namespace Go.Proofs.YtbeaohnjifcgaaaDoor.Bh
open Go Go.RowKit Go.Shelf Go.Proofs.YtbeaohnjifcgaaaDoor.Sx Go.Proofs.YtbeaohnjifcgaaaDoor.Na Go.Proofs.YtbeaohnjifcgaaaDoor.Ba

def item (k : Nat) (p : Nat × Nat) : List UInt8 := (if k = 0 then [] else [44]) ++ (Hh.dec p.1).data.toList ++ (if 1 < p.2 then 45 :: (Hh.dec (p.1 + p.2 - 1)).data.toList else [])
/-- the text of the first k runs -/
def txk (l : List (Nat × Nat)) : Nat → List UInt8
  | 0 => []
  | k + 1 => txk l k ++ item k (l.getD k (0, 0))
theorem dec_len (k : Nat) (h : k ≤ 10000) : (Hh.dec k).data.toList.length ≤ 30 := by
  have := Hh.dec_size k (by omega)
  rwa [Array.length_toList]
theorem item_len (k : Nat) (p : Nat × Nat) (h : p.1 + p.2 ≤ 5000) : (item k p).length ≤ 70 := by
  have h1 := dec_len p.1 (by omega)
  have h2 := dec_len (p.1 + p.2 - 1) (by omega)
  unfold item
  rw [List.length_append, List.length_append]
  have h3 : (if k = 0 then ([] : List UInt8) else [44]).length ≤ 1 := by split <;> simp
  have h4 : (if 1 < p.2 then (45 : UInt8) :: (Hh.dec (p.1 + p.2 - 1)).data.toList else []).length ≤ 31 := by
    split
    · rw [List.length_cons]; omega
    · simp
  omega
theorem getD_mem {l : List (Nat × Nat)} {k : Nat} (h : k < l.length) : l.getD k (0, 0) ∈ l := by
  simp [List.getD, h]
theorem txk_len (l : List (Nat × Nat)) (hl : ∀ p ∈ l, p.1 + p.2 ≤ 5000) : ∀ k, k ≤ l.length → (txk l k).length ≤ 70 * k := by
  intro k
  induction k with
  | zero => intro _; simp [txk]
  | succ k ih =>
    intro h
    have := ih (by omega)
    have := item_len k _ (hl _ (getD_mem (show k < l.length by omega)))
    rw [txk, List.length_append]
    omega
theorem rC_get (l : List (Nat × Nat)) : ∀ j, j < l.length → (rC l)[j * 2]? = some (.int .i64 ((l.getD j (0, 0)).1 : Int)) ∧ (rC l)[j * 2 + 1]? = some (.int .i64 ((l.getD j (0, 0)).2 : Int)) := by
  induction l with
  | nil => intro j h; simp at h
  | cons p l ih =>
    intro j h
    have e : rC (p :: l) = .int .i64 (p.1 : Int) :: .int .i64 (p.2 : Int) :: rC l := by simp [rC]
    rw [e]
    cases j with
    | zero => exact ⟨rfl, rfl⟩
    | succ j =>
      have := ih j (by simpa using h)
      rw [show (j + 1) * 2 = j * 2 + 1 + 1 by omega]
      simpa using this

/-- the runs lie somewhere above the builder -/
def RU (W : World) (b : Nat) (a : Option Addr) (l : List (Nat × Nat)) : Prop := 0 < l.length → ∃ g cur, a = some ⟨g, 0, none⟩ ∧ b < g ∧ W.heap[g]? = some (.cells cur 85 (0, 0)) ∧ ∀ j, j < l.length → cur[j * 2]? = some (.int .i64 ((l.getD j (0, 0)).1 : Int)) ∧ cur[j * 2 + 1]? = some (.int .i64 ((l.getD j (0, 0)).2 : Int))
theorem RU.of_ {W : World} {base b : Nat} {v : Value} {l : List (Nat × Nat)} (h : OU W base v l) (hb : b < base) : ∃ a cap, v = .slice a l.length cap ∧ RU W b a l := by
  obtain ⟨h1, ⟨rfl, h2⟩ | ⟨g, cap, cur, rfl, hbg, hh, hn, hc, hz, ht⟩⟩ := h
  · exact ⟨none, 0, by rw [h2], fun h => absurd h (by omega)⟩
  · refine ⟨_, cap, rfl, fun h0 => ⟨g, cur, rfl, by omega, hh, fun j hj => ?_⟩⟩
    have e : ∀ i, i < l.length * 2 → cur[i]? = (rC l)[i]? := fun i hi => by
      rw [← ht, List.getElem?_take_of_lt hi, Array.getElem?_toList]
    rw [e _ (by omega), e _ (by omega)]
    exact rC_get l j hj
theorem run_ne (c : Array Value) (fz : Nat × Nat) (cur : Array Value) : Obj.cells cur 85 (0, 0) ≠ .cells c 5 fz := by
  intro h
  injection h with _ h2
  exact absurd h2 (by decide)
theorem RU.ok {W W' : World} {b : Nat} {a : Option Addr} {l : List (Nat × Nat)} (h : RU W b a l) (ho : Ok b W W') : RU W' b a l := fun h0 => by
  obtain ⟨g, cur, e, hb, hh, hc⟩ := h h0
  exact ⟨g, cur, e, hb, ho g _ hh (by simp; omega) (fun c fz => run_ne c fz cur), hc⟩
theorem RU.gb {W W' : World} {b : Nat} {a : Option Addr} {l : List (Nat × Nat)} (h : RU W b a l) (hg : W.grownBy W' none) : RU W' b a l := fun h0 => by
  obtain ⟨g, cur, e, hb, hh, hc⟩ := h h0
  exact ⟨g, cur, e, hb, gb_block hg hh (by simp), hc⟩

/-- within a round of text: r lies in block R -/
structure TS (w : World) (a : Option Addr) (l : List (Nat × Nat)) (R f c : Nat) (acc : List UInt8) (W : World) : Prop where
  bu : Bu w.heap.size w.heap.size acc W
  be : Below w.heap.size w W
  ru : RU W w.heap.size a l
  ne : R ≠ w.heap.size
  rb : W.heap[R]? = some (.cells #[.int .i64 (f : Int), .int .i64 (c : Int)] 85 (0, 0))
section
variable {w W W' : World} {a : Option Addr} {l : List (Nat × Nat)} {R f c : Nat} {acc acc' : List UInt8}
theorem TS.ok (h : TS w a l R f c acc W) (h1 : Bu w.heap.size w.heap.size acc' W') (h2 : Below w.heap.size W W') (h3 : Ok w.heap.size W W') : TS w a l R f c acc' W' :=
  ⟨h1, h.be.trans h2, h.ru.ok h3, h.ne, h3 R _ h.rb (by simpa using h.ne) (fun _ fz => run_ne _ fz _)⟩
theorem TS.gb (h : TS w a l R f c acc W) (hg : W.grownBy W' none) : TS w a l R f c acc W' :=
  ⟨h.bu.grow hg, h.be.grown hg h.be.size (fun _ e => by cases e), h.ru.gb hg, h.ne, gb_block hg h.rb (by simp)⟩
theorem TS.c0 (h : TS w a l R f c acc W) : W.cell? ⟨R, 0, none⟩ = some (.int .i64 (f : Int)) := cell_at h.rb rfl
theorem TS.c1 (h : TS w a l R f c acc W) : W.cell? ⟨R, 1, none⟩ = some (.int .i64 (c : Int)) := cell_at h.rb rfl
theorem TS.sz (h : TS w a l R f c acc W) : w.heap.size ≤ W.heap.size := h.be.size
theorem TS.tab (h : TS w a l R f c acc W) (ht : Hh.Tab w) : Hh.Tab W := ht.below h.be
end
theorem tab_new {w : World} (ht : Hh.Tab w) {W : World} (h : Below w.heap.size w W) : Hh.Tab W := ht.below h
theorem gb_bel {a b : World} (h : Below a.heap.size a b) : a.grownBy b none := gb_below h none
theorem WB44 (B b : Nat) (l : List UInt8) (w : World) (h : Bu B b l w) (hl : l.length ≤ 1000000) (hB : B ≤ w.heap.size) :
    Calls Tryd.prog 114 #[.pointer (some ⟨b, 0, none⟩), .int .u8 44] w fun e w' => e = .returned .nilIface ∧ Bu B b (l ++ [44]) w' ∧ Below B w w' ∧ Ok b w w' := WB_any B b l 44 w h hl hB
theorem WB45 (B b : Nat) (l : List UInt8) (w : World) (h : Bu B b l w) (hl : l.length ≤ 1000000) (hB : B ≤ w.heap.size) :
    Calls Tryd.prog 114 #[.pointer (some ⟨b, 0, none⟩), .int .u8 45] w fun e w' => e = .returned .nilIface ∧ Bu B b (l ++ [45]) w' ∧ Below B w w' ∧ Ok b w w' := WB_any B b l 45 w h hl hB

/-- the text of a field -/
def txt (N : Nat) (s : ByteArray) : ByteArray := ⟨(txk (rnl (bt s) N) (rnl (bt s) N).length).toArray⟩

set_option maxRecDepth 1000000 in
set_option maxHeartbeats 4000000 in
theorem text_any (N : Nat) (s : ByteArray) (w : World) (hN : N ≤ 4096) (hN8 : N ≤ 8 * s.size) (hs : s.size ≤ 600) (ht : Hh.Tab w) :
    Calls Tryd.prog 93 #[.int .i64 (N : Int), .string s] w fun e w' => e = .returned (.string (txt N s)) ∧ Below w.heap.size w w' := by
  have HT := Lib.hid ht
  have HRN := Lib.hid (fun w => runs_any N s w hN8 hs)
  have hle := rnl_le (bt s) N
  have hll := rnl_len (bt s) N
  obtain ⟨r, hr⟩ : ∃ r, txt N s = r := ⟨_, rfl⟩
  have HR := Lib.hid hr
  unfold txt at HR
  rw [hr]
  obtain ⟨l, hl⟩ : ∃ l, rnl (bt s) N = l := ⟨_, rfl⟩
  rw [hl] at HR hle hll
  simp only [hl] at HRN
  have HTL : Hid (∀ k, k ≤ l.length → (txk l k).length ≤ 300000) := Lib.hid (fun k hk => by have := txk_len l (fun p hp => by have := hle p hp; omega) k hk; omega)
  have HLE := Lib.hid hle
  clear ht hr hl hle
  go_enter Tryd.func93, Tryd.ntmps93
  go_wp2_with fail
  refine (HRN.out _).mono ?_
  rintro e w1 ⟨v, rfl, hou, hbe⟩
  obtain ⟨a, cap, rfl, hru⟩ := RU.of_ (b := w.heap.size) hou (by simp)
  have hg0 : (w.alloc (.cells #[.pointer none, .slice none 0 0] 97)).grownBy w1 none := gb_below (by simpa using hbe) none
  have HBU : Hid (Bu w.heap.size w.heap.size (txk l 0) w1) := Lib.hid ((Bu.new w).grow hg0)
  have HBE : Hid (Below w.heap.size w w1) := Lib.hid (((Below.refl _ w).alloc (Nat.le_refl _) _).grown hg0 (by simp) (fun _ e => by cases e))
  have HRU := Lib.hid hru
  clear hou hbe hru hg0
  obtain ⟨len, hlen⟩ : ∃ len, l.length = len := ⟨_, rfl⟩
  have HLN := Lib.hid hlen
  rw [hlen] at hll ⊢
  clear hlen
  go_wp2_with fail
  go_loopw [6, 7, 12] (fun _ _ i wr => ∃ k : Nat, k ≤ len ∧ i = .int .i64 k ∧ Hid (Bu w.heap.size w.heap.size (txk l k) wr) ∧ Hid (Below w.heap.size w wr) ∧ Hid (RU wr w.heap.size a l)) (fun _ _ i _ => len - (intOf i).toNat)
  case atStart => exact ⟨0, Nat.zero_le _, rfl, HBU, HBE, HRU⟩
  case round =>
    clear HRN HBU HBE HRU
    obtain ⟨k, hk, rfl, HBk, HEk, HUk⟩ := hrel
    by_cases hlt : k < len
    · have hlt' : (k : Int) < (len : Int) := by omega
      obtain ⟨g, cur, rfl, hgb, hgh, hgc⟩ := HUk.out (by rw [HLN.out]; omega)
      have hc01 := hgc k (by rw [HLN.out]; exact hlt)
      have hmem := HLE.out _ (getD_mem (l := l) (k := k) (by rw [HLN.out]; exact hlt))
      obtain ⟨p, hp⟩ : ∃ p, l.getD k (0, 0) = p := ⟨_, rfl⟩
      rw [hp] at hc01 hmem
      have HTX : Hid (txk l (k + 1) = txk l k ++ item k p) := Lib.hid (by rw [txk, hp])
      obtain ⟨f, c⟩ := p
      have k0 : wr.cell? ⟨g, k * 2, none⟩ = some (.int .i64 (f : Int)) := cell_at hgh hc01.1
      have k1 : wr.cell? ⟨g, k * 2 + 1, none⟩ = some (.int .i64 (c : Int)) := cell_at hgh hc01.2
      simp only [] at hmem
      have h0 := HTL.out k (by rw [HLN.out]; exact hk)
      have d1 := dec_len f (by omega)
      have d2 := dec_len (f + c - 1) (by omega)
      have HI1 : Hid (∀ w, Hh.Tab w → Calls Tryd.prog 116 #[.int .i64 (f : Int)] w fun e w' => e = .returned (.string (Hh.dec f)) ∧ Below w.heap.size w w') := Lib.hid (fun w ht => Hh.Itoa_any f (by omega) w ht)
      have HG : Hid (w.heap.size < g) := Lib.hid hgb
      have HGH := Lib.hid hgh
      have HMM := Lib.hid hmem
      have hf5 : f ≤ 5000 := by omega
      have hc5 : c ≤ 5000 := by omega
      clear hgc hc01 hp hgh hgb hmem
      have hTS : Hid (TS w (some ⟨g, 0, none⟩) l wr.heap.size f c (txk l k) (wr.alloc (.cells #[.int .i64 (f : Int), .int .i64 (c : Int)] 85))) := Lib.hid
        ⟨HBk.out.grow (gb_alloc _ _ _), HEk.out.alloc HEk.out.size _, HUk.out.gb (gb_alloc _ _ _), by have := lt_block (show wr.heap[g]? = _ from HGH.out); have := HG.out; omega, World.alloc_heap_new _ _⟩
      by_cases hk0 : k = 0
      · subst hk0
        by_cases hc1 : 1 < c
        · have hc1' : (1 : Int) < (c : Int) := by omega
          have HIT : Hid (item 0 (f, c) = [] ++ (Hh.dec f).data.toList ++ 45 :: (Hh.dec (f + c - 1)).data.toList) := Lib.hid (by unfold item; rw [if_pos rfl, if_pos hc1])
          have HI2 : Hid (∀ w, Hh.Tab w → Calls Tryd.prog 116 #[.int .i64 ((f : Int) + (c : Int) - 1)] w fun e w' => e = .returned (.string (Hh.dec (f + c - 1))) ∧ Below w.heap.size w w') := Lib.hid (fun w ht => by
            have := Hh.Itoa_any (f + c - 1) (by omega) w ht
            rwa [show ((f + c - 1 : Nat) : Int) = (f : Int) + (c : Int) - 1 by omega] at this)
          have r0 := hTS.out.c0
          have r1 := hTS.out.c1
          go_wp2_with fail
          refine (HI1.out _ (hTS.out.tab HT.out)).mono ?_
          rintro e w2 ⟨rfl, hbx⟩
          have T1 := Lib.hid (hTS.out.gb (gb_bel hbx))
          clear hbx
          go_wp2_with fail
          refine (WS_any w.heap.size w.heap.size _ _ _ T1.out.bu (by first | omega | (simp only [List.length_append, List.length_cons, List.length_nil, ByteArray.size, ← Array.length_toList]; omega)) T1.out.sz).mono ?_
          rintro e w3 ⟨rfl, q1, q2, q3⟩
          have T2 := Lib.hid (T1.out.ok q1 q2 q3)
          have r0 := T2.out.c0
          have r1 := T2.out.c1
          clear q1 q2 q3
          go_wp2_with fail
          refine (WB45 w.heap.size w.heap.size _ _ T2.out.bu (by first | omega | (simp only [List.length_append, List.length_cons, List.length_nil]; omega)) T2.out.sz).mono ?_
          rintro e w4 ⟨rfl, q1, q2, q3⟩
          have T3 := Lib.hid (T2.out.ok q1 q2 q3)
          have r0 := T3.out.c0
          have r1 := T3.out.c1
          clear q1 q2 q3
          go_wp2_with fail
          refine (HI2.out _ (T3.out.tab HT.out)).mono ?_
          rintro e w5 ⟨rfl, hbx⟩
          have T4 := Lib.hid (T3.out.gb (gb_bel hbx))
          clear hbx
          go_wp2_with fail
          refine (WS_any w.heap.size w.heap.size _ _ _ T4.out.bu (by first | omega | (simp only [List.length_append, List.length_cons, List.length_nil, ByteArray.size, ← Array.length_toList]; omega)) T4.out.sz).mono ?_
          rintro e w6 ⟨rfl, q1, q2, q3⟩
          have T5 := Lib.hid (T4.out.ok q1 q2 q3)
          have r0 := T5.out.c0
          have r1 := T5.out.c1
          clear q1 q2 q3
          go_wp2_with fail
          exact ⟨⟨0 + 1, by omega, by go_num, Lib.hid (by rw [HTX.out, HIT.out]; simpa only [List.append_assoc, List.append_nil, List.nil_append, List.cons_append, List.singleton_append] using T5.out.bu), Lib.hid T5.out.be, Lib.hid T5.out.ru⟩, by simp [intOf]; omega⟩
        · have hc1' : (c : Int) ≤ 1 := by omega
          have HIT : Hid (item 0 (f, c) = [] ++ (Hh.dec f).data.toList ++ []) := Lib.hid (by unfold item; rw [if_pos rfl, if_neg hc1])
          have r0 := hTS.out.c0
          have r1 := hTS.out.c1
          go_wp2_with fail
          refine (HI1.out _ (hTS.out.tab HT.out)).mono ?_
          rintro e w2 ⟨rfl, hbx⟩
          have T1 := Lib.hid (hTS.out.gb (gb_bel hbx))
          clear hbx
          go_wp2_with fail
          refine (WS_any w.heap.size w.heap.size _ _ _ T1.out.bu (by first | omega | (simp only [List.length_append, List.length_cons, List.length_nil, ByteArray.size, ← Array.length_toList]; omega)) T1.out.sz).mono ?_
          rintro e w3 ⟨rfl, q1, q2, q3⟩
          have T2 := Lib.hid (T1.out.ok q1 q2 q3)
          have r0 := T2.out.c0
          have r1 := T2.out.c1
          clear q1 q2 q3
          go_wp2_with fail
          exact ⟨⟨0 + 1, by omega, by go_num, Lib.hid (by rw [HTX.out, HIT.out]; simpa only [List.append_assoc, List.append_nil, List.nil_append, List.cons_append, List.singleton_append] using T2.out.bu), Lib.hid T2.out.be, Lib.hid T2.out.ru⟩, by simp [intOf]; omega⟩
      · have hk0' : (0 : Int) < (k : Int) := by omega
        by_cases hc1 : 1 < c
        · have hc1' : (1 : Int) < (c : Int) := by omega
          have HIT : Hid (item k (f, c) = [44] ++ (Hh.dec f).data.toList ++ 45 :: (Hh.dec (f + c - 1)).data.toList) := Lib.hid (by unfold item; rw [if_neg hk0, if_pos hc1])
          have HI2 : Hid (∀ w, Hh.Tab w → Calls Tryd.prog 116 #[.int .i64 ((f : Int) + (c : Int) - 1)] w fun e w' => e = .returned (.string (Hh.dec (f + c - 1))) ∧ Below w.heap.size w w') := Lib.hid (fun w ht => by
            have := Hh.Itoa_any (f + c - 1) (by omega) w ht
            rwa [show ((f + c - 1 : Nat) : Int) = (f : Int) + (c : Int) - 1 by omega] at this)
          have r0 := hTS.out.c0
          have r1 := hTS.out.c1
          go_wp2_with fail
          refine (WB44 w.heap.size w.heap.size _ _ hTS.out.bu (by first | omega | (simp only [List.length_append, List.length_cons, List.length_nil]; omega)) hTS.out.sz).mono ?_
          rintro e w2 ⟨rfl, q1, q2, q3⟩
          have T1 := Lib.hid (hTS.out.ok q1 q2 q3)
          have r0 := T1.out.c0
          have r1 := T1.out.c1
          clear q1 q2 q3
          go_wp2_with fail
          refine (HI1.out _ (T1.out.tab HT.out)).mono ?_
          rintro e w3 ⟨rfl, hbx⟩
          have T2 := Lib.hid (T1.out.gb (gb_bel hbx))
          clear hbx
          go_wp2_with fail
          refine (WS_any w.heap.size w.heap.size _ _ _ T2.out.bu (by first | omega | (simp only [List.length_append, List.length_cons, List.length_nil, ByteArray.size, ← Array.length_toList]; omega)) T2.out.sz).mono ?_
          rintro e w4 ⟨rfl, q1, q2, q3⟩
          have T3 := Lib.hid (T2.out.ok q1 q2 q3)
          have r0 := T3.out.c0
          have r1 := T3.out.c1
          clear q1 q2 q3
          go_wp2_with fail
          refine (WB45 w.heap.size w.heap.size _ _ T3.out.bu (by first | omega | (simp only [List.length_append, List.length_cons, List.length_nil]; omega)) T3.out.sz).mono ?_
          rintro e w5 ⟨rfl, q1, q2, q3⟩
          have T4 := Lib.hid (T3.out.ok q1 q2 q3)
          have r0 := T4.out.c0
          have r1 := T4.out.c1
          clear q1 q2 q3
          go_wp2_with fail
          refine (HI2.out _ (T4.out.tab HT.out)).mono ?_
          rintro e w6 ⟨rfl, hbx⟩
          have T5 := Lib.hid (T4.out.gb (gb_bel hbx))
          clear hbx
          go_wp2_with fail
          refine (WS_any w.heap.size w.heap.size _ _ _ T5.out.bu (by first | omega | (simp only [List.length_append, List.length_cons, List.length_nil, ByteArray.size, ← Array.length_toList]; omega)) T5.out.sz).mono ?_
          rintro e w7 ⟨rfl, q1, q2, q3⟩
          have T6 := Lib.hid (T5.out.ok q1 q2 q3)
          have r0 := T6.out.c0
          have r1 := T6.out.c1
          clear q1 q2 q3
          go_wp2_with fail
          exact ⟨⟨k + 1, by omega, by go_num, Lib.hid (by rw [HTX.out, HIT.out]; simpa only [List.append_assoc, List.append_nil, List.nil_append, List.cons_append, List.singleton_append] using T6.out.bu), Lib.hid T6.out.be, Lib.hid T6.out.ru⟩, by simp [intOf]; omega⟩
        · have hc1' : (c : Int) ≤ 1 := by omega
          have HIT : Hid (item k (f, c) = [44] ++ (Hh.dec f).data.toList ++ []) := Lib.hid (by unfold item; rw [if_neg hk0, if_neg hc1])
          have r0 := hTS.out.c0
          have r1 := hTS.out.c1
          go_wp2_with fail
          refine (WB44 w.heap.size w.heap.size _ _ hTS.out.bu (by first | omega | (simp only [List.length_append, List.length_cons, List.length_nil]; omega)) hTS.out.sz).mono ?_
          rintro e w2 ⟨rfl, q1, q2, q3⟩
          have T1 := Lib.hid (hTS.out.ok q1 q2 q3)
          have r0 := T1.out.c0
          have r1 := T1.out.c1
          clear q1 q2 q3
          go_wp2_with fail
          refine (HI1.out _ (T1.out.tab HT.out)).mono ?_
          rintro e w3 ⟨rfl, hbx⟩
          have T2 := Lib.hid (T1.out.gb (gb_bel hbx))
          clear hbx
          go_wp2_with fail
          refine (WS_any w.heap.size w.heap.size _ _ _ T2.out.bu (by first | omega | (simp only [List.length_append, List.length_cons, List.length_nil, ByteArray.size, ← Array.length_toList]; omega)) T2.out.sz).mono ?_
          rintro e w4 ⟨rfl, q1, q2, q3⟩
          have T3 := Lib.hid (T2.out.ok q1 q2 q3)
          have r0 := T3.out.c0
          have r1 := T3.out.c1
          clear q1 q2 q3
          go_wp2_with fail
          exact ⟨⟨k + 1, by omega, by go_num, Lib.hid (by rw [HTX.out, HIT.out]; simpa only [List.append_assoc, List.append_nil, List.nil_append, List.cons_append, List.singleton_append] using T3.out.bu), Lib.hid T3.out.be, Lib.hid T3.out.ru⟩, by simp [intOf]; omega⟩
    · obtain rfl : k = len := by omega
      have HS := Lib.hid (Str_any w.heap.size w.heap.size _ wr HBk.out HEk.out.size)
      have HRR := HR.out
      rw [HLN.out] at HRR
      rw [HRR] at HS
      go_wp2_with fail
      refine HS.out.mono ?_
      rintro e w2 ⟨rfl, hb2⟩
      have HB2 := Lib.hid (HEk.out.trans hb2)
      clear hb2
      go_wp2
      go_ret
      exact ⟨rfl, HB2.out⟩
end Go.Proofs.YtbeaohnjifcgaaaDoor.Bh
