/-
  Texts of bits: cuts at a byte; the reference's Cut.
-/
import Derived.Test.YtbeaohnjifcgaaaDoorDc
namespace Go.Proofs.YtbeaohnjifcgaaaDoor.Db
open Go Go.RowKit Go.Shelf Go.Proofs.YtbeaohnjifcgaaaDoor.Sx Go.Proofs.YtbeaohnjifcgaaaDoor.Na Go.Proofs.YtbeaohnjifcgaaaDoor.Ba Go.Proofs.YtbeaohnjifcgaaaDoor.Bh Go.Proofs.YtbeaohnjifcgaaaDoor.Da

/-- a list of bytes cut at each byte c -/
def cutL (c : UInt8) : List UInt8 → List (List UInt8)
  | [] => [[]]
  | b :: t => if b = c then [] :: cutL c t else (b :: (cutL c t).headD []) :: (cutL c t).tail
theorem cutL_none (c : UInt8) (p : List UInt8) (h : c ∉ p) : cutL c p = [p] := by
  induction p with
  | nil => rfl
  | cons b t ih =>
    rw [cutL, if_neg (fun e => h (by rw [e]; exact List.mem_cons_self ..)), ih (fun m => h (List.mem_cons_of_mem _ m))]
    rfl
theorem cutL_hit (c : UInt8) (p t : List UInt8) (h : c ∉ p) : cutL c (p ++ c :: t) = p :: cutL c t := by
  induction p with
  | nil => rw [List.nil_append, cutL, if_pos rfl]
  | cons b q ih =>
    rw [List.cons_append, cutL, if_neg (fun e => h (by rw [e]; exact List.mem_cons_self ..)), ih (fun m => h (List.mem_cons_of_mem _ m))]
    rfl
theorem cutL_ne (c : UInt8) (l : List UInt8) : cutL c l ≠ [] := by
  cases l with
  | nil => simp [cutL]
  | cons b t => rw [cutL]; split <;> simp
/-- a cut of pieces without c, joined by c, gives the pieces -/
def joinL (c : UInt8) : List (List UInt8) → List UInt8
  | [] => []
  | [p] => p
  | p :: q :: r => p ++ c :: joinL c (q :: r)
theorem cutL_join (c : UInt8) (l : List (List UInt8)) (h0 : l ≠ []) (h : ∀ p ∈ l, c ∉ p) : cutL c (joinL c l) = l := by
  induction l with
  | nil => exact absurd rfl h0
  | cons p r ih =>
    cases r with
    | nil => exact cutL_none c p (h p (List.mem_cons_self ..))
    | cons q r =>
      rw [joinL, cutL_hit c p _ (h p (List.mem_cons_self ..)), ih (by simp) (fun x hx => h x (List.mem_cons_of_mem _ hx))]
/-- bytes as a text -/
def tx (l : List UInt8) : ByteArray := ⟨l.toArray⟩
theorem tx_data (l : List UInt8) : (tx l).data.toList = l := rfl

theorem str_info : (Tryd.prog.info? 9).map (fun i => (i.zero, i.size, i.bytes)) = some (some (.string ⟨#[]⟩), 1, 16) := by kernel_rfl
/-- a row of texts of the call's own -/
def OS (w : World) (base : Nat) (v : Value) (l : List (List UInt8)) : Prop := w.ownsRow base 9 1 v l.length (l.map fun p => Value.string (tx p))
theorem OS.nil_ (w : World) (base : Nat) : OS w base (.slice none 0 0) [] := ⟨rfl, .inl ⟨rfl, rfl⟩⟩
theorem OS.alloc_ {w : World} {base : Nat} {v : Value} {l : List (List UInt8)} (h : OS w base v l) (o : Obj) : OS (w.alloc o) base v l := World.ownsRow.alloc h o
theorem OS.drewN_ {w : World} {base : Nat} {v : Value} {l : List (List UInt8)} (h : OS w base v l) (n : Nat) : OS (w.drewN n) base v l := h
theorem OS.grow_ {w w1 w2 : World} {base : Nat} {v : Value} {l : List (List UInt8)} (h : OS w1 base v l) (hb : Below base w w1) (hg : w1.grownBy w2 v.ownBlock) (hs : base ≤ w1.heap.size) : Below base w w2 :=
  hb.grown hg hs (fun k e => (World.ownsRow.lt (n := l.length) h k e).1)
theorem OS.snoc {w : World} {base n : Nat} {v : Value} {l : List (List UInt8)} {p : List UInt8} {x : ByteArray} (hx : x = tx p) (hn : l.length + 1 = n) (h : w.ownsRow base 9 1 v n ((l.map fun p => Value.string (tx p)) ++ [.string x])) : OS w base v (l ++ [p]) := by
  subst hx hn
  unfold OS
  rw [List.length_append, List.map_append]
  exact h
/-- what is left to be cut -/
theorem left_hit {c : UInt8} {l : List UInt8} {f k : Nat} (hfk : f ≤ k) (hk : l[k]? = some c) (h : c ∉ (l.drop f).take (k - f)) : cutL c (l.drop f) = (l.drop f).take (k - f) :: cutL c (l.drop (k + 1)) := by
  have hkl : k < l.length := (List.getElem?_eq_some_iff.1 hk).1
  have e : l.drop f = (l.drop f).take (k - f) ++ c :: l.drop (k + 1) := by
    conv => lhs; rw [← List.take_append_drop (k - f) (l.drop f)]
    rw [List.drop_drop, show f + (k - f) = k by omega, List.drop_eq_getElem_cons hkl]
    congr 2
    exact (List.getElem?_eq_some_iff.1 hk).2
  conv => lhs; rw [e]
  exact cutL_hit c _ _ h
theorem ext_tx (s : ByteArray) (f k : Nat) : s.extract f k = tx ((s.data.toList.drop f).take (k - f)) := by
  apply bx
  rw [tx_data, ByteArray.data_extract, Array.toList_extract, List.extract_eq_take_drop]
theorem ext_all (s : ByteArray) (f : Nat) : s.extract f s.size = tx (s.data.toList.drop f) := by
  rw [ext_tx, List.take_of_length_le (by rw [List.length_drop, len_data]; omega)]
theorem by_some (s : ByteArray) (k : Nat) (h : k < s.size) : s.data.toList[k]? = some (s.data.toList.getD k 0) := by
  have h' : k < s.data.toList.length := by rw [len_data]; exact h
  rw [List.getD, List.getElem?_eq_getElem h']
  rfl

set_option maxRecDepth 1000000 in
set_option maxHeartbeats 2000000 in
theorem Cut_any (s : ByteArray) (c : UInt8) (w : World) (hs : s.size ≤ 100000) :
    Calls Tryd.prog 101 #[.string s, .int .u8 (c.toNat : Int)] w fun e w' => ∃ v, e = .returned v ∧ OS w' w.heap.size v (cutL c s.data.toList) ∧ Below w.heap.size w w' := by
  obtain ⟨i0, hi, hz0, hz1, hz2⟩ := info_parts str_info
  obtain ⟨R, hR⟩ : ∃ R, cutL c s.data.toList = R := ⟨_, rfl⟩
  rw [hR]
  have HR0 : Hid ([] ++ cutL c (s.data.toList.drop 0) = R) := Lib.hid hR
  clear hR
  go_enter Tryd.func101, Tryd.ntmps101
  go_wp2_with fail
  go_loopw [5, 6, 7, 10] (fun v fr _ i wr => ∃ (k f : Nat) (l : List (List UInt8)), k ≤ s.size ∧ f ≤ k ∧ l.length ≤ k ∧ i = .int .i64 (k : Int) ∧ fr = .int .i64 (f : Int) ∧ OS wr w.heap.size v l ∧ Below w.heap.size w wr ∧ Hid (l ++ cutL c (s.data.toList.drop f) = R) ∧ Hid (c ∉ (s.data.toList.drop f).take (k - f))) (fun _ _ _ i _ => s.size - (intOf i).toNat)
  case atStart => exact ⟨0, 0, [], by omega, by omega, by simp, rfl, rfl, OS.nil_ _ _, Below.refl _ _, HR0, Lib.hid (by simp)⟩
  case round =>
    obtain ⟨k, f, l, hk, hfk, hlk, rfl, rfl, hown, hbl, HR, HN⟩ := hrel
    have hsz := hbl.size
    have hf1 : (f : Int) ≤ (k : Int) := by omega
    by_cases hlt : k < s.size
    · have hb := by_at s k hlt
      have hlt' : (k : Int) < (s.size : Int) := by omega
      have hks : (k : Int) ≤ (s.size : Int) := by omega
      have hbs := by_some s k hlt
      obtain ⟨b, hbb⟩ : ∃ b, s.data.toList.getD k 0 = b := ⟨_, rfl⟩
      have hbn : by_ s k = b.toNat := by unfold by_; rw [hbb]
      rw [hbn] at hb
      rw [hbb] at hbs
      by_cases hbc : b = c
      · subst hbc
        have HE := Lib.hid (left_hit hfk hbs HN.out)
        have HX := Lib.hid (ext_tx s f k)
        clear hbb hbn hbs
        have hown1 := hown.alloc_ (.cells #[.string (s.extract f k)] 9)
        have hbl1 := hbl.alloc hsz (.cells #[.string (s.extract f k)] 9)
        have hs1 : w.heap.size ≤ (wr.alloc (.cells #[.string (s.extract f k)] 9)).heap.size := by simp; omega
        have HR2 : Hid ((l ++ [(s.data.toList.drop f).take (k - f)]) ++ cutL b (s.data.toList.drop (k + 1)) = R) := Lib.hid (by rw [← HR.out, HE.out, List.append_assoc]; rfl)
        have HN2 : Hid (b ∉ (s.data.toList.drop (k + 1)).take (k + 1 - (k + 1))) := Lib.hid (by rw [Nat.sub_self]; simp)
        go_wp2_with (at_builtin; refine wpList_append_own_at _ rfl _ _ 88 rfl w.heap.size 9 i0 (.string ⟨#[]⟩) 1 16 Tryd.underlying88 hi hz0 hz1 hz2 rfl (by decide) _ _ _ rfl hown1 ⟨wr.heap.size, 0, none⟩ 1 1 [.string (s.extract f k)] rfl rfl (cell_one_new _ _ _) (by simp [Value.oneCell']) (by unfold maxLen; omega) (by omega) hs1 ?_; intro v' w2 hown' hgrow _ hat; have hbl2 := hown1.grow_ hbl1 hgrow hs1)
        exact ⟨⟨k + 1, k + 1, _, by omega, by omega, by rw [List.length_append]; simp; omega, by go_num, by go_num, OS.snoc HX.out rfl hown', hbl2, HR2, HN2⟩, by simp [intOf]; omega⟩
      · have hcc : ((b.toNat : Int) == (c.toNat : Int)) = false := by
          rw [beq_eq_false_iff_ne]; intro e; exact hbc (UInt8.toNat_inj.1 (by omega))
        have hcc2 : ¬ (b.toNat : Int) = (c.toNat : Int) := fun e => hbc (UInt8.toNat_inj.1 (by omega))
        have HN2 : Hid (c ∉ (s.data.toList.drop f).take (k + 1 - f)) := Lib.hid (by
          rw [show k + 1 - f = (k - f) + 1 by omega, List.take_add_one, List.getElem?_drop, show f + (k - f) = k by omega, hbs]
          intro hm
          rcases List.mem_append.1 hm with hm | hm
          · exact HN.out hm
          · simp at hm; exact hbc hm.symm)
        clear hbb hbn hbs
        go_wp2_with fail
        exact ⟨⟨k + 1, f, l, by omega, by omega, by omega, by go_num, rfl, hown, hbl, HR, HN2⟩, by simp [intOf]; omega⟩
    · obtain rfl : k = s.size := by omega
      have hnlt : ¬ ((s.size : Int) < (s.size : Int)) := by omega
      have HX := Lib.hid (ext_all s f)
      have HR2 : Hid (l ++ [s.data.toList.drop f] = R) := Lib.hid (by
        rw [← HR.out, cutL_none]
        have := HN.out
        rwa [List.take_of_length_le (by rw [List.length_drop, len_data]; omega)] at this)
      have hown1 := hown.alloc_ (.cells #[.string (s.extract f s.size)] 9)
      have hbl1 := hbl.alloc hsz (.cells #[.string (s.extract f s.size)] 9)
      have hs1 : w.heap.size ≤ (wr.alloc (.cells #[.string (s.extract f s.size)] 9)).heap.size := by simp; omega
      go_wp2_with (at_builtin; refine wpList_append_own_at _ rfl _ _ 88 rfl w.heap.size 9 i0 (.string ⟨#[]⟩) 1 16 Tryd.underlying88 hi hz0 hz1 hz2 rfl (by decide) _ _ _ rfl hown1 ⟨wr.heap.size, 0, none⟩ 1 1 [.string (s.extract f s.size)] rfl rfl (cell_one_new _ _ _) (by simp [Value.oneCell']) (by unfold maxLen; omega) (by omega) hs1 ?_; intro v' w2 hown' hgrow _ hat; have hbl2 := hown1.grow_ hbl1 hgrow hs1)
      go_ret
      exact ⟨_, rfl, by rw [← HR2.out]; exact OS.snoc HX.out rfl hown', hbl2⟩
end Go.Proofs.YtbeaohnjifcgaaaDoor.Db
