/-
  Nodes: the reference's SameNodes.
-/
import Derived.Test.YthlkpbpcfkgljaaAt
import Derived.Test.YthlkpbpcfkgljaaAl
import Derived.Test.YthlkpbpcfkgljaaRg
import Derived.Deep.AppendLies
import Derived.Deep.RegionLaw
set_option linter.unusedVariables false
namespace Go.Proofs.Ythlkpbpcfkgljaa.Ac
open Go Go.RowKit Go.Proofs.Ythlkpbpcfkgljaa.Hz Go.Proofs.Ythlkpbpcfkgljaa.Sx

theorem same_len (a : Option Addr) (len cap : Nat) (b : Option Addr) (len' cap' : Nat) (w : World) (hl : len ≤ 100000) (hl' : len' ≤ 100000) (hne : len ≠ len') :
    Calls Try.prog 7 #[.slice a len cap, .slice b len' cap'] w fun e w' => e = .returned (.bool false) ∧ Below w.heap.size w w' := by
  have h1 : ((len : Int) != (len' : Int)) = true := by simp; omega
  go_enter Try.func7, Try.ntmps7
  go_wp2
  go_ret
  exact ⟨rfl, Below.refl _ _⟩

set_option maxRecDepth 100000 in
set_option maxHeartbeats 2000000 in
theorem same_eq (a : Option Addr) (len cap : Nat) (b : Option Addr) (cap' : Nat) (N : Nat → Nod) (w : World) (hl : len ≤ 100000) (hN : NA w a len N) (hM : NA w b len N) :
    Calls Try.prog 7 #[.slice a len cap, .slice b len cap'] w fun e w' => e = .returned (.bool true) ∧ Below w.heap.size w w' := by
  have HN := Lib.hid hN
  have HM := Lib.hid hM
  clear hN hM
  go_enter Try.func7, Try.ntmps7
  go_wp2_with fail
  go_loopw [13] (fun i wr => ∃ (k : Nat), k ≤ len ∧ i = .int .i64 (k : Int) ∧ Hid (Below w.heap.size w wr)) (fun i _ => len - (intOf i).toNat)
  case atStart => exact ⟨0, Nat.zero_le _, rfl, Lib.hid (Below.refl _ _)⟩
  case round =>
    obtain ⟨k, hk, rfl, HB⟩ := hrel
    by_cases hkl : k < len
    · obtain ⟨p, off, rfl, hb, hc⟩ := HN.out.below HB.out (by omega)
      obtain ⟨c0, c1, c2, c3⟩ := hc k hkl
      clear hc
      obtain ⟨q, off', rfl, hb', hc⟩ := HM.out.below HB.out (by omega)
      obtain ⟨d0, d1, d2, d3⟩ := hc k hkl
      clear hc
      have g1 : (0 : Int) ≤ (k : Int) := by omega
      have g2 : (k : Int) < (len : Int) := by omega
      generalize N k = n at c0 c1 c2 c3 d0 d1 d2 d3
      go_wp2_with fail
      go_region
      all_goals
        go_wp2_with fail
        exact ⟨⟨k + 1, by omega, by go_num, Lib.hid HB.out.drew⟩, by simp [intOf]; omega⟩
    · obtain rfl : k = len := by omega
      go_wp2_with fail
      go_ret
      exact ⟨rfl, HB.out⟩
end Go.Proofs.Ythlkpbpcfkgljaa.Ac

/-
  Nodes: plain words on Unpack: the pieces of a text.
-/
namespace Go.Proofs.Ythlkpbpcfkgljaa.Ac
open Go Go.RowKit Go.Proofs.Ythlkpbpcfkgljaa.Hz Go.Proofs.Ythlkpbpcfkgljaa.Sx

/-- how long a node's pack is -/
def uS (f : Int) : Nat := if f = 6 then 38 else 26
/-- what is left of the text behind i packs -/
def rst (t : ByteArray) (z i : Nat) : ByteArray := t.extract (i * z) t.size
/-- the pack of the address in the i-th -/
def pcs (t : ByteArray) (z i : Nat) : ByteArray := t.extract (i * z + 20) (i * z + z)
/-- the i-th node -/
def uNod (t : ByteArray) (z i : Nat) : Nod := ⟨t.extract (i * z) (i * z + 20), upF (pcs t z i), upI (pcs t z i), upP (pcs t z i)⟩
def Nod.cs (n : Nod) : List Value := [.string n.id, .int .i64 n.f, .string n.ip, .int .i64 n.p]
/-- the cells of the first k nodes -/
def ucs (t : ByteArray) (z : Nat) : Nat → List Value
  | 0 => []
  | k + 1 => ucs t z k ++ (uNod t z k).cs
theorem ucs_len (t : ByteArray) (z k : Nat) : (ucs t z k).length = k * 4 := by
  induction k with
  | zero => rfl
  | succ k ih => unfold ucs; rw [List.length_append, ih]; show k * 4 + 4 = _; omega

theorem rst_size (t : ByteArray) (z i : Nat) : (rst t z i).size = t.size - i * z := by unfold rst; rw [ByteArray.size_extract]; omega
theorem rst_zero (t : ByteArray) (z : Nat) : rst t z 0 = t := by unfold rst; rw [Nat.zero_mul]; exact ByteArray.extract_zero_size
theorem rst_end (t : ByteArray) (z i : Nat) (h : t.size ≤ i * z) : rst t z i = ⟨#[]⟩ := ByteArray.size_eq_zero_iff.1 (by rw [rst_size]; omega)
theorem rst_more (t : ByteArray) (z i : Nat) (h : i * z < t.size) : rst t z i ≠ ⟨#[]⟩ := fun e => by
  have := congrArg ByteArray.size e
  rw [rst_size] at this
  have h0 : (⟨#[]⟩ : ByteArray).size = 0 := rfl
  omega
theorem rst_piece (t : ByteArray) (z i : Nat) (h : i * z + z ≤ t.size) : (rst t z i).extract 20 z = pcs t z i := by
  unfold rst pcs
  rw [ByteArray.extract_extract, Nat.min_eq_left h]
theorem rst_id (t : ByteArray) (z i : Nat) (hz : 20 ≤ z) (h : i * z + z ≤ t.size) : (rst t z i).extract 0 20 = t.extract (i * z) (i * z + 20) := by
  unfold rst
  rw [ByteArray.extract_extract, Nat.min_eq_left (by omega), Nat.add_zero]
theorem rst_next (t : ByteArray) (z i : Nat) (h : i * z + z ≤ t.size) : (rst t z i).extract z (rst t z i).size = rst t z (i + 1) := by
  rw [rst_size]
  unfold rst
  rw [ByteArray.extract_extract, Nat.succ_mul, Nat.min_eq_right (by omega)]
/-- the Errno of Unpack: the first thing that is wrong -/
def unE (t : ByteArray) (f : Int) : Int := if f ≠ 4 ∧ f ≠ 6 then 7 else if t.size % uS f ≠ 0 then 11 else if ∀ i, i < t.size / uS f → upE (pcs t (uS f) i) = 0 then 0 else 12
end Go.Proofs.Ythlkpbpcfkgljaa.Ac

/-
  Nodes: the closure of the program's Unpack: the refusals ahead of the loop.
-/
namespace Go.Proofs.Ythlkpbpcfkgljaa.Ac
open Go Go.RowKit Go.Proofs.Ythlkpbpcfkgljaa.Hz Go.Proofs.Ythlkpbpcfkgljaa.Sx

theorem nrefuse_f (b : Bool) (hb : b = false) (k : Int) (w : World) : Calls Try.prog 16 #[.bool b, .int .i64 k] w fun e w' => e = .returned (.tuple #[]) ∧ w = w' := by
  subst hb; exact nrefuse_no k w
theorem nrefuse_t (b : Bool) (hb : b = true) (k : Int) (w : World) : Calls Try.prog 16 #[.bool b, .int .i64 k] w fun e w' => e = .panicked [{ v := .iface 24 (.int .i64 k), recovered := false }] ∧ w = w' := by
  subst hb; exact nrefuse_yes k w

set_option maxHeartbeats 1000000 in
theorem NUn_fam (t : ByteArray) (f : Int) (c d : Nat) (w : World) (kf : w.cell? ⟨c, 0, none⟩ = some (.int .i64 f)) (h4 : f ≠ 4) (h6 : f ≠ 6) :
    Calls Try.prog 15 #[.pointer (some ⟨c, 0, none⟩), .pointer (some ⟨d, 0, none⟩)] w fun e w' => e = .panicked [{ v := .iface 24 (.int .i64 7), recovered := false }] ∧ Below w.heap.size w w' := by
  have g4 : (f != 4) = true := by simpa using h4
  have g6 : (f != 6) = true := by simpa using h6
  go_enter Try.func15, Try.ntmps15
  go_wp2_with fail
  refine (nrefuse_yes _ _).mono ?_
  rintro e w1 ⟨rfl, rfl⟩
  exact ⟨rfl, rfl, Below.refl _ _⟩

set_option maxHeartbeats 1000000 in
theorem NUn_4size (t : ByteArray) (c d : Nat) (w : World) (kf : w.cell? ⟨c, 0, none⟩ = some (.int .i64 4)) (kt : w.cell? ⟨d, 0, none⟩ = some (.string t)) (h : t.size % 26 ≠ 0) :
    Calls Try.prog 15 #[.pointer (some ⟨c, 0, none⟩), .pointer (some ⟨d, 0, none⟩)] w fun e w' => e = .panicked [{ v := .iface 24 (.int .i64 11), recovered := false }] ∧ Below w.heap.size w w' := by
  have g : ((t.size : Int) % 26 != 0) = true := by simp; omega
  go_enter Try.func15, Try.ntmps15
  go_wp2_with fail
  refine (nrefuse_no _ _).mono ?_
  rintro e w1 ⟨rfl, rfl⟩
  go_wp2_with fail
  refine (nrefuse_t _ (by first | assumption | simp) _ _).mono ?_
  rintro e w1 ⟨rfl, rfl⟩
  exact ⟨rfl, rfl, Below.refl _ _⟩
set_option maxHeartbeats 1000000 in
theorem NUn_6size (t : ByteArray) (c d : Nat) (w : World) (kf : w.cell? ⟨c, 0, none⟩ = some (.int .i64 6)) (kt : w.cell? ⟨d, 0, none⟩ = some (.string t)) (h : t.size % 38 ≠ 0) :
    Calls Try.prog 15 #[.pointer (some ⟨c, 0, none⟩), .pointer (some ⟨d, 0, none⟩)] w fun e w' => e = .panicked [{ v := .iface 24 (.int .i64 11), recovered := false }] ∧ Below w.heap.size w w' := by
  have g : ((t.size : Int) % 38 != 0) = true := by simp; omega
  go_enter Try.func15, Try.ntmps15
  go_wp2_with fail
  refine (nrefuse_no _ _).mono ?_
  rintro e w1 ⟨rfl, rfl⟩
  go_wp2_with fail
  refine (nrefuse_t _ (by first | assumption | simp) _ _).mono ?_
  rintro e w1 ⟨rfl, rfl⟩
  exact ⟨rfl, rfl, Below.refl _ _⟩
end Go.Proofs.Ythlkpbpcfkgljaa.Ac

/-
  Nodes: the closure of the program's Unpack: words for the loop. (made by mk_zb.py)
-/
namespace Go.Proofs.Ythlkpbpcfkgljaa.Ac
open Go Go.RowKit Go.Proofs.Ythlkpbpcfkgljaa.Hz Go.Proofs.Ythlkpbpcfkgljaa.Sx Go.Proofs.Ythlkpbpcfkgljaa.Rg
theorem nempty (s : ByteArray) (h : 0 < s.size) : s.toList.isEmpty = false := by
  cases h0 : s.toList.isEmpty with
  | false => rfl
  | true =>
    have : s.size = 0 := by rw [← len_data]; rw [ByteArray.toList_eq, List.isEmpty_iff] at h0; rw [h0]; rfl
    omega
theorem gb_own {w a b : World} {d : Nat} {r : Option Nat} (h : w.grownBy a (some d)) (k : a.grownBy b r) (hr : ∀ i, r = some i → w.heap.size ≤ i) : w.grownBy b (some d) :=
  ⟨k.os.trans h.os, k.tape.trans h.tape, k.output.trans h.output, Nat.le_trans h.size k.size, fun i hi hne => (k.block i (Nat.lt_of_lt_of_le hi h.size) (fun e => by have := hr i e.symm; omega)).trans (h.block i hi hne)⟩
/-- how much of the text is left -/
def left (w : World) (d : Nat) : Nat := match w.cell? ⟨d, 0, none⟩ with | some (.string s) => s.size | _ => 0
end Go.Proofs.Ythlkpbpcfkgljaa.Ac

/-
  Nodes: plain words: what is packed is read back; lists of nodes.
-/
namespace Go.Proofs.Ythlkpbpcfkgljaa.Ac
open Go Go.RowKit Go.Proofs.Ythlkpbpcfkgljaa.Hz Go.Proofs.Ythlkpbpcfkgljaa.Sx

theorem ext_left (P q : ByteArray) (i j : Nat) (h : j ≤ P.size) : (P ++ q).extract i j = P.extract i j := by
  rw [ByteArray.extract_append, ByteArray.extract_eq_empty_iff.2 (by omega : min (j - P.size) q.size ≤ i - P.size), ByteArray.append_empty]
theorem ext_right (P q : ByteArray) (s i j : Nat) (h : s = P.size) : (P ++ q).extract (s + i) (s + j) = q.extract i j := ByteArray.extract_append_size_add' h

/-- the nodes of family 4 (b), or the other ones, among the first k -/
def fs (N : Nat → Nod) (b : Bool) : Nat → List Nod
  | 0 => []
  | k + 1 => if decide ((N k).f = 4) = b then fs N b k ++ [N k] else fs N b k
theorem fs_yes (N : Nat → Nod) (b : Bool) (k : Nat) (h : decide ((N k).f = 4) = b) : fs N b (k + 1) = fs N b k ++ [N k] := if_pos h
theorem fs_no (N : Nat → Nod) (b : Bool) (k : Nat) (h : decide ((N k).f = 4) = !b) : fs N b (k + 1) = fs N b k := if_neg (by rw [h]; cases b <;> decide)
theorem fs_len (N : Nat → Nod) (b : Bool) (k : Nat) : (fs N b k).length ≤ k := by
  induction k with
  | zero => exact Nat.le_refl _
  | succ k ih => 
    unfold fs
    split
    · simp; omega
    · omega
def pz (b : Bool) : Nat := if b then 26 else 38
def pof (N : Nat → Nod) (b : Bool) (k : Nat) : ByteArray := if b then (packs N k).1 else (packs N k).2
theorem pof_yes (N : Nat → Nod) (b : Bool) (k : Nat) (h : decide ((N k).f = 4) = b) : pof N b (k + 1) = pof N b k ++ (N k).pk := by
  subst h
  by_cases hf : (N k).f = 4
  · simp [pof, packs, hf]
  · simp [pof, packs, hf]
theorem pof_no (N : Nat → Nod) (b : Bool) (k : Nat) (h : decide ((N k).f = 4) = !b) : pof N b (k + 1) = pof N b k := by
  by_cases hf : (N k).f = 4
  · rw [decide_eq_true hf] at h
    cases b <;> simp_all [pof, packs]
  · rw [decide_eq_false hf] at h
    cases b <;> simp_all [pof, packs]

/-- a text is the packs of these nodes -/
def Pd (P : ByteArray) (z : Nat) (b : Bool) (L : List Nod) : Prop := P.size = L.length * z ∧ ∀ i n, L[i]? = some n → P.extract (i * z) (i * z + 20) = n.id ∧ pcs P z i = pk n.ip n.p ∧ n.ok ∧ decide (n.f = 4) = b
theorem Pd.snoc {P : ByteArray} {z : Nat} {b : Bool} {L : List Nod} (h : Pd P z b L) (m : Nod) (hm : m.ok) (hb : decide (m.f = 4) = b) (hz : m.pk.size = z) (h20 : 20 ≤ z) : Pd (P ++ m.pk) z b (L ++ [m]) := by
  obtain ⟨hs, hc⟩ := h
  have hid : m.id.size = 20 := hm.1
  refine ⟨by rw [ByteArray.size_append, hs, hz, List.length_append, Nat.add_mul]; simp, fun i n hi => ?_⟩
  have hil : i < L.length + 1 := by
    rcases Nat.lt_or_ge i (L ++ [m]).length with h | h
    · simpa using h
    · rw [List.getElem?_eq_none h] at hi; cases hi
  by_cases hlt : i < L.length
  · rw [List.getElem?_append_left hlt] at hi
    obtain ⟨h1, h2, h3⟩ := hc i n hi
    have hle : i * z + z ≤ P.size := by rw [hs, ← Nat.succ_mul]; exact Nat.mul_le_mul_right z hlt
    unfold pcs at h2 ⊢
    rw [ext_left _ _ _ _ (by omega), ext_left _ _ _ _ hle]
    exact ⟨h1, h2, h3⟩
  · obtain rfl : i = L.length := by omega
    rw [List.getElem?_append_right (Nat.le_refl _), Nat.sub_self] at hi
    cases hi
    unfold pcs
    have e1 := ext_right P m.pk (L.length * z) 0 20 hs.symm
    rw [Nat.add_zero] at e1
    have e2 := ext_right P m.pk (L.length * z) 20 z hs.symm
    rw [e1, e2]
    refine ⟨?_, ?_, hm, hb⟩
    · unfold Nod.pk
      rw [ext_left _ _ _ _ (by omega), ← hid]
      exact ByteArray.extract_zero_size
    · unfold Nod.pk at hz ⊢
      rw [ByteArray.size_append] at hz
      exact ByteArray.extract_append_eq_right hid.symm (by omega)
theorem ok_size (n : Nod) (h : n.ok) : n.pk.size = pz (decide (n.f = 4)) := by
  obtain ⟨h1, h2, _⟩ := h
  unfold Nod.pk Ac.pk
  rw [ByteArray.size_append, ByteArray.size_append, strOfNums_size]
  show n.id.size + (n.ip.size + 2) = _
  rcases h2 with ⟨hf, hi⟩ | ⟨hf, hi⟩
  · rw [decide_eq_true hf]; show _ = 26; omega
  · rw [decide_eq_false (by omega)]; show _ = 38; omega
theorem pz_20 (b : Bool) : 20 ≤ pz b := by cases b <;> decide
theorem packs_pd (N : Nat → Nod) (b : Bool) (k : Nat) (h : ∀ j, j < k → (N j).ok) : Pd (pof N b k) (pz b) b (fs N b k) := by
  induction k with
  | zero => refine ⟨by cases b <;> (show (⟨#[]⟩ : ByteArray).size = 0 * _; rw [Nat.zero_mul]; rfl), fun i n hi => by simp [fs] at hi⟩
  | succ k ih =>
    have ih := ih fun j hj => h j (by omega)
    by_cases hb : decide ((N k).f = 4) = b
    · rw [pof_yes N b k hb, fs_yes N b k hb]
      exact ih.snoc (N k) (h k (by omega)) hb (by rw [ok_size _ (h k (by omega)), hb]) (pz_20 b)
    · have hb' : decide ((N k).f = 4) = !b := by cases hd : decide ((N k).f = 4) <;> cases b <;> simp_all
      rw [pof_no N b k hb', fs_no N b k hb']
      exact ih

theorem get_right (P q : ByteArray) (i : Nat) (x : UInt8) (k : Nat) (hk : k = P.size + i) (hi : i < q.size) (hx : q[i]'hi = x) (h : k < (P ++ q).size) : (P ++ q)[k]'h = x := by
  subst hk hx
  rw [ByteArray.getElem_append_right (by omega)]
  congr 1
  omega
theorem prt_pk (ip : ByteArray) (p : Int) (h1 : 1 ≤ p) (h2 : p ≤ 65535) (k : Nat) (hk : k = ip.size) : prt (pk ip p) k = p := by
  have hs : (strOfNums [p / 256, p % 256]).size = 2 := by rw [strOfNums_size]; rfl
  have hz : (pk ip p).size = k + 2 := by unfold pk; rw [ByteArray.size_append, hs, hk]
  have hq : k + 1 < (pk ip p).size := by omega
  have e0 : (strOfNums [p / 256, p % 256])[0]'(by omega) = UInt8.ofNat (p / 256).toNat := rfl
  have e1 : (strOfNums [p / 256, p % 256])[1]'(by omega) = UInt8.ofNat (p % 256).toNat := rfl
  have g0 : (pk ip p)[k]'(by omega) = UInt8.ofNat (p / 256).toNat := get_right ip _ 0 _ k (by omega) (by omega) e0 _
  have g1 : (pk ip p)[k + 1]'(by omega) = UInt8.ofNat (p % 256).toNat := get_right ip _ 1 _ (k + 1) (by omega) (by omega) e1 _
  unfold prt
  rw [dif_pos hq, g0, g1]
  simp
  omega
/-- a good node's pack is read back -/
theorem up_pk (f : Int) (ip : ByteArray) (p : Int) (h : okA f ip p) : upE (pk ip p) = 0 ∧ upF (pk ip p) = f ∧ upI (pk ip p) = ip ∧ upP (pk ip p) = p := by
  obtain ⟨h1, h2, h3⟩ := h
  have hz : (pk ip p).size = ip.size + 2 := by unfold pk; rw [ByteArray.size_append, strOfNums_size]; rfl
  have hp : ∀ k, k = ip.size → prt (pk ip p) k ≠ 0 := fun k hk => by rw [prt_pk ip p h2 h3 k hk]; omega
  have hE : upE (pk ip p) = 0 := by
    unfold upE
    rcases h1 with ⟨_, hi⟩ | ⟨_, hi⟩
    · rw [if_neg (by omega), if_pos (by omega), if_neg (hp 4 (by omega))]
    · rw [if_neg (by omega), if_neg (by omega), if_pos (by omega), if_neg (hp 16 (by omega))]
  obtain ⟨g1, g2, g3⟩ := up_good hE
  refine ⟨hE, ?_, ?_, ?_⟩
  · rw [g1]
    rcases h1 with ⟨hf, hi⟩ | ⟨hf, hi⟩
    · rw [if_pos (by omega), hf]
    · rw [if_neg (by omega), hf]
  · rw [g2, hz]
    show (pk ip p).extract 0 ip.size = ip
    exact ByteArray.extract_append_eq_left rfl
  · rw [g3, hz]
    exact prt_pk ip p h2 h3 _ (by omega)

/-- how many nodes Unpack gives, and their cells -/
def unN (t : ByteArray) (f : Int) : Nat := if unE t f = 0 then t.size / uS f else 0
def unC (t : ByteArray) (f : Int) : List Value := if unE t f = 0 then ucs t (uS f) (t.size / uS f) else []
def lcs (l : List Nod) : List Value := l.flatMap Nod.cs
theorem lcs_snoc (l : List Nod) (m : Nod) : lcs (l ++ [m]) = lcs l ++ m.cs := by simp [lcs]
theorem lcs_at (l : List Nod) (i j : Nat) (n : Nod) (hi : l[i]? = some n) (hj : j < 4) : (lcs l)[i * 4 + j]? = n.cs[j]? := by
  induction l generalizing i with
  | nil => simp at hi
  | cons m l ih =>
    have e : lcs (m :: l) = m.cs ++ lcs l := rfl
    cases i with
    | zero =>
      simp at hi
      subst hi
      rw [e, Nat.zero_mul, Nat.zero_add, List.getElem?_append_left (show j < 4 from hj)]
    | succ i =>
      rw [e, List.getElem?_append_right (show 4 ≤ _ by omega)]
      have := ih i (by simpa using hi)
      rw [← this]
      congr 1
      show (i + 1) * 4 + j - 4 = _
      omega
theorem ucs_lcs (t : ByteArray) (z k : Nat) : ucs t z k = lcs ((List.range k).map (uNod t z)) := by
  induction k with
  | zero => rfl
  | succ k ih => rw [List.range_succ, List.map_append, List.map_singleton, lcs_snoc, ← ih]; rfl
/-- what Unpack makes of the packs of these nodes -/
theorem un_pd (P : ByteArray) (b : Bool) (L : List Nod) (h : Pd P (pz b) b L) : unE P (if b then 4 else 6) = 0 ∧ unN P (if b then 4 else 6) = L.length ∧ unC P (if b then 4 else 6) = lcs L := by
  have hz : uS (if b then 4 else 6) = pz b := by cases b <;> rfl
  have hz0 : 0 < pz b := by cases b <;> decide
  have hd : P.size / pz b = L.length := by rw [h.1]; exact Nat.mul_div_cancel _ hz0
  have hE : unE P (if b then 4 else 6) = 0 := by
    unfold unE
    rw [if_neg (by cases b <;> decide), hz, if_neg (by rw [h.1, Nat.mul_mod_left]; decide), hd, if_pos]
    intro i hi
    obtain ⟨n, hn⟩ : ∃ n, L[i]? = some n := ⟨_, List.getElem?_eq_getElem hi⟩
    obtain ⟨_, h2, h3, _⟩ := h.2 i n hn
    rw [h2]
    exact (up_pk n.f n.ip n.p h3.2).1
  refine ⟨hE, by unfold unN; rw [if_pos hE, hz, hd], ?_⟩
  unfold unC
  rw [if_pos hE, hz, hd, ucs_lcs]
  congr 1
  apply List.ext_getElem?
  intro i
  by_cases hi : i < L.length
  · obtain ⟨n, hn⟩ : ∃ n, L[i]? = some n := ⟨_, List.getElem?_eq_getElem hi⟩
    obtain ⟨h1, h2, h3, _⟩ := h.2 i n hn
    obtain ⟨_, g1, g2, g3⟩ := up_pk n.f n.ip n.p h3.2
    rw [hn, List.getElem?_map, List.getElem?_range hi]
    show some (uNod P (pz b) i) = some n
    unfold uNod
    rw [h1, h2, g1, g2, g3]
  · rw [List.getElem?_eq_none (by simp; omega), List.getElem?_eq_none (by omega)]
end Go.Proofs.Ythlkpbpcfkgljaa.Ac
