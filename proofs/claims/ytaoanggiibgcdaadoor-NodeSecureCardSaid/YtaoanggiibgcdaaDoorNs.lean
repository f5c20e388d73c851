/-
  node: Bit, Flip, Prefix, Within, Next, Middle, Random, In as they are called. (made by mk_ns.py)
-/
import Derived.Test.YtaoanggiibgcdaaDoorNq
import Derived.Test.YtaoanggiibgcdaaDoorNi
import Derived.Test.YtaoanggiibgcdaaDoorNl
import Derived.Test.YtaoanggiibgcdaaDoorDi
import Derived.Test.YtaoanggiibgcdaaDoorHe
namespace Go.Proofs.YtaoanggiibgcdaaDoor.Nq
open Go Go.RowKit Go.Shelf Go.Proofs.YtaoanggiibgcdaaDoor.Hz Go.Proofs.YtaoanggiibgcdaaDoor.Na Go.Proofs.YtaoanggiibgcdaaDoor.Nb Go.Proofs.YtaoanggiibgcdaaDoor.Nf
open Go.Proofs.YtaoanggiibgcdaaDoor.Ng (and8 bit_at)
open Go.Proofs.YtaoanggiibgcdaaDoor.Nh (flp pan)

theorem ask1_no (a : ByteArray) (t : TypeId) (w : World) (h : vd a = false) : Calls Tryd.prog 17 #[.slice (some ⟨w.heap.size, 0, none⟩) 1 1] (w.alloc (.cells #[.string a] t)) fun e w' => Pan e (w.alloc (.cells #[.string a] t)) w' :=
  ask_no _ 1 0 [a] _ rfl (by omega) (ids1 w a t) (by omega) (fun i hi => by omega) (vd_no h)
set_option maxRecDepth 100000 in
set_option maxHeartbeats 1600000 in
theorem askBits_ok (n : Int) (w : World) (h0 : 0 ≤ n) (h1 : n ≤ 160) :
    Calls Tryd.prog 19 #[.int .i64 n] w fun e w' => e = .returned (.tuple #[]) ∧ w = w' := by
  have d1 : decide (n < 0) = false := by simp; omega
  have d2 : decide (160 < n) = false := by simp; omega
  go_enter Tryd.func19, Tryd.ntmps19
  go_wp2_with fail
  refine (Nc.refuse_no _ _).mono ?_
  rintro e w1 ⟨rfl, rfl⟩
  go_wp2
  go_end0
  exact ⟨rfl, rfl⟩
set_option maxRecDepth 100000 in
set_option maxHeartbeats 1600000 in
theorem askBits_low (n : Int) (w : World) (h0 : n < 0) :
    Calls Tryd.prog 19 #[.int .i64 n] w fun e w' => e = .panicked [{ v := .iface 26 (.int .i64 7), recovered := false }] ∧ w = w' := by
  have d1 : decide (n < 0) = true := by simp; omega
  go_enter Tryd.func19, Tryd.ntmps19
  go_wp2_with fail
  refine (Nc.refuse_yes _ _).mono ?_
  rintro e w1 ⟨rfl, rfl⟩
  exact ⟨rfl, rfl, rfl⟩
set_option maxRecDepth 100000 in
set_option maxHeartbeats 1600000 in
theorem askBits_high (n : Int) (w : World) (h0 : 0 ≤ n) (h1 : 160 < n) :
    Calls Tryd.prog 19 #[.int .i64 n] w fun e w' => e = .panicked [{ v := .iface 26 (.int .i64 7), recovered := false }] ∧ w = w' := by
  have d1 : decide (n < 0) = false := by simp; omega
  have d2 : decide (160 < n) = true := by simp; omega
  go_enter Tryd.func19, Tryd.ntmps19
  go_wp2_with fail
  refine (Nc.refuse_yes _ _).mono ?_
  rintro e w1 ⟨rfl, rfl⟩
  exact ⟨rfl, rfl, rfl⟩
theorem askBits_no (n : Int) (w : World) (h : n < 0 ∨ 160 < n) : Calls Tryd.prog 19 #[.int .i64 n] w fun e w' => e = .panicked [{ v := .iface 26 (.int .i64 7), recovered := false }] ∧ w = w' := by
  by_cases h0 : n < 0
  · exact askBits_low n w h0
  · exact askBits_high n w (by omega) (by omega)
set_option maxRecDepth 100000 in
set_option maxHeartbeats 1600000 in
theorem askSeed_ok (s : ByteArray) (w : World) (h : s.size ≤ 100) :
    Calls Tryd.prog 18 #[.string s] w fun e w' => e = .returned (.tuple #[]) ∧ w = w' := by
  have d1 : decide ((100 : Int) < (s.size : Int)) = false := by simp; omega
  go_enter Tryd.func18, Tryd.ntmps18
  go_wp2_with fail
  refine (Nc.refuse_no _ _).mono ?_
  rintro e w1 ⟨rfl, rfl⟩
  go_wp2
  go_end0
  exact ⟨rfl, rfl⟩
set_option maxRecDepth 100000 in
set_option maxHeartbeats 1600000 in
theorem askSeed_no (s : ByteArray) (w : World) (h : 100 < s.size) :
    Calls Tryd.prog 18 #[.string s] w fun e w' => e = .panicked [{ v := .iface 26 (.int .i64 1), recovered := false }] ∧ w = w' := by
  have d1 : decide ((100 : Int) < (s.size : Int)) = true := by simp; omega
  go_enter Tryd.func18, Tryd.ntmps18
  go_wp2_with fail
  refine (Nc.refuse_yes _ _).mono ?_
  rintro e w1 ⟨rfl, rfl⟩
  exact ⟨rfl, rfl, rfl⟩
/-- the identifier number k of a seed -/
def rnd (s : ByteArray) (k : Nat) : ByteArray := Dg.old (s ++ ⟨#[58]⟩ ++ Hh.dec k).data.toList
theorem rnd_size (s : ByteArray) (k : Nat) : (rnd s k).size = 20 := by
  unfold rnd Dg.old
  have := Dg.sum_size ([111, 108, 100, 58] ++ (s ++ ⟨#[58]⟩ ++ Hh.dec k).data.toList)
  rw [ByteArray.size_extract]
  omega
set_option maxRecDepth 100000 in
set_option maxHeartbeats 1600000 in
theorem random_any (s : ByteArray) (k : Nat) (w : World) (hs : s.size ≤ 100) (hk : k ≤ 9223372036854775807) (ht : Hh.Tab w) :
    Calls Tryd.prog 22 #[.string s, .int .i64 (k : Int)] w fun e w' => e = .returned (.string (rnd s k)) ∧ Below w.heap.size w w' := by
  have HI := Lib.hid (Hh.Itoa_any k hk w ht)
  have hz : (Hh.dec k).size ≤ 30 := Hh.dec_size k hk
  have hd : rnd s k = Dg.old (s ++ ⟨#[58]⟩ ++ Hh.dec k).data.toList := rfl
  obtain ⟨D, hD⟩ : ∃ D, Hh.dec k = D := ⟨_, rfl⟩
  rw [hD] at HI hz hd
  have h1 : (⟨#[58]⟩ : ByteArray).size = 1 := rfl
  have HO := Lib.hid (fun w => Hh.Old_any (s ++ ⟨#[58]⟩ ++ D) w (by rw [ByteArray.size_append, ByteArray.size_append, h1]; unfold maxLen; omega))
  rw [← hd] at HO
  obtain ⟨R, hR⟩ : ∃ R, rnd s k = R := ⟨_, rfl⟩
  rw [hR] at HO ⊢
  clear hd hR hD ht
  go_enter Tryd.func22, Tryd.ntmps22
  go_wp2_with fail
  refine HI.out.mono ?_
  rintro e w1 ⟨rfl, hb1⟩
  go_wp2_with fail
  refine (HO.out _).mono ?_
  rintro e w2 ⟨rfl, hb2⟩
  go_wp2
  go_ret
  exact ⟨rfl, blw hb1 hb2⟩
set_option maxRecDepth 100000 in
set_option maxHeartbeats 1600000 in
theorem FlipF_low (pa : Nat) (pi : Nat) (s : ByteArray) (i : Int) (w : World) (hv : vd s = true) (hi : i < 0) (ca : w.cell? ⟨pa, 0, none⟩ = some (.string s)) (ci : w.cell? ⟨pi, 0, none⟩ = some (.int .i64 i)) :
    Calls Tryd.prog 29 #[.pointer (some ⟨pa, 0, none⟩), .pointer (some ⟨pi, 0, none⟩)] w fun e W' => e = .panicked [{ v := .iface 26 (.int .i64 7), recovered := false }] ∧ Below w.heap.size w W' := by
  have HAsk := Lib.hid (ask1_yes s 9 w hv)
  have d1 : decide (i < 0) = true := by simp; omega
  have la : pa < w.heap.size := World.block_lt_of_cell? w _ ca
  have li : pi < w.heap.size := World.block_lt_of_cell? w _ ci
  clear hv
  go_enter Tryd.func29, Tryd.ntmps29
  go_wp2_with fail
  refine HAsk.out.mono ?_
  rintro e w1 ⟨rfl, rfl⟩
  go_wp2_with fail
  refine (Nc.refuse_yes _ _).mono ?_
  rintro e w1 ⟨rfl, rfl⟩
  exact ⟨rfl, rfl, (Below.refl _ _).alloc (Nat.le_refl _) _⟩
set_option maxRecDepth 100000 in
set_option maxHeartbeats 1600000 in
theorem FlipF_high (pa : Nat) (pi : Nat) (s : ByteArray) (i : Int) (w : World) (hv : vd s = true) (hi0 : 0 ≤ i) (hi : 160 ≤ i) (ca : w.cell? ⟨pa, 0, none⟩ = some (.string s)) (ci : w.cell? ⟨pi, 0, none⟩ = some (.int .i64 i)) :
    Calls Tryd.prog 29 #[.pointer (some ⟨pa, 0, none⟩), .pointer (some ⟨pi, 0, none⟩)] w fun e W' => e = .panicked [{ v := .iface 26 (.int .i64 7), recovered := false }] ∧ Below w.heap.size w W' := by
  have HAsk := Lib.hid (ask1_yes s 9 w hv)
  have d1 : decide (i < 0) = false := by simp; omega
  have d2 : decide (160 ≤ i) = true := by simp; omega
  have la : pa < w.heap.size := World.block_lt_of_cell? w _ ca
  have li : pi < w.heap.size := World.block_lt_of_cell? w _ ci
  clear hv
  go_enter Tryd.func29, Tryd.ntmps29
  go_wp2_with fail
  refine HAsk.out.mono ?_
  rintro e w1 ⟨rfl, rfl⟩
  go_wp2_with fail
  refine (Nc.refuse_yes _ _).mono ?_
  rintro e w1 ⟨rfl, rfl⟩
  exact ⟨rfl, rfl, (Below.refl _ _).alloc (Nat.le_refl _) _⟩
set_option maxRecDepth 100000 in
set_option maxHeartbeats 1600000 in
theorem FlipF_id (pa : Nat) (pi : Nat) (s : ByteArray) (i : Int) (w : World) (hv : vd s = false) (ca : w.cell? ⟨pa, 0, none⟩ = some (.string s)) (ci : w.cell? ⟨pi, 0, none⟩ = some (.int .i64 i)) :
    Calls Tryd.prog 29 #[.pointer (some ⟨pa, 0, none⟩), .pointer (some ⟨pi, 0, none⟩)] w fun e W' => e = .panicked [{ v := .iface 26 (.int .i64 1), recovered := false }] ∧ Below w.heap.size w W' := by
  have HAsk := Lib.hid (ask1_no s 9 w hv)
  clear hv
  go_enter Tryd.func29, Tryd.ntmps29
  go_wp2_with fail
  refine HAsk.out.mono ?_
  rintro e w1 ⟨rfl, rfl⟩
  exact ⟨rfl, rfl, (Below.refl _ _).alloc (Nat.le_refl _) _⟩
set_option maxRecDepth 100000 in
set_option maxHeartbeats 1600000 in
theorem WithinF_id (pa : Nat) (pb : Nat) (pn : Nat) (a b : ByteArray) (n : Int) (w : World) (hv : (vd a && vd b) = false) (ca : w.cell? ⟨pa, 0, none⟩ = some (.string a)) (cb : w.cell? ⟨pb, 0, none⟩ = some (.string b)) (cn : w.cell? ⟨pn, 0, none⟩ = some (.int .i64 n)) :
    Calls Tryd.prog 24 #[.pointer (some ⟨pa, 0, none⟩), .pointer (some ⟨pb, 0, none⟩), .pointer (some ⟨pn, 0, none⟩)] w fun e W' => e = .panicked [{ v := .iface 26 (.int .i64 1), recovered := false }] ∧ Below w.heap.size w W' := by
  have HAsk := Lib.hid (ask2_no a b 9 w hv)
  clear hv
  go_enter Tryd.func24, Tryd.ntmps24
  go_wp2_with fail
  refine HAsk.out.mono ?_
  rintro e w1 ⟨rfl, rfl⟩
  exact ⟨rfl, rfl, (Below.refl _ _).alloc (Nat.le_refl _) _⟩
set_option maxRecDepth 100000 in
set_option maxHeartbeats 1600000 in
theorem WithinF_no (pa : Nat) (pb : Nat) (pn : Nat) (a b : ByteArray) (n : Int) (w : World) (hv : (vd a && vd b) = true) (hn : n < 0 ∨ 160 < n) (ca : w.cell? ⟨pa, 0, none⟩ = some (.string a)) (cb : w.cell? ⟨pb, 0, none⟩ = some (.string b)) (cn : w.cell? ⟨pn, 0, none⟩ = some (.int .i64 n)) :
    Calls Tryd.prog 24 #[.pointer (some ⟨pa, 0, none⟩), .pointer (some ⟨pb, 0, none⟩), .pointer (some ⟨pn, 0, none⟩)] w fun e W' => e = .panicked [{ v := .iface 26 (.int .i64 7), recovered := false }] ∧ Below w.heap.size w W' := by
  have HAsk := Lib.hid (ask2_yes a b 9 w hv)
  have HQ := Lib.hid (fun w => askBits_no n w hn)
  have la : pa < w.heap.size := World.block_lt_of_cell? w _ ca
  have lb : pb < w.heap.size := World.block_lt_of_cell? w _ cb
  have ln : pn < w.heap.size := World.block_lt_of_cell? w _ cn
  clear hv hn
  go_enter Tryd.func24, Tryd.ntmps24
  go_wp2_with fail
  refine HAsk.out.mono ?_
  rintro e w1 ⟨rfl, rfl⟩
  go_wp2_with fail
  refine (HQ.out _).mono ?_
  rintro e w1 ⟨rfl, rfl⟩
  exact ⟨rfl, rfl, (Below.refl _ _).alloc (Nat.le_refl _) _⟩
theorem eqs (x y : ByteArray) : (x.toList == y.toList) = decide (x = y) := by
  rw [ByteArray.toList_eq, ByteArray.toList_eq, Bool.eq_iff_iff, beq_iff_eq, decide_eq_true_iff]
  exact ⟨fun h => ByteArray.ext (Array.toList_inj.1 h), fun h => by rw [h]⟩
set_option maxRecDepth 100000 in
set_option maxHeartbeats 1600000 in
theorem WithinF_yes (pa : Nat) (pb : Nat) (pn : Nat) (a b : ByteArray) (n : Nat) (w : World) (hv : (vd a && vd b) = true) (hn : n ≤ 160) (ca : w.cell? ⟨pa, 0, none⟩ = some (.string a)) (cb : w.cell? ⟨pb, 0, none⟩ = some (.string b)) (cn : w.cell? ⟨pn, 0, none⟩ = some (.int .i64 (n : Int))) :
    Calls Tryd.prog 24 #[.pointer (some ⟨pa, 0, none⟩), .pointer (some ⟨pb, 0, none⟩), .pointer (some ⟨pn, 0, none⟩)] w fun e W' => e = .returned (.bool (decide (n ≤ cmn a b))) ∧ Below w.heap.size w W' := by
  have HAsk := Lib.hid (ask2_yes a b 9 w hv)
  have HQ := Lib.hid (fun w => askBits_ok (n : Int) w (by omega) (by omega))
  rw [Bool.and_eq_true] at hv
  have HH := Lib.hid (fun w => head_any a b n w (vd_yes hv.1) (vd_yes hv.2) hn)
  have he : ((hd a b n).toList == b.toList) = decide (n ≤ cmn a b) := by
    rw [eqs]
    exact decide_eq_decide.2 (hd_is a b n (vd_yes hv.2) hn)
  have la : pa < w.heap.size := World.block_lt_of_cell? w _ ca
  have lb : pb < w.heap.size := World.block_lt_of_cell? w _ cb
  have ln : pn < w.heap.size := World.block_lt_of_cell? w _ cn
  obtain ⟨x, hx⟩ : ∃ x, hd a b n = x := ⟨_, rfl⟩
  simp only [hx] at HH he
  obtain ⟨c, hc⟩ : ∃ c, decide (n ≤ cmn a b) = c := ⟨_, rfl⟩
  rw [hc] at he ⊢
  have HE := Lib.hid he
  clear hv hx hc he
  go_enter Tryd.func24, Tryd.ntmps24
  go_wp2_with fail
  refine HAsk.out.mono ?_
  rintro e w1 ⟨rfl, rfl⟩
  go_wp2_with fail
  refine (HQ.out _).mono ?_
  rintro e w1 ⟨rfl, rfl⟩
  go_wp2_with fail
  have hS0 : Hid ((fun w' => w'.cell? ⟨pa, 0, none⟩ = some (.string a) ∧ w'.cell? ⟨pb, 0, none⟩ = some (.string b) ∧ w'.cell? ⟨pn, 0, none⟩ = some (.int .i64 (n : Int)) ∧ Below w.heap.size w w') ((w.alloc (.cells #[.string a, .string b] 9)).drew)) := Lib.hid ⟨acell _ ca, acell _ cb, acell _ cn, ((Below.refl _ _).alloc (Nat.le_refl _) _).drew⟩
  go_region_held3 (fun w' => w'.cell? ⟨pa, 0, none⟩ = some (.string a) ∧ w'.cell? ⟨pb, 0, none⟩ = some (.string b) ∧ w'.cell? ⟨pn, 0, none⟩ = some (.int .i64 (n : Int)) ∧ Below w.heap.size w w')
    (first
      | exact hS0.out
      | assumption
      | (go_split_ands; exact ⟨kcell hbx (by assumption), kcell hbx (by assumption), kcell hbx (by assumption), blw (by assumption) hbx⟩))
    (first
      | (go_at_call 21; refine (HH.out _).mono ?_; rintro e w2 ⟨rfl, hbx⟩))
  go_split_ands
  go_wp2_with fail
  try rw [HE.out]
  go_ret
  exact ⟨rfl, by assumption⟩
/-- the next identifier -/
def nxt (s : ByteArray) : ByteArray := idn (nb s + 1)
def nxc (s : ByteArray) : Int := car s zid 1 20
theorem nxt_is (s : ByteArray) : idn (nb s + nb zid + 1) = nxt s := congrArg (fun t => idn (t + 1)) (show nb s + nb zid = nb s by have := nb_zid; omega)
set_option maxRecDepth 100000 in
set_option maxHeartbeats 1600000 in
theorem InF_id (pa : Nat) (ps : Nat) (pn : Nat) (pk : Nat) (a s : ByteArray) (n k : Int) (w : World) (hv : vd a = false) (ca : w.cell? ⟨pa, 0, none⟩ = some (.string a)) (cs : w.cell? ⟨ps, 0, none⟩ = some (.string s)) (cn : w.cell? ⟨pn, 0, none⟩ = some (.int .i64 n)) (ck : w.cell? ⟨pk, 0, none⟩ = some (.int .i64 k)) :
    Calls Tryd.prog 16 #[.pointer (some ⟨pa, 0, none⟩), .pointer (some ⟨ps, 0, none⟩), .pointer (some ⟨pn, 0, none⟩), .pointer (some ⟨pk, 0, none⟩)] w fun e W' => e = .panicked [{ v := .iface 26 (.int .i64 1), recovered := false }] ∧ Below w.heap.size w W' := by
  have HAsk := Lib.hid (ask1_no a 9 w hv)
  clear hv
  go_enter Tryd.func16, Tryd.ntmps16
  go_wp2_with fail
  refine HAsk.out.mono ?_
  rintro e w1 ⟨rfl, rfl⟩
  exact ⟨rfl, rfl, (Below.refl _ _).alloc (Nat.le_refl _) _⟩
set_option maxRecDepth 100000 in
set_option maxHeartbeats 1600000 in
theorem InF_seed (pa : Nat) (ps : Nat) (pn : Nat) (pk : Nat) (a s : ByteArray) (n k : Int) (w : World) (hv : vd a = true) (hs : 100 < s.size) (ca : w.cell? ⟨pa, 0, none⟩ = some (.string a)) (cs : w.cell? ⟨ps, 0, none⟩ = some (.string s)) (cn : w.cell? ⟨pn, 0, none⟩ = some (.int .i64 n)) (ck : w.cell? ⟨pk, 0, none⟩ = some (.int .i64 k)) :
    Calls Tryd.prog 16 #[.pointer (some ⟨pa, 0, none⟩), .pointer (some ⟨ps, 0, none⟩), .pointer (some ⟨pn, 0, none⟩), .pointer (some ⟨pk, 0, none⟩)] w fun e W' => e = .panicked [{ v := .iface 26 (.int .i64 1), recovered := false }] ∧ Below w.heap.size w W' := by
  have HAsk := Lib.hid (ask1_yes a 9 w hv)
  have HS := Lib.hid (fun w => askSeed_no s w hs)
  have la : pa < w.heap.size := World.block_lt_of_cell? w _ ca
  have ls : ps < w.heap.size := World.block_lt_of_cell? w _ cs
  have ln : pn < w.heap.size := World.block_lt_of_cell? w _ cn
  have lk : pk < w.heap.size := World.block_lt_of_cell? w _ ck
  clear hv hs
  go_enter Tryd.func16, Tryd.ntmps16
  go_wp2_with fail
  refine HAsk.out.mono ?_
  rintro e w1 ⟨rfl, rfl⟩
  go_wp2_with fail
  refine (HS.out _).mono ?_
  rintro e w1 ⟨rfl, rfl⟩
  exact ⟨rfl, rfl, (Below.refl _ _).alloc (Nat.le_refl _) _⟩
set_option maxRecDepth 100000 in
set_option maxHeartbeats 1600000 in
theorem InF_bits (pa : Nat) (ps : Nat) (pn : Nat) (pk : Nat) (a s : ByteArray) (n k : Int) (w : World) (hv : vd a = true) (hs : s.size ≤ 100) (hn : n < 0 ∨ 160 < n) (ca : w.cell? ⟨pa, 0, none⟩ = some (.string a)) (cs : w.cell? ⟨ps, 0, none⟩ = some (.string s)) (cn : w.cell? ⟨pn, 0, none⟩ = some (.int .i64 n)) (ck : w.cell? ⟨pk, 0, none⟩ = some (.int .i64 k)) :
    Calls Tryd.prog 16 #[.pointer (some ⟨pa, 0, none⟩), .pointer (some ⟨ps, 0, none⟩), .pointer (some ⟨pn, 0, none⟩), .pointer (some ⟨pk, 0, none⟩)] w fun e W' => e = .panicked [{ v := .iface 26 (.int .i64 7), recovered := false }] ∧ Below w.heap.size w W' := by
  have HAsk := Lib.hid (ask1_yes a 9 w hv)
  have HS := Lib.hid (fun w => askSeed_ok s w hs)
  have HQ := Lib.hid (fun w => askBits_no n w hn)
  have la : pa < w.heap.size := World.block_lt_of_cell? w _ ca
  have ls : ps < w.heap.size := World.block_lt_of_cell? w _ cs
  have ln : pn < w.heap.size := World.block_lt_of_cell? w _ cn
  have lk : pk < w.heap.size := World.block_lt_of_cell? w _ ck
  clear hv hs hn
  go_enter Tryd.func16, Tryd.ntmps16
  go_wp2_with fail
  refine HAsk.out.mono ?_
  rintro e w1 ⟨rfl, rfl⟩
  go_wp2_with fail
  refine (HS.out _).mono ?_
  rintro e w1 ⟨rfl, rfl⟩
  go_wp2_with fail
  refine (HQ.out _).mono ?_
  rintro e w1 ⟨rfl, rfl⟩
  exact ⟨rfl, rfl, (Below.refl _ _).alloc (Nat.le_refl _) _⟩
set_option maxRecDepth 100000 in
set_option maxHeartbeats 1600000 in
theorem InF_no (pa : Nat) (ps : Nat) (pn : Nat) (pk : Nat) (a s : ByteArray) (n k : Int) (w : World) (hv : vd a = true) (hs : s.size ≤ 100) (hn0 : 0 ≤ n) (hn1 : n ≤ 160) (hk : k < 0) (ca : w.cell? ⟨pa, 0, none⟩ = some (.string a)) (cs : w.cell? ⟨ps, 0, none⟩ = some (.string s)) (cn : w.cell? ⟨pn, 0, none⟩ = some (.int .i64 n)) (ck : w.cell? ⟨pk, 0, none⟩ = some (.int .i64 k)) :
    Calls Tryd.prog 16 #[.pointer (some ⟨pa, 0, none⟩), .pointer (some ⟨ps, 0, none⟩), .pointer (some ⟨pn, 0, none⟩), .pointer (some ⟨pk, 0, none⟩)] w fun e W' => e = .panicked [{ v := .iface 26 (.int .i64 7), recovered := false }] ∧ Below w.heap.size w W' := by
  have HAsk := Lib.hid (ask1_yes a 9 w hv)
  have HS := Lib.hid (fun w => askSeed_ok s w hs)
  have HQ := Lib.hid (fun w => askBits_ok n w hn0 hn1)
  have d1 : decide (k < 0) = true := by simp; omega
  have la : pa < w.heap.size := World.block_lt_of_cell? w _ ca
  have ls : ps < w.heap.size := World.block_lt_of_cell? w _ cs
  have ln : pn < w.heap.size := World.block_lt_of_cell? w _ cn
  have lk : pk < w.heap.size := World.block_lt_of_cell? w _ ck
  clear hv hs
  go_enter Tryd.func16, Tryd.ntmps16
  go_wp2_with fail
  refine HAsk.out.mono ?_
  rintro e w1 ⟨rfl, rfl⟩
  go_wp2_with fail
  refine (HS.out _).mono ?_
  rintro e w1 ⟨rfl, rfl⟩
  go_wp2_with fail
  refine (HQ.out _).mono ?_
  rintro e w1 ⟨rfl, rfl⟩
  go_wp2_with fail
  refine (Nc.refuse_yes _ _).mono ?_
  rintro e w1 ⟨rfl, rfl⟩
  exact ⟨rfl, rfl, (Below.refl _ _).alloc (Nat.le_refl _) _⟩
set_option maxRecDepth 100000 in
set_option maxHeartbeats 1600000 in
theorem InF_yes (pa : Nat) (ps : Nat) (pn : Nat) (pk : Nat) (a s : ByteArray) (n k : Nat) (w : World) (hv : vd a = true) (hs : s.size ≤ 100) (hn : n ≤ 160) (hk : k ≤ 9223372036854775807) (ht : Hh.Tab w) (ca : w.cell? ⟨pa, 0, none⟩ = some (.string a)) (cs : w.cell? ⟨ps, 0, none⟩ = some (.string s)) (cn : w.cell? ⟨pn, 0, none⟩ = some (.int .i64 (n : Int))) (ck : w.cell? ⟨pk, 0, none⟩ = some (.int .i64 (k : Int))) :
    Calls Tryd.prog 16 #[.pointer (some ⟨pa, 0, none⟩), .pointer (some ⟨ps, 0, none⟩), .pointer (some ⟨pn, 0, none⟩), .pointer (some ⟨pk, 0, none⟩)] w fun e W' => e = .returned (.string (hd a (rnd s k) n)) ∧ Below w.heap.size w W' := by
  have HAsk := Lib.hid (ask1_yes a 9 w hv)
  have HS := Lib.hid (fun w => askSeed_ok s w hs)
  have HQ := Lib.hid (fun w => askBits_ok (n : Int) w (by omega) (by omega))
  have HR := Lib.hid (fun w ht => random_any s k w hs hk ht)
  have HH := Lib.hid (fun w => head_any a (rnd s k) n w (vd_yes hv) (rnd_size s k) hn)
  have d1 : decide ((k : Int) < 0) = false := by simp
  have la : pa < w.heap.size := World.block_lt_of_cell? w _ ca
  have ls : ps < w.heap.size := World.block_lt_of_cell? w _ cs
  have ln : pn < w.heap.size := World.block_lt_of_cell? w _ cn
  have lk : pk < w.heap.size := World.block_lt_of_cell? w _ ck
  have htb : Hh.Tab (w.alloc (.cells #[.string a] 9)).drew := ht.below ((Below.refl _ _).alloc (Nat.le_refl _) _).drew
  obtain ⟨x, hx⟩ : ∃ x, hd a (rnd s k) n = x := ⟨_, rfl⟩
  simp only [hx] at HH ⊢
  obtain ⟨r, hr⟩ : ∃ r, rnd s k = r := ⟨_, rfl⟩
  simp only [hr] at HH HR
  have HTB := Lib.hid htb
  clear hv hx hr ht htb hs
  go_enter Tryd.func16, Tryd.ntmps16
  go_wp2_with fail
  refine HAsk.out.mono ?_
  rintro e w1 ⟨rfl, rfl⟩
  go_wp2_with fail
  refine (HS.out _).mono ?_
  rintro e w1 ⟨rfl, rfl⟩
  go_wp2_with fail
  refine (HQ.out _).mono ?_
  rintro e w1 ⟨rfl, rfl⟩
  go_wp2_with fail
  refine (Nc.refuse_no _ _).mono ?_
  rintro e w1 ⟨rfl, rfl⟩
  go_wp2_with fail
  have hS0 : Hid ((fun w' => w'.cell? ⟨pa, 0, none⟩ = some (.string a) ∧ w'.cell? ⟨ps, 0, none⟩ = some (.string s) ∧ w'.cell? ⟨pn, 0, none⟩ = some (.int .i64 (n : Int)) ∧ w'.cell? ⟨pk, 0, none⟩ = some (.int .i64 (k : Int)) ∧ Hh.Tab w' ∧ Below w.heap.size w w') ((w.alloc (.cells #[.string a] 9)).drew)) := Lib.hid ⟨acell _ ca, acell _ cs, acell _ cn, acell _ ck, HTB.out, ((Below.refl _ _).alloc (Nat.le_refl _) _).drew⟩
  go_region_held3 (fun w' => w'.cell? ⟨pa, 0, none⟩ = some (.string a) ∧ w'.cell? ⟨ps, 0, none⟩ = some (.string s) ∧ w'.cell? ⟨pn, 0, none⟩ = some (.int .i64 (n : Int)) ∧ w'.cell? ⟨pk, 0, none⟩ = some (.int .i64 (k : Int)) ∧ Hh.Tab w' ∧ Below w.heap.size w w')
    (first
      | exact hS0.out
      | assumption
      | (go_split_ands; exact ⟨kcell hbx (by assumption), kcell hbx (by assumption), kcell hbx (by assumption), kcell hbx (by assumption), Hh.Tab.below (by assumption) hbx, blw (by assumption) hbx⟩))
    (first
      | (go_at_call 22; refine (HR.out _ (by go_split_ands; assumption)).mono ?_; rintro e w2 ⟨rfl, hbx⟩)
      | (go_at_call 21; refine (HH.out _).mono ?_; rintro e w2 ⟨rfl, hbx⟩))
  go_split_ands
  go_wp2
  go_ret
  exact ⟨rfl, by assumption⟩
end Go.Proofs.YtaoanggiibgcdaaDoor.Nq
