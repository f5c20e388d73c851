/-
  Addresses: Near of the program.
-/
import Derived.Test.YtpmmilnoeoapoaaDoorBb
import Derived.Test.YtpmmilnoeoapoaaDoorBc
import Derived.Test.YtpmmilnoeoapoaaDoorAg
import Derived.BigQuiet
namespace Go.Proofs.YtpmmilnoeoapoaaDoor.Bk
open Go Go.RowKit Go.Proofs.YtpmmilnoeoapoaaDoor.Hz Go.Proofs.YtpmmilnoeoapoaaDoor.Ac Go.Proofs.YtpmmilnoeoapoaaDoor.Na Go.Proofs.YtpmmilnoeoapoaaDoor.Sx Go.Proofs.YtpmmilnoeoapoaaDoor.Ba Go.Proofs.YtpmmilnoeoapoaaDoor.Bc

theorem xor8 (a b : Nat) (ha : a < 256) (hb : b < 256) : bits .xor .u8 (a : Int) (b : Int) = ((a ^^^ b : Nat) : Int) := by
  have h1 : (BitVec.ofInt 8 (a : Int)).toNat = a := by rw [BitVec.ofInt_natCast, BitVec.toNat_ofNat]; exact Nat.mod_eq_of_lt ha
  have h2 : (BitVec.ofInt 8 (b : Int)).toNat = b := by rw [BitVec.ofInt_natCast, BitVec.toNat_ofNat]; exact Nat.mod_eq_of_lt hb
  show IntKind.u8.wrap ((BitVec.ofInt 8 (a : Int) ^^^ BitVec.ofInt 8 (b : Int)).toNat : Int) = _
  rw [BitVec.toNat_xor, h1, h2, IntKind.wrap_u8]
  have := Na.xor_lt a b ha hb
  omega
theorem and8 (a b : Nat) (ha : a < 256) (hb : b < 256) : bits .and .u8 (a : Int) (b : Int) = ((a &&& b : Nat) : Int) := by
  have h1 : (BitVec.ofInt 8 (a : Int)).toNat = a := by rw [BitVec.ofInt_natCast, BitVec.toNat_ofNat]; exact Nat.mod_eq_of_lt ha
  have h2 : (BitVec.ofInt 8 (b : Int)).toNat = b := by rw [BitVec.ofInt_natCast, BitVec.toNat_ofNat]; exact Nat.mod_eq_of_lt hb
  show IntKind.u8.wrap ((BitVec.ofInt 8 (a : Int) &&& BitVec.ofInt 8 (b : Int)).toNat : Int) = _
  rw [BitVec.toNat_and, h1, h2, IntKind.wrap_u8]
  have : a &&& b < 256 := Nat.lt_of_le_of_lt Nat.and_le_left ha
  omega
theorem xor_zero {a b : Nat} (h : a ^^^ b = 0) : a = b := by
  apply Nat.eq_of_testBit_eq
  intro i
  have := congrArg (fun z => z.testBit i) h
  simp only [Nat.testBit_xor, Nat.zero_testBit] at this
  cases ha : a.testBit i <;> cases hb : b.testBit i <;> simp_all
def iOf : Value → Int | .int _ n => n | _ => 0

/-- an address in a block -/
def AL (w : World) (b : Nat) (f : Int) (ip : ByteArray) (p : Int) : Prop := w.cell? ⟨b, 0, none⟩ = some (.int .i64 f) ∧ w.cell? ⟨b, 1, none⟩ = some (.string ip) ∧ w.cell? ⟨b, 2, none⟩ = some (.int .i64 p)
theorem AL.below {w w' : World} {b : Nat} {f : Int} {ip : ByteArray} {p : Int} (h : AL w b f ip p) (hb : Below w.heap.size w w') : AL w' b f ip p := ⟨kcell hb h.1, kcell hb h.2.1, kcell hb h.2.2⟩

set_option maxRecDepth 100000 in
set_option maxHeartbeats 1000000 in
theorem NearF_a (f : Int) (ip : ByteArray) (p : Int) (b c : Nat) (w : World) (hb : AL w b f ip p) (h : ¬ okA f ip p) : Calls Tryd.prog 13 #[.pointer (some ⟨b, 0, none⟩), .pointer (some ⟨c, 0, none⟩)] w fun e w' => e = .panicked [{ v := .iface 27 (.int .i64 1), recovered := false }] ∧ Below w.heap.size w w' := by
  obtain ⟨k0, k1, k2⟩ := hb
  have HA := Lib.hid (fun w => ask_no f ip p w h)
  go_enter Tryd.func13, Tryd.ntmps13
  go_wp2_with fail
  refine (HA.out _).mono ?_
  rintro e w2 ⟨rfl, hb⟩
  exact ⟨rfl, rfl, hb⟩
set_option maxRecDepth 100000 in
set_option maxHeartbeats 1000000 in
theorem NearF_b (f : Int) (ip : ByteArray) (p : Int) (g : Int) (iq : ByteArray) (q : Int) (b c : Nat) (w : World) (hb : AL w b f ip p) (hc : AL w c g iq q) (h : okA f ip p) (h' : ¬ okA g iq q) : Calls Tryd.prog 13 #[.pointer (some ⟨b, 0, none⟩), .pointer (some ⟨c, 0, none⟩)] w fun e w' => e = .panicked [{ v := .iface 27 (.int .i64 1), recovered := false }] ∧ Below w.heap.size w w' := by
  obtain ⟨k0, k1, k2⟩ := hb
  have HA := Lib.hid (fun w => ask_ok f ip p w h)
  have HN := Lib.hid (fun w => ask_no g iq q w h')
  generalize fam f = F at HA
  go_enter Tryd.func13, Tryd.ntmps13
  go_wp2_with fail
  refine (HA.out _).mono ?_
  rintro e w2 ⟨rfl, hb⟩
  obtain ⟨q0, q1, q2⟩ := hc.below hb
  go_wp2_with fail
  refine (HN.out _).mono ?_
  rintro e w3 ⟨rfl, hb3⟩
  exact ⟨rfl, rfl, blw hb hb3⟩
set_option maxRecDepth 100000 in
set_option maxHeartbeats 1000000 in
theorem NearF_f (f : Int) (ip : ByteArray) (p : Int) (g : Int) (iq : ByteArray) (q : Int) (b c : Nat) (w : World) (hb : AL w b f ip p) (hc : AL w c g iq q) (h : okA f ip p) (h' : okA g iq q) (hne : f ≠ g) : Calls Tryd.prog 13 #[.pointer (some ⟨b, 0, none⟩), .pointer (some ⟨c, 0, none⟩)] w fun e w' => e = .panicked [{ v := .iface 27 (.int .i64 10), recovered := false }] ∧ Below w.heap.size w w' := by
  have HA := Lib.hid (fun w => ask_ok f ip p w h)
  have HN := Lib.hid (fun w => ask_ok g iq q w h')
  generalize fam f = F at HA
  generalize fam g = G at HN
  have hq : (f != g) = true := by simpa using hne
  obtain ⟨k0, k1, k2⟩ := hb
  go_enter Tryd.func13, Tryd.ntmps13
  go_wp2_with fail
  refine (HA.out _).mono ?_
  rintro e w2 ⟨rfl, hb⟩
  have r0 := kcell hb k0
  obtain ⟨q0, q1, q2⟩ := hc.below hb
  clear k0 k1 k2
  go_wp2_with fail
  refine (HN.out _).mono ?_
  rintro e w3 ⟨rfl, hb3⟩
  have t0 := kcell hb3 r0
  have t1 := kcell hb3 q0
  clear q0 q1 q2 r0
  go_wp2_with fail
  refine (Aa.refuse_yes _ _).mono ?_
  rintro e w4 ⟨rfl, rfl⟩
  exact ⟨rfl, rfl, blw hb hb3⟩
set_option maxRecDepth 100000 in
set_option maxHeartbeats 4000000 in
theorem NearF_ok (f : Int) (ip : ByteArray) (p : Int) (iq : ByteArray) (q : Int) (b c : Nat) (w : World) (hb : AL w b f ip p) (hc : AL w c f iq q) (h : okA f ip p) (h' : okA f iq q) : Calls Tryd.prog 13 #[.pointer (some ⟨b, 0, none⟩), .pointer (some ⟨c, 0, none⟩)] w fun e w' => (∃ n : Nat, e = .returned (.int .i64 (n : Int)) ∧ isF (df ip iq) (8 * ip.size) n) ∧ Below w.heap.size w w' := by
  have HA := Lib.hid (fun w => ask_ok f ip p w h)
  have HN := Lib.hid (fun w => ask_ok f iq q w h')
  have hz : ip.size = iq.size ∧ ip.size ≤ 16 := by obtain ⟨h1, _⟩ := h; obtain ⟨h2, _⟩ := h'; omega
  obtain ⟨hz1, hz2⟩ := hz
  generalize fam f = F at HA HN
  clear h h'
  have hq : (f != f) = false := by simp
  have HL := Lib.hid (fun x w h => Lz8_any x w h)
  obtain ⟨k0, k1, k2⟩ := hb
  go_enter Tryd.func13, Tryd.ntmps13
  go_wp2_with fail
  refine (HA.out _).mono ?_
  rintro e w2 ⟨rfl, hb⟩
  have r0 := kcell hb k0
  have r1 := kcell hb k1
  obtain ⟨q0, q1, q2⟩ := hc.below hb
  clear k0 k1 k2
  go_wp2_with fail
  refine (HN.out _).mono ?_
  rintro e w3 ⟨rfl, hb3⟩
  have t0 := kcell hb3 r0
  have t1 := kcell hb3 q0
  have t2 := kcell hb3 r1
  have t3 := kcell hb3 q1
  have HB3 := Lib.hid (blw hb hb3)
  clear q0 q1 q2 r0 r1 hb hb3 hc
  go_wp2_with fail
  refine (Aa.refuse_no _ _).mono ?_
  rintro e w4 ⟨rfl, rfl⟩
  clear t0 t1
  go_wp2_with fail
  go_loopw [18] (fun i wr => ∃ (k : Nat), k ≤ ip.size ∧ i = .int .i64 (k : Int) ∧ Hid (∀ j, j < k → by_ ip j = by_ iq j) ∧ wr.cell? ⟨b, 1, none⟩ = some (.string ip) ∧ wr.cell? ⟨c, 1, none⟩ = some (.string iq) ∧ Hid (Below w.heap.size w wr)) (fun i _ => ip.size - (iOf i).toNat)
  case atStart => exact ⟨0, by omega, rfl, Lib.hid (fun j hj => by omega), t2, t3, HB3⟩
  case round =>
    obtain ⟨k, hk, rfl, HE, d0, d1, HB⟩ := hrel
    by_cases hkl : k < ip.size
    · have hks : k < iq.size := by omega
      have hx := by_at ip k hkl
      have hy := by_at iq k hks
      have hi0 : (0 : Int) ≤ (k : Int) := by omega
      have hi5 : (k : Int) < (ip.size : Int) := by omega
      have hi6 : (k : Int) < (iq.size : Int) := by omega
      have hxor := xor8 (by_ ip k) (by_ iq k) (by_lt _ _) (by_lt _ _)
      have hzl := Na.xor_lt (by_ ip k) (by_ iq k) (by_lt _ _) (by_lt _ _)
      have HD := Lib.hid (fun h0 : by_ ip k ^^^ by_ iq k ≠ 0 => lz_is _ hzl h0)
      have HZ := Lib.hid (fun h0 : by_ ip k ^^^ by_ iq k = 0 => xor_zero h0)
      have HF := Lib.hid (fun l => isF_byte ip iq k l (8 * ip.size) (by omega) HE.out)
      have HV := Lib.hid (fun w => HL.out ((by_ ip k ^^^ by_ iq k : Nat) : Int) w (by omega) (by omega))
      rw [lz_int _ hzl] at HV
      generalize by_ ip k ^^^ by_ iq k = z at hxor hzl HD HZ HF HV
      have HXY := Lib.hid (fun (e : by_ ip k = by_ iq k) j (hj : j < k + 1) => show by_ ip j = by_ iq j from by
        obtain h | rfl : j < k ∨ j = k := by omega
        · exact HE.out j h
        · exact e)
      by_cases h0 : z = 0
      · subst h0
        go_wp2_with fail
        go_region
        all_goals
          go_wp2_with fail
          exact ⟨⟨k + 1, by omega, by go_num, Lib.hid (HXY.out (HZ.out (by trivial))), d0, d1, Lib.hid HB.out.drew⟩, by simp [iOf]; omega⟩
      · obtain ⟨l1, l2, l3⟩ := HD.out h0
        have HN := Lib.hid (HF.out (lz z) l1 l2 l3)
        have hne : ((z : Int) != 0) = true := by simpa using h0
        clear l2 l3 HD HF
        generalize lz z = L at HV HN l1
        go_wp2_with fail
        go_region
        all_goals
          go_wp2_with fail
          refine (HV.out _).mono ?_
          rintro e w5 ⟨rfl, rfl⟩
          go_wp2_with fail
          go_ret
          exact ⟨⟨8 * k + L, by go_num, HN.out⟩, HB.out.drew⟩
    · obtain rfl : k = ip.size := by omega
      have HN := Lib.hid (isF_none ip iq ip.size HE.out)
      go_wp2_with fail
      go_ret
      exact ⟨⟨8 * ip.size, by go_num, HN.out⟩, HB.out⟩

theorem enterNear (args : Array Value) (w : World) : (callFunc 13 args).run Tryd.prog w = .ok (.enter 13 args) w := by kernel_rfl
/-- the boxes of two addresses -/
def bx2 (w : World) (f : Int) (ip : ByteArray) (p : Int) (g : Int) (iq : ByteArray) (q : Int) : World := (w.alloc (.cells #[.int .i64 f, .string ip, .int .i64 p] 23)).alloc (.cells #[.int .i64 g, .string iq, .int .i64 q] 23)
/-- the Errno of Near -/
def nrE (f : Int) (ip : ByteArray) (p : Int) (g : Int) (iq : ByteArray) (q : Int) : Int := if okA f ip p ∧ okA g iq q then (if f = g then 0 else 10) else 1
/-- what Near answers -/
def nrS (f : Int) (ip : ByteArray) (p : Int) (g : Int) (iq : ByteArray) (q : Int) (n : Nat) : Prop := if nrE f ip p g iq q = 0 then isF (df ip iq) (8 * ip.size) n else n = 0
theorem nrS_uniq {f : Int} {ip : ByteArray} {p : Int} {g : Int} {iq : ByteArray} {q : Int} {n m : Nat} (h : nrS f ip p g iq q n) (k : nrS f ip p g iq q m) : n = m := by
  unfold nrS at h k
  by_cases e : nrE f ip p g iq q = 0
  · rw [if_pos e] at h k; exact h.uniq k
  · rw [if_neg e] at h k; omega
theorem nrS_bad {f : Int} {ip : ByteArray} {p : Int} {g : Int} {iq : ByteArray} {q : Int} {k : Int} (h : nrE f ip p g iq q = k) (hk : k ≠ 0) : nrS f ip p g iq q 0 := by
  unfold nrS
  rw [if_neg (by omega)]
theorem nrS_good {f : Int} {ip : ByteArray} {p : Int} {g : Int} {iq : ByteArray} {q : Int} {n : Nat} (h : nrE f ip p g iq q = 0) (hk : isF (df ip iq) (8 * ip.size) n) : nrS f ip p g iq q n := by
  unfold nrS
  rw [if_pos h]
  exact hk
/-- what attempt does at Near -/
def nearG (f : Int) (ip : ByteArray) (p : Int) (g : Int) (iq : ByteArray) (q : Int) (w : World) : Prop :=
    Calls Tryd.prog 12 #[.func (Fn.func 13) #[] #[.pointer (some ⟨w.heap.size, 0, none⟩), .pointer (some ⟨w.heap.size + 1, 0, none⟩)]] (bx2 w f ip p g iq q) fun e w' => (∃ n : Nat, e = .returned (.tuple #[.int .i64 (n : Int), .int .i64 (nrE f ip p g iq q)]) ∧ nrS f ip p g iq q n) ∧ (bx2 w f ip p g iq q).grownBy w' none
theorem NearH (f : Int) (ip : ByteArray) (p : Int) (g : Int) (iq : ByteArray) (q : Int) (w : World) : nearG f ip p g iq q w := by
  have k0 : AL (Bb.aw (bx2 w f ip p g iq q)) w.heap.size f ip p := AL.below (w := bx2 w f ip p g iq q) ⟨by unfold bx2; simp [go_sem], by unfold bx2; simp [go_sem], by unfold bx2; simp [go_sem]⟩ (below_gb (Bb.aw_gb _))
  have k1 : AL (Bb.aw (bx2 w f ip p g iq q)) (w.heap.size + 1) g iq q := AL.below (w := bx2 w f ip p g iq q) ⟨by unfold bx2; simp [go_sem], by unfold bx2; simp [go_sem], by unfold bx2; simp [go_sem]⟩ (below_gb (Bb.aw_gb _))
  have bad : ∀ k, nrE f ip p g iq q = k → k ≠ 0 → (Calls Tryd.prog 13 #[.pointer (some ⟨w.heap.size, 0, none⟩), .pointer (some ⟨w.heap.size + 1, 0, none⟩)] (Bb.aw (bx2 w f ip p g iq q)) fun e w' => e = .panicked [{ v := .iface 27 (.int .i64 k), recovered := false }] ∧ Below (Bb.aw (bx2 w f ip p g iq q)).heap.size (Bb.aw (bx2 w f ip p g iq q)) w') → nearG f ip p g iq q w := by
    intro k hk h0 H
    exact (Bb.att_no 13 _ k (bx2 w f ip p g iq q) none (fun _ => True) (sta_true _) (fun _ h => by cases h) enterNear (H.mono fun e w' hh => ⟨hh.1, trivial, gb_below hh.2 _⟩)).mono fun e w' hh => (show (∃ n : Nat, e = .returned (.tuple #[.int .i64 (n : Int), .int .i64 (nrE f ip p g iq q)]) ∧ nrS f ip p g iq q n) ∧ (bx2 w f ip p g iq q).grownBy w' none from ⟨⟨0, by rw [hk]; exact hh.1, nrS_bad hk h0⟩, hh.2.2⟩)
  by_cases h : okA f ip p
  · by_cases h' : okA g iq q
    · by_cases e : f = g
      · subst e
        have h0 : nrE f ip p f iq q = 0 := by unfold nrE; rw [if_pos ⟨h, h'⟩, if_pos rfl]
        refine (Bb.att_ex 13 _ (bx2 w f ip p f iq q) none (fun s _ => ∃ n : Nat, s = (n : Int) ∧ isF (df ip iq) (8 * ip.size) n) (fun _ _ _ h _ _ => h) (fun _ h => by cases h) enterNear ((NearF_ok f ip p iq q _ _ _ k0 k1 h h').mono fun e w' hh => ?_)).mono fun e w' hh => ?_
        · obtain ⟨⟨n, he, hn⟩, hb⟩ := hh
          exact ⟨_, he, ⟨n, rfl, hn⟩, gb_below hb _⟩
        · obtain ⟨s, he, ⟨n, rfl, hn⟩, hg⟩ := hh
          exact ⟨⟨n, by rw [h0]; exact he, nrS_good h0 hn⟩, hg⟩
      · exact bad 10 (by unfold nrE; rw [if_pos ⟨h, h'⟩, if_neg e]) (by omega) (NearF_f f ip p g iq q _ _ _ k0 k1 h h' e)
    · exact bad 1 (by unfold nrE; rw [if_neg (fun x => h' x.2)]) (by omega) (NearF_b f ip p g iq q _ _ _ k0 k1 h h')
  · exact bad 1 (by unfold nrE; rw [if_neg (fun x => h x.1)]) (by omega) (NearF_a f ip p _ _ _ k0 h)
set_option maxRecDepth 100000 in
set_option maxHeartbeats 800000 in
theorem Near_any (f : Int) (ip : ByteArray) (p : Int) (g : Int) (iq : ByteArray) (q : Int) (w : World) :
    Calls Tryd.prog 6 #[.agg #[.int .i64 f, .string ip, .int .i64 p], .agg #[.int .i64 g, .string iq, .int .i64 q]] w fun e w' => (∃ n : Nat, e = .returned (.tuple #[.int .i64 (n : Int), .int .i64 (nrE f ip p g iq q)]) ∧ nrS f ip p g iq q n) ∧ Below w.heap.size w w' := by
  have hmf : ∀ (fn : Fn) (first cap : Array Value) (w : World), (Instr.makeFunc fn first cap).run Tryd.prog w = .ok (.func fn first cap) w := fun _ _ _ _ => rfl
  have H := Lib.hid (NearH f ip p g iq q w)
  unfold nearG at H
  have HW := Lib.hid (show Below w.heap.size w (bx2 w f ip p g iq q) from below_gb (gb_trans (gb_alloc _ _ _) (gb_alloc _ _ _)))
  generalize nrE f ip p g iq q = E at H ⊢
  generalize nrS f ip p g iq q = S at H ⊢
  unfold bx2 at H HW
  go_enter Tryd.func6, Tryd.ntmps6
  go_wp2_with fail
  refine H.out.mono ?_
  rintro e w1 ⟨⟨n, rfl, hn⟩, hg⟩
  have HN := Lib.hid hn
  have HG := Lib.hid (blw HW.out (below_gb hg))
  clear hg hn
  go_wp2
  go_ret2
  exact ⟨⟨n, rfl, HN.out⟩, HG.out⟩
end Go.Proofs.YtpmmilnoeoapoaaDoor.Bk
