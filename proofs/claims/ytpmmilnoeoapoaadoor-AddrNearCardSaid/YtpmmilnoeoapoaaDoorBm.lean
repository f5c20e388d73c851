/-
  Addresses: Near of the reference.
-/
import Derived.Test.YtpmmilnoeoapoaaDoorBk
import Derived.Test.YtpmmilnoeoapoaaDoorAh
namespace Go.Proofs.YtpmmilnoeoapoaaDoor.Bk
open Go Go.RowKit Go.Proofs.YtpmmilnoeoapoaaDoor.Hz Go.Proofs.YtpmmilnoeoapoaaDoor.Ac Go.Proofs.YtpmmilnoeoapoaaDoor.Na Go.Proofs.YtpmmilnoeoapoaaDoor.Sx Go.Proofs.YtpmmilnoeoapoaaDoor.Ba

theorem and_differ (x y t : Nat) : ((((x &&& 2 ^ t : Nat) : Int) != ((y &&& 2 ^ t : Nat) : Int))) = (x.testBit t != y.testBit t) := by
  have h : 0 < 2 ^ t := Nat.two_pow_pos t
  have e : ∀ z : Nat, z &&& 2 ^ t = if z.testBit t then 2 ^ t else 0 := fun z => by
    apply Nat.eq_of_testBit_eq
    intro i
    rw [Nat.testBit_and, Nat.testBit_two_pow]
    by_cases hi : t = i
    · subst hi
      cases hz : z.testBit t <;> simp
    · cases hz : z.testBit t <;> simp [hi]
  rw [e x, e y]
  clear e
  generalize 2 ^ t = m at h ⊢
  cases hx : x.testBit t <;> cases hy : y.testBit t <;> simp <;> omega
theorem two_lt8 (t : Nat) : 2 ^ (7 - t) < 256 := by
  have : 2 ^ (7 - t) ≤ 2 ^ 7 := Nat.pow_le_pow_right (by omega) (by omega)
  omega
def pw (r : Nat) : Int := ((2 ^ (7 - r) : Nat) : Int)
theorem pw_0 : pw 0 = 128 := rfl
theorem pw_half (r : Nat) (h : r < 7) : pw r / 2 = pw (r + 1) := by
  obtain rfl | rfl | rfl | rfl | rfl | rfl | rfl : r = 0 ∨ r = 1 ∨ r = 2 ∨ r = 3 ∨ r = 4 ∨ r = 5 ∨ r = 6 := by omega
  all_goals rfl
theorem pw_pos (r : Nat) (h : r < 8) : 0 ≤ pw r ∧ pw r ≤ 128 := by
  obtain rfl | rfl | rfl | rfl | rfl | rfl | rfl | rfl : r = 0 ∨ r = 1 ∨ r = 2 ∨ r = 3 ∨ r = 4 ∨ r = 5 ∨ r = 6 ∨ r = 7 := by omega
  all_goals decide

set_option maxRecDepth 100000 in
set_option maxHeartbeats 1000000 in
theorem RNear_a (f : Int) (ip : ByteArray) (p : Int) (g : Int) (iq : ByteArray) (q : Int) (w : World) (h : ¬ okA f ip p) :
    Calls Tryd.prog 7 #[.agg #[.int .i64 f, .string ip, .int .i64 p], .agg #[.int .i64 g, .string iq, .int .i64 q]] w fun e w' => e = .returned (.tuple #[.int .i64 0, .int .i64 1]) ∧ Below w.heap.size w w' := by
  have HV := Lib.hid (fun w => RVal_any f ip p w)
  rw [decide_eq_false h] at HV
  have HW := Lib.hid (show Below w.heap.size w (bx2 w f ip p g iq q) from below_gb (gb_trans (gb_alloc _ _ _) (gb_alloc _ _ _)))
  unfold bx2 at HW
  go_enter Tryd.func7, Tryd.ntmps7
  go_wp2_with fail
  refine (HV.out _).mono ?_
  rintro e w1 ⟨rfl, hb⟩
  have HB := Lib.hid (blw HW.out hb)
  clear hb
  go_wp2
  go_ret2
  exact ⟨rfl, HB.out⟩
set_option maxRecDepth 100000 in
set_option maxHeartbeats 1000000 in
theorem RNear_b (f : Int) (ip : ByteArray) (p : Int) (g : Int) (iq : ByteArray) (q : Int) (w : World) (h : okA f ip p) (h' : ¬ okA g iq q) :
    Calls Tryd.prog 7 #[.agg #[.int .i64 f, .string ip, .int .i64 p], .agg #[.int .i64 g, .string iq, .int .i64 q]] w fun e w' => e = .returned (.tuple #[.int .i64 0, .int .i64 1]) ∧ Below w.heap.size w w' := by
  have HV := Lib.hid (fun w => RVal_any f ip p w)
  have HU := Lib.hid (fun w => RVal_any g iq q w)
  rw [decide_eq_true h] at HV
  rw [decide_eq_false h'] at HU
  have HW := Lib.hid (show Below w.heap.size w (bx2 w f ip p g iq q) from below_gb (gb_trans (gb_alloc _ _ _) (gb_alloc _ _ _)))
  have HQ := Lib.hid (show AL (bx2 w f ip p g iq q) (w.heap.size + 1) g iq q from ⟨by unfold bx2; simp [go_sem], by unfold bx2; simp [go_sem], by unfold bx2; simp [go_sem]⟩)
  have HU2 := Lib.hid (show (w.alloc (.cells #[.int .i64 f, .string ip, .int .i64 p] 23)).alloc (.cells #[.int .i64 g, .string iq, .int .i64 q] 23) = bx2 w f ip p g iq q from rfl)
  generalize bx2 w f ip p g iq q = W at HW HQ HU2
  go_enter Tryd.func7, Tryd.ntmps7
  go_wp2_with fail
  rw [HU2.out]
  refine (HV.out _).mono ?_
  rintro e w1 ⟨rfl, hb⟩
  obtain ⟨q0, q1, q2⟩ := HQ.out.below hb
  have HB := Lib.hid (blw HW.out hb)
  clear hb
  go_wp2_with fail
  refine (HU.out _).mono ?_
  rintro e w2 ⟨rfl, hb⟩
  have HB2 := Lib.hid (blw HB.out hb)
  clear hb
  go_wp2
  go_ret2
  exact ⟨rfl, HB2.out⟩
set_option maxRecDepth 100000 in
set_option maxHeartbeats 1000000 in
theorem RNear_f (f : Int) (ip : ByteArray) (p : Int) (g : Int) (iq : ByteArray) (q : Int) (w : World) (h : okA f ip p) (h' : okA g iq q) (hne : f ≠ g) :
    Calls Tryd.prog 7 #[.agg #[.int .i64 f, .string ip, .int .i64 p], .agg #[.int .i64 g, .string iq, .int .i64 q]] w fun e w' => e = .returned (.tuple #[.int .i64 0, .int .i64 10]) ∧ Below w.heap.size w w' := by
  have HV := Lib.hid (fun w => RVal_any f ip p w)
  have HU := Lib.hid (fun w => RVal_any g iq q w)
  rw [decide_eq_true h] at HV
  rw [decide_eq_true h'] at HU
  have HW := Lib.hid (show Below w.heap.size w (bx2 w f ip p g iq q) from below_gb (gb_trans (gb_alloc _ _ _) (gb_alloc _ _ _)))
  have HP := Lib.hid (show AL (bx2 w f ip p g iq q) w.heap.size f ip p from ⟨by unfold bx2; simp [go_sem], by unfold bx2; simp [go_sem], by unfold bx2; simp [go_sem]⟩)
  have HQ := Lib.hid (show AL (bx2 w f ip p g iq q) (w.heap.size + 1) g iq q from ⟨by unfold bx2; simp [go_sem], by unfold bx2; simp [go_sem], by unfold bx2; simp [go_sem]⟩)
  have HU2 := Lib.hid (show (w.alloc (.cells #[.int .i64 f, .string ip, .int .i64 p] 23)).alloc (.cells #[.int .i64 g, .string iq, .int .i64 q] 23) = bx2 w f ip p g iq q from rfl)
  generalize bx2 w f ip p g iq q = W at HW HP HQ HU2
  have hq : (f != g) = true := by simpa using hne
  go_enter Tryd.func7, Tryd.ntmps7
  go_wp2_with fail
  rw [HU2.out]
  refine (HV.out _).mono ?_
  rintro e w1 ⟨rfl, hb⟩
  obtain ⟨q0, q1, q2⟩ := HQ.out.below hb
  have HB := Lib.hid (blw HW.out hb)
  have HP1 := Lib.hid (HP.out.below hb)
  clear hb
  go_wp2_with fail
  refine (HU.out _).mono ?_
  rintro e w2 ⟨rfl, hb⟩
  have HB2 := Lib.hid (blw HB.out hb)
  obtain ⟨p0, p1, p2⟩ := HP1.out.below hb
  have r0 := kcell hb q0
  clear hb q0 q1 q2
  go_wp2
  go_ret2
  exact ⟨rfl, HB2.out⟩

set_option maxRecDepth 100000 in
set_option maxHeartbeats 4000000 in
theorem RNear_ok (f : Int) (ip : ByteArray) (p : Int) (iq : ByteArray) (q : Int) (w : World) (h : okA f ip p) (h' : okA f iq q) :
    Calls Tryd.prog 7 #[.agg #[.int .i64 f, .string ip, .int .i64 p], .agg #[.int .i64 f, .string iq, .int .i64 q]] w fun e w' => (∃ n : Nat, e = .returned (.tuple #[.int .i64 (n : Int), .int .i64 0]) ∧ isF (df ip iq) (8 * ip.size) n) ∧ Below w.heap.size w w' := by
  have HV := Lib.hid (fun w => RVal_any f ip p w)
  have HU := Lib.hid (fun w => RVal_any f iq q w)
  rw [decide_eq_true h] at HV
  rw [decide_eq_true h'] at HU
  have hz : ip.size = iq.size ∧ ip.size ≤ 16 := by obtain ⟨h1, _⟩ := h; obtain ⟨h2, _⟩ := h'; omega
  obtain ⟨hz1, hz2⟩ := hz
  have HZ1 := Lib.hid hz1
  clear h h' hz1
  have HW := Lib.hid (show Below w.heap.size w (bx2 w f ip p f iq q) from below_gb (gb_trans (gb_alloc _ _ _) (gb_alloc _ _ _)))
  have HP := Lib.hid (show AL (bx2 w f ip p f iq q) w.heap.size f ip p from ⟨by unfold bx2; simp [go_sem], by unfold bx2; simp [go_sem], by unfold bx2; simp [go_sem]⟩)
  have HQ := Lib.hid (show AL (bx2 w f ip p f iq q) (w.heap.size + 1) f iq q from ⟨by unfold bx2; simp [go_sem], by unfold bx2; simp [go_sem], by unfold bx2; simp [go_sem]⟩)
  have HU2 := Lib.hid (show (w.alloc (.cells #[.int .i64 f, .string ip, .int .i64 p] 23)).alloc (.cells #[.int .i64 f, .string iq, .int .i64 q] 23) = bx2 w f ip p f iq q from rfl)
  generalize bx2 w f ip p f iq q = W at HW HP HQ HU2
  have hq : (f != f) = false := by simp
  go_enter Tryd.func7, Tryd.ntmps7
  go_wp2_with fail
  rw [HU2.out]
  refine (HV.out _).mono ?_
  rintro e w1 ⟨rfl, hb⟩
  obtain ⟨q0, q1, q2⟩ := HQ.out.below hb
  have HB := Lib.hid (blw HW.out hb)
  have HP1 := Lib.hid (HP.out.below hb)
  clear hb
  go_wp2_with fail
  refine (HU.out _).mono ?_
  rintro e w2 ⟨rfl, hb⟩
  have HB2 := Lib.hid (blw HB.out hb)
  obtain ⟨p0, p1, p2⟩ := HP1.out.below hb
  have r0 := kcell hb q0
  have r1 := kcell hb q1
  clear hb q0 q1 q2 p2
  go_wp2_with fail
  go_loopw [27] (fun i wr => ∃ (k : Nat), k ≤ 8 * ip.size ∧ i = .int .i64 (k : Int) ∧ Hid (∀ j, j < k → df ip iq j = false) ∧ wr.cell? ⟨w.heap.size, 1, none⟩ = some (.string ip) ∧ wr.cell? ⟨w.heap.size + 1, 1, none⟩ = some (.string iq) ∧ Hid (Below w.heap.size w wr)) (fun i _ => 8 * ip.size - (iOf i).toNat)
  case atStart => exact ⟨0, by omega, rfl, Lib.hid (fun j hj => by omega), p1, r1, HB2⟩
  case round =>
    obtain ⟨k, hk, rfl, HE, d0, d1, HB⟩ := hrel
    by_cases hkl : k < 8 * ip.size
    · have hi0 : (0 : Int) ≤ (k : Int) := by omega
      have hi5 : (k : Int) < 8 * (ip.size : Int) := by omega
      go_wp2_with fail
      obtain ⟨W1, hW1⟩ : ∃ W1, W1 = wr := ⟨_, rfl⟩
      subst hW1
      go_loopw [32, 7] (fun i y wr' => ∃ (r : Nat), r ≤ k % 8 ∧ i = .int .i64 (r : Int) ∧ y = .int .u8 (pw r) ∧ wr' = W1) (fun i _ _ => k % 8 - (iOf i).toNat)
      case atStart => exact ⟨0, by omega, rfl, rfl, rfl⟩
      case round =>
        obtain ⟨r, hr, rfl, rfl, rfl⟩ := hrel
        by_cases hrl : r < k % 8
        · have hri : (r : Int) < (k : Int) % 8 := by omega
          have HH := Lib.hid (pw_half r (by omega))
          obtain ⟨y1, y2⟩ := pw_pos r (by omega)
          go_wp2_with fail
          exact ⟨⟨r + 1, by omega, by go_num, by rw [HH.out], trivial⟩, by simp [iOf]; omega⟩
        · obtain rfl : r = k % 8 := by omega
          have hz1 := HZ1.out
          have hqs : k / 8 < ip.size := by omega
          have hqs' : k / 8 < iq.size := by omega
          clear hz1
          have hx := by_at ip (k / 8) hqs
          have hy := by_at iq (k / 8) hqs'
          have hA := and8 (by_ ip (k / 8)) (2 ^ (7 - k % 8)) (by_lt _ _) (two_lt8 _)
          have hB := and8 (by_ iq (k / 8)) (2 ^ (7 - k % 8)) (by_lt _ _) (two_lt8 _)
          have hdf := and_differ (by_ ip (k / 8)) (by_ iq (k / 8)) (7 - k % 8)
          rw [show ((by_ ip (k / 8)).testBit (7 - k % 8) != (by_ iq (k / 8)).testBit (7 - k % 8)) = df ip iq k from rfl] at hdf
          rw [show ((2 ^ (7 - k % 8) : Nat) : Int) = pw (k % 8) from rfl] at hA hB
          generalize by_ ip (k / 8) &&& 2 ^ (7 - k % 8) = A at hA hdf
          generalize by_ iq (k / 8) &&& 2 ^ (7 - k % 8) = B at hB hdf
          generalize by_ ip (k / 8) = x at hx hA
          generalize by_ iq (k / 8) = y at hy hB
          have hw1 : IntKind.i64.wrap ((k : Int) / 8) = ((k / 8 : Nat) : Int) := by rw [IntKind.wrap_i64]; omega
          have hri : ¬ (((k % 8 : Nat) : Int) < (k : Int) % 8) := by omega
          have hn0 : (0 : Int) ≤ ((k / 8 : Nat) : Int) := by omega
          have hn1 : ((k / 8 : Nat) : Int) < (ip.size : Int) := by omega
          have hn2 : ((k / 8 : Nat) : Int) < (iq.size : Int) := by omega
          have HDK := Lib.hid (show df ip iq k = true → isF (df ip iq) (8 * ip.size) k from fun e => ⟨HE.out, .inr ⟨hkl, e⟩⟩)
          have HDS := Lib.hid (show df ip iq k = false → ∀ j, j < k + 1 → df ip iq j = false from fun e j hj => by
            obtain h | rfl : j < k ∨ j = k := by omega
            · exact HE.out j h
            · exact e)
          obtain ⟨y1, y2⟩ := pw_pos (k % 8) (by omega)
          generalize pw (k % 8) = PW at hA hB y1 y2 ⊢
          generalize k / 8 = Q at hqs hqs' hx hy hw1 hn0 hn1 hn2
          generalize hdv : df ip iq k = D at hdf HDK HDS
          clear hdv
          cases D
          · go_wp2_with fail
            go_region
            all_goals
              go_wp2_with fail
              exact ⟨⟨k + 1, by omega, by go_num, Lib.hid (HDS.out (by trivial)), d0, d1, Lib.hid HB.out.drew⟩, by simp [iOf]; omega⟩
          · go_wp2_with fail
            go_region
            all_goals
              go_wp2_with fail
              go_ret2
              exact ⟨⟨k, rfl, HDK.out (by trivial)⟩, HB.out.drew⟩
    · obtain rfl : k = 8 * ip.size := by omega
      have HN := Lib.hid (show isF (df ip iq) (8 * ip.size) (8 * ip.size) from ⟨HE.out, .inl rfl⟩)
      go_wp2_with fail
      go_ret2
      exact ⟨⟨8 * ip.size, by go_num, HN.out⟩, HB.out⟩

theorem RNear_any (f : Int) (ip : ByteArray) (p : Int) (g : Int) (iq : ByteArray) (q : Int) (w : World) :
    Calls Tryd.prog 7 #[.agg #[.int .i64 f, .string ip, .int .i64 p], .agg #[.int .i64 g, .string iq, .int .i64 q]] w fun e w' => (∃ n : Nat, e = .returned (.tuple #[.int .i64 (n : Int), .int .i64 (nrE f ip p g iq q)]) ∧ nrS f ip p g iq q n) ∧ Below w.heap.size w w' := by
  by_cases h : okA f ip p
  · by_cases h' : okA g iq q
    · by_cases e : f = g
      · subst e
        have h0 : nrE f ip p f iq q = 0 := by unfold nrE; rw [if_pos ⟨h, h'⟩, if_pos rfl]
        exact (RNear_ok f ip p iq q w h h').mono fun e w' ⟨⟨n, he, hn⟩, hb⟩ => ⟨⟨n, by rw [h0]; exact he, nrS_good h0 hn⟩, hb⟩
      · have h0 : nrE f ip p g iq q = 10 := by unfold nrE; rw [if_pos ⟨h, h'⟩, if_neg e]
        exact (RNear_f f ip p g iq q w h h' e).mono fun e w' hh => ⟨⟨0, by rw [h0]; exact hh.1, nrS_bad h0 (by omega)⟩, hh.2⟩
    · have h0 : nrE f ip p g iq q = 1 := by unfold nrE; rw [if_neg (fun x => h' x.2)]
      exact (RNear_b f ip p g iq q w h h').mono fun e w' hh => ⟨⟨0, by rw [h0]; exact hh.1, nrS_bad h0 (by omega)⟩, hh.2⟩
  · have h0 : nrE f ip p g iq q = 1 := by unfold nrE; rw [if_neg (fun x => h x.1)]
    exact (RNear_a f ip p g iq q w h).mono fun e w' hh => ⟨⟨0, by rw [h0]; exact hh.1, nrS_bad h0 (by omega)⟩, hh.2⟩
end Go.Proofs.YtpmmilnoeoapoaaDoor.Bk
