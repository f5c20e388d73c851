/-
  NodeDistances: the walk.
-/
import Derived.Test.YtdkfniijoamaoaaNl
import Derived.Test.YtdkfniijoamaoaaNi
namespace Go.Proofs.Ytdkfniijoamaoaa.Nj
open Go Go.RowKit Go.Proofs.Ytdkfniijoamaoaa.Hz Go.Proofs.Ytdkfniijoamaoaa.Na Go.Proofs.Ytdkfniijoamaoaa.Nb Go.Proofs.Ytdkfniijoamaoaa.Nf Go.Proofs.Ytdkfniijoamaoaa.Nh

theorem vd_ds (a b : ByteArray) : vd (ds a b) = true := by unfold vd; rw [ds_size]; rfl
theorem vd_of {s : ByteArray} (h : s.size = 20) : vd s = true := by unfold vd; simpa using h
theorem Dist_yes (a b x : ByteArray) (ha : vd a = true) (hb : vd b = true) (hx : ds a b = x) (w : World) : Calls Try.prog 17 #[.string a, .string b] w fun e w' => e = .returned (.tuple #[.string x, .int .i64 0]) ∧ Below w.heap.size w w' := by
  have h := Distance_any a b w
  unfold dT dE at h
  rw [ha, hb] at h
  rw [← hx]
  exact h
theorem Dist_no (a b : ByteArray) (h0 : (vd a && vd b) = false) (w : World) : Calls Try.prog 17 #[.string a, .string b] w fun e w' => e = .returned (.tuple #[.string ⟨#[]⟩, .int .i64 1]) ∧ Below w.heap.size w w' := by
  have h := Distance_any a b w
  unfold dT dE at h
  rw [h0] at h
  exact h
theorem Comm_yes (a b : ByteArray) (n : Nat) (ha : vd a = true) (hb : vd b = true) (hx : cmn a b = n) (w : World) : Calls Try.prog 23 #[.string a, .string b] w fun e w' => e = .returned (.tuple #[.int .i64 (n : Int), .int .i64 0]) ∧ Below w.heap.size w w' := by
  have h := Common_any a b w
  unfold cV dE at h
  rw [ha, hb] at h
  rw [← hx]
  exact h
theorem Comm_no (a b : ByteArray) (h0 : (vd a && vd b) = false) (w : World) : Calls Try.prog 23 #[.string a, .string b] w fun e w' => e = .returned (.tuple #[.int .i64 0, .int .i64 1]) ∧ Below w.heap.size w w' := by
  have h := Common_any a b w
  unfold cV dE at h
  rw [h0] at h
  exact h
theorem Near_yes (t a b : ByteArray) (c : Bool) (ht : vd t = true) (ha : vd a = true) (hb : vd b = true) (hx : nr t a b = c) (w : World) : Calls Try.prog 22 #[.string t, .string a, .string b] w fun e w' => e = .returned (.tuple #[.bool c, .int .i64 0]) ∧ Below w.heap.size w w' := by
  have h := Nearer_any t a b w
  unfold nV nE at h
  rw [ht, ha, hb] at h
  rw [← hx]
  exact h
theorem Near_no (t a b : ByteArray) (hb : vd b = false) (w : World) : Calls Try.prog 22 #[.string t, .string a, .string b] w fun e w' => e = .returned (.tuple #[.bool false, .int .i64 1]) ∧ Below w.heap.size w w' := by
  have h := Nearer_any t a b w
  unfold nV nE at h
  rw [hb, Bool.and_false] at h
  exact h
theorem RV (s : ByteArray) (c : Bool) (h : vd s = c) (w : World) : Calls Try.prog 18 #[.string s] w fun e w' => e = .returned (.bool c) ∧ w = w' := h ▸ RValid_any s w
theorem PV (s : ByteArray) (c : Bool) (h : vd s = c) (w : World) : Calls Try.prog 19 #[.string s] w fun e w' => e = .returned (.bool c) ∧ w = w' := h ▸ Valid_any s w

set_option maxRecDepth 1000000 in
set_option maxHeartbeats 3200000 in
theorem dist_t (t a b : ByteArray) (w : World) (ht : vd t = false) :
    Calls Try.prog 5 #[.string t, .string a, .string b] w fun e w' => e = .returned (.bool true) ∧ Below w.heap.size w w' := by
  have HA := Lib.hid awake_any
  have HD := Lib.hid (Dist_no t a (by rw [ht]; rfl))
  have HT := Lib.hid (RV t false ht)
  obtain ⟨c, hc⟩ : ∃ c, vd a = c := ⟨_, rfl⟩
  have HP := Lib.hid (PV a c hc)
  have HR := Lib.hid (RV a c hc)
  have hcc : (c == c) = true := by simp
  clear ht hc
  go_enter Try.func5, Try.ntmps5
  go_wp2_with fail
  refine (HD.out _).mono ?_
  rintro e w1 ⟨rfl, hw1⟩
  go_wp2_with fail
  refine (HT.out _).mono ?_
  rintro e wq ⟨rfl, rfl⟩
  go_wp2_with fail
  refine (HP.out _).mono ?_
  rintro e wq ⟨rfl, rfl⟩
  go_wp2_with fail
  refine (HR.out _).mono ?_
  rintro e wq ⟨rfl, rfl⟩
  go_wp2_with fail
  refine (HA.out _).mono ?_
  rintro e w2 ⟨rfl, hw2⟩
  go_wp2
  go_ret
  exact ⟨rfl, blw (hw1) hw2⟩

set_option maxRecDepth 1000000 in
set_option maxHeartbeats 3200000 in
theorem dist_a (t a b : ByteArray) (w : World) (ht : vd t = true) (ha : vd a = false) :
    Calls Try.prog 5 #[.string t, .string a, .string b] w fun e w' => e = .returned (.bool true) ∧ Below w.heap.size w w' := by
  have HA := Lib.hid awake_any
  have HD := Lib.hid (Dist_no t a (by rw [ha, Bool.and_false]))
  have HT := Lib.hid (RV t true ht)
  have HP := Lib.hid (PV a false ha)
  have HR := Lib.hid (RV a false ha)
  clear ht ha
  go_enter Try.func5, Try.ntmps5
  go_wp2_with fail
  refine (HD.out _).mono ?_
  rintro e w1 ⟨rfl, hw1⟩
  go_wp2_with fail
  refine (HT.out _).mono ?_
  rintro e wq ⟨rfl, rfl⟩
  go_wp2_with fail
  refine (HR.out _).mono ?_
  rintro e wq ⟨rfl, rfl⟩
  go_wp2_with fail
  refine (HP.out _).mono ?_
  rintro e wq ⟨rfl, rfl⟩
  go_wp2_with fail
  refine (HR.out _).mono ?_
  rintro e wq ⟨rfl, rfl⟩
  go_wp2_with fail
  refine (HA.out _).mono ?_
  rintro e w2 ⟨rfl, hw2⟩
  go_wp2
  go_ret
  exact ⟨rfl, blw (hw1) hw2⟩

set_option maxRecDepth 1000000 in
set_option maxHeartbeats 3200000 in
theorem dist_b (t a b : ByteArray) (w : World) (ht : vd t = true) (ha : vd a = true) (hb : vd b = false) :
    Calls Try.prog 5 #[.string t, .string a, .string b] w fun e w' => e = .returned (.bool true) ∧ Below w.heap.size w w' := by
  have HA := Lib.hid awake_any
  have hta := Dist_yes t a (ds t a) ht ha rfl
  have hat := Dist_yes a t (ds t a) ha ht (ds_comm a t)
  have htx := Dist_yes t (ds t a) a ht (vd_ds t a) (ds_back t a (vd_yes ha))
  have hrd := fun w => RDistance_any t a w (vd_yes ht) (vd_yes ha)
  have HT := Lib.hid (RV t true ht)
  have HRA := Lib.hid (RV a true ha)
  have HPA := Lib.hid (PV a true ha)
  have HNR := Lib.hid (Near_no t a b hb)
  have HC := Lib.hid (Comm_no t b (by rw [hb, Bool.and_false]))
  have HRB := Lib.hid (RV b false hb)
  obtain ⟨x, hx⟩ : ∃ x, ds t a = x := ⟨_, rfl⟩
  simp only [hx] at hta hat htx hrd
  have HTA := Lib.hid hta
  have HAT := Lib.hid hat
  have HTX := Lib.hid htx
  have HRD := Lib.hid hrd
  have e1 : (x.toList == x.toList) = true := by simp
  have e2 : (a.toList == a.toList) = true := by simp
  have e3 : (x.toList != x.toList) = false := by simp
  have e4 : (a.toList != a.toList) = false := by simp
  clear ht ha hb hta hat htx hrd hx
  go_enter Try.func5, Try.ntmps5
  go_wp2_with fail
  refine (HTA.out _).mono ?_
  rintro e w1 ⟨rfl, hw1⟩
  go_wp2_with fail
  refine (HT.out _).mono ?_
  rintro e wq ⟨rfl, rfl⟩
  go_wp2_with fail
  refine (HRA.out _).mono ?_
  rintro e wq ⟨rfl, rfl⟩
  go_wp2_with fail
  refine (HAT.out _).mono ?_
  rintro e w2 ⟨rfl, hw2⟩
  go_wp2_with fail
  refine (HTX.out _).mono ?_
  rintro e w3 ⟨rfl, hw3⟩
  go_wp2_with fail
  refine (HRD.out _).mono ?_
  rintro e w4 ⟨rfl, hw4⟩
  go_wp2_with fail
  refine (HPA.out _).mono ?_
  rintro e wq ⟨rfl, rfl⟩
  go_wp2_with fail
  refine (HNR.out _).mono ?_
  rintro e w5 ⟨rfl, hw5⟩
  go_wp2_with fail
  refine (HC.out _).mono ?_
  rintro e w6 ⟨rfl, hw6⟩
  go_wp2_with fail
  refine (HRB.out _).mono ?_
  rintro e wq ⟨rfl, rfl⟩
  go_wp2_with fail
  refine (HA.out _).mono ?_
  rintro e w7 ⟨rfl, hw7⟩
  go_wp2
  go_ret
  exact ⟨rfl, blw (blw (blw (blw (blw (blw (hw1) hw2) hw3) hw4) hw5) hw6) hw7⟩

set_option maxRecDepth 1000000 in
set_option maxHeartbeats 3200000 in
theorem dist_all (t a b : ByteArray) (w : World) (ht : vd t = true) (ha : vd a = true) (hb : vd b = true) (c : Bool) (n m : Nat) (hc : nr t a b = c) (hn : cmn t b = n) (hm : cmn t a = m) (hmn : m ≤ n ∨ n < m ∧ c = true) :
    Calls Try.prog 5 #[.string t, .string a, .string b] w fun e w' => e = .returned (.bool true) ∧ Below w.heap.size w w' := by
  have HA := Lib.hid awake_any
  have hta := Dist_yes t a (ds t a) ht ha rfl
  have hat := Dist_yes a t (ds t a) ha ht (ds_comm a t)
  have htx := Dist_yes t (ds t a) a ht (vd_ds t a) (ds_back t a (vd_yes ha))
  have hrd := fun w => RDistance_any t a w (vd_yes ht) (vd_yes ha)
  have HT := Lib.hid (RV t true ht)
  have HRA := Lib.hid (RV a true ha)
  have HPA := Lib.hid (PV a true ha)
  have HNR := Lib.hid (Near_yes t a b c ht ha hb hc)
  have HC := Lib.hid (Comm_yes t b n ht hb hn)
  have HRB := Lib.hid (RV b true hb)
  have HCM := Lib.hid (Comm_yes t a m ht ha hm)
  have hrn := fun w => RNearer_any t a b w (vd_yes ht) (vd_yes ha) (vd_yes hb)
  have hrc := fun w => RCommon_any t b w (vd_yes ht) (vd_yes hb)
  have hrm := fun w => RCommon_any t a w (vd_yes ht) (vd_yes ha)
  simp only [hc] at hrn
  simp only [hn] at hrc
  simp only [hm] at hrm
  have HRN := Lib.hid hrn
  have HRC := Lib.hid hrc
  have HRM := Lib.hid hrm
  have hab := Dist_yes a b (ds a b) ha hb rfl
  have htb := Dist_yes t b (ds t b) ht hb rfl
  have hxab := Dist_yes (ds t a) (ds a b) (ds t b) (vd_ds t a) (vd_ds a b) (ds_add t a b)
  obtain ⟨ab, hab'⟩ : ∃ z, ds a b = z := ⟨_, rfl⟩
  obtain ⟨tb, htb'⟩ : ∃ z, ds t b = z := ⟨_, rfl⟩
  simp only [hab', htb'] at hab htb hxab
  obtain ⟨x, hx⟩ : ∃ x, ds t a = x := ⟨_, rfl⟩
  simp only [hx] at hta hat htx hrd hxab
  have HTA := Lib.hid hta
  have HAT := Lib.hid hat
  have HTX := Lib.hid htx
  have HRD := Lib.hid hrd
  have e1 : (x.toList == x.toList) = true := by simp
  have e2 : (a.toList == a.toList) = true := by simp
  have e3 : (x.toList != x.toList) = false := by simp
  have e4 : (a.toList != a.toList) = false := by simp
  have HAB := Lib.hid hab
  have HTB := Lib.hid htb
  have HXAB := Lib.hid hxab
  have e5 : (tb.toList == tb.toList) = true := by simp
  have e6 : (c == c) = true := by simp
  have e7 : (c != c) = false := by simp
  clear ht ha hb hta hat htx hrd hx hc hn hm hrn hrc hrm hab htb hxab hab' htb'
  go_enter Try.func5, Try.ntmps5
  go_wp2_with fail
  refine (HTA.out _).mono ?_
  rintro e w1 ⟨rfl, hw1⟩
  go_wp2_with fail
  refine (HT.out _).mono ?_
  rintro e wq ⟨rfl, rfl⟩
  go_wp2_with fail
  refine (HRA.out _).mono ?_
  rintro e wq ⟨rfl, rfl⟩
  go_wp2_with fail
  refine (HAT.out _).mono ?_
  rintro e w2 ⟨rfl, hw2⟩
  go_wp2_with fail
  refine (HTX.out _).mono ?_
  rintro e w3 ⟨rfl, hw3⟩
  go_wp2_with fail
  refine (HRD.out _).mono ?_
  rintro e w4 ⟨rfl, hw4⟩
  go_wp2_with fail
  refine (HPA.out _).mono ?_
  rintro e wq ⟨rfl, rfl⟩
  go_wp2_with fail
  refine (HNR.out _).mono ?_
  rintro e w5 ⟨rfl, hw5⟩
  go_wp2_with fail
  refine (HC.out _).mono ?_
  rintro e w6 ⟨rfl, hw6⟩
  go_wp2_with fail
  refine (HRB.out _).mono ?_
  rintro e wq ⟨rfl, rfl⟩
  go_wp2_with fail
  refine (HCM.out _).mono ?_
  rintro e w7 ⟨rfl, hw7⟩
  rcases hmn with hmn | ⟨hmn, rfl⟩
  · have hmn' : (m : Int) ≤ (n : Int) := by omega
    go_wp2_with fail
    refine (HRN.out _).mono ?_
    rintro e wq ⟨rfl, rfl⟩
    go_wp2_with fail
    refine (HRC.out _).mono ?_
    rintro e wq ⟨rfl, rfl⟩
    go_wp2_with fail
    refine (HRM.out _).mono ?_
    rintro e wq ⟨rfl, rfl⟩
    go_wp2_with fail
    refine (HAB.out _).mono ?_
    rintro e w8 ⟨rfl, hw8⟩
    go_wp2_with fail
    refine (HTB.out _).mono ?_
    rintro e w9 ⟨rfl, hw9⟩
    go_wp2_with fail
    refine (HXAB.out _).mono ?_
    rintro e w10 ⟨rfl, hw10⟩
    go_wp2_with fail
    refine (HA.out _).mono ?_
    rintro e w11 ⟨rfl, hw11⟩
    go_wp2
    go_ret
    exact ⟨rfl, blw (blw (blw (blw (blw (blw (blw (blw (blw (blw (hw1) hw2) hw3) hw4) hw5) hw6) hw7) hw8) hw9) hw10) hw11⟩
  · have hmn2 : (n : Int) < (m : Int) := by omega
    go_wp2_with fail
    refine (HRN.out _).mono ?_
    rintro e wq ⟨rfl, rfl⟩
    go_wp2_with fail
    refine (HRC.out _).mono ?_
    rintro e wq ⟨rfl, rfl⟩
    go_wp2_with fail
    refine (HRM.out _).mono ?_
    rintro e wq ⟨rfl, rfl⟩
    go_wp2_with fail
    refine (HAB.out _).mono ?_
    rintro e w8 ⟨rfl, hw8⟩
    go_wp2_with fail
    refine (HTB.out _).mono ?_
    rintro e w9 ⟨rfl, hw9⟩
    go_wp2_with fail
    refine (HXAB.out _).mono ?_
    rintro e w10 ⟨rfl, hw10⟩
    go_wp2_with fail
    refine (HA.out _).mono ?_
    rintro e w11 ⟨rfl, hw11⟩
    go_wp2
    go_ret
    exact ⟨rfl, blw (blw (blw (blw (blw (blw (blw (blw (blw (blw (hw1) hw2) hw3) hw4) hw5) hw6) hw7) hw8) hw9) hw10) hw11⟩

theorem dist_any (t a b : ByteArray) (w : World) :
    Calls Try.prog 5 #[.string t, .string a, .string b] w fun e w' => e = .returned (.bool true) ∧ Below w.heap.size w w' := by
  cases ht : vd t
  · exact dist_t t a b w ht
  cases ha : vd a
  · exact dist_a t a b w ht ha
  cases hb : vd b
  · exact dist_b t a b w ht ha hb
  refine dist_all t a b w ht ha hb _ _ _ rfl rfl rfl ?_
  by_cases h : cmn t a ≤ cmn t b
  · exact .inl h
  · exact .inr ⟨by omega, nr_of t a b (by omega)⟩
end Go.Proofs.Ytdkfniijoamaoaa.Nj
