/-
  The methods of a search: Next, Acked, Lost, Size, Sent, Range, State, New.
-/
import Derived.Test.YtjoejaclnijacaaPn
import Derived.Test.YtjoejaclnijacaaPc
import Derived.Laws.EntriesVeiled
namespace Go.Proofs.Ytjoejaclnijacaa.Ps
open Go Go.RowKit Go.Proofs.Ytjoejaclnijacaa.Sx Go.Proofs.Ytjoejaclnijacaa.Pm

/-- since when it rests -/
def sn (l h now s : Int) : Int := if h - l < 16 then now else s
theorem tell_any (c : Nat) (l h f n s t u a k now : Int) (w : World) (H : Sb w c l h f n s t u a k) (b1 : 0 ≤ l) (b2 : h ≤ 9000) (b3 : -9000 ≤ h - l) :
    Calls Try.prog 40 #[.pointer (some ⟨c, 0, none⟩), .int .i64 now] w fun e w' => e = .returned (.tuple #[]) ∧ Sb w' c l h f now (sn l h now s) t u a k ∧ w.grownBy w' (some c) := by
  by_cases hc : h - l < 16
  · rw [show sn l h now s = now from if_pos hc]; exact tell_t c l h f n s t u a k now w H b1 b2 b3 hc
  · rw [show sn l h now s = s from if_neg hc]; exact tell_f c l h f n s t u a k now w H b1 b2 (by omega)

theorem sta_sb {n0 c : Nat} {l h f n s t u a k : Int} (hc : c < n0) : Sta n0 fun w => Sb w c l h f n s t u a k := sta_block hc

set_option maxHeartbeats 800000 in
theorem arrive_any (c : Nat) (l h f n s t u a k : Int) (w : World) (H : Sb w c l h f n s t u a k) :
    Calls Try.prog 46 #[.pointer (some ⟨c, 0, none⟩)] w fun e w' => e = .returned (.tuple #[]) ∧ Sb w' c a h f n s t u a 0 ∧ w.grownBy w' (some c) := by
  have c0 := H.c0
  have c7 := H.c7
  have c8 := H.c8
  have f0 := H.fz 0
  have f8 := H.fz 8
  have HE := Lib.hid ((H.set0 a).set8 0)
  have HG := Lib.hid (gb_trans (gb_set w c 0 (.int .i64 a)) (gb_set (w.setCell ⟨c, 0, none⟩ (.int .i64 a)) c 8 (.int .i64 0)))
  clear H
  go_enter Try.func46, Try.ntmps46
  go_wp2
  go_end0
  exact ⟨rfl, HE.out, HG.out⟩
set_option maxHeartbeats 800000 in
theorem miss_less (c : Nat) (l h f n s t u a : Int) (w : World) (H : Sb w c l h f n s t u a 2) (a1 : 0 ≤ a) (a2 : a ≤ 9000) :
    Calls Try.prog 43 #[.pointer (some ⟨c, 0, none⟩)] w fun e w' => e = .returned (.tuple #[]) ∧ Sb w' c l (a - 1) f n s t u a 0 ∧ w.grownBy w' (some c) := by
  have c1 := H.c1
  have c7 := H.c7
  have c8 := H.c8
  have f1 := H.fz 1
  have f8 := H.fz 8
  have HE := Lib.hid (((H.set8 3).set1 (a - 1)).set8 0)
  have HG := Lib.hid (gb_trans (gb_trans (gb_set w c 8 (.int .i64 3)) (gb_set (w.setCell ⟨c, 8, none⟩ (.int .i64 3)) c 1 (.int .i64 (a - 1)))) (gb_set ((w.setCell ⟨c, 8, none⟩ (.int .i64 3)).setCell ⟨c, 1, none⟩ (.int .i64 (a - 1))) c 8 (.int .i64 0)))
  clear H
  go_enter Try.func43, Try.ntmps43
  go_wp2
  go_end0
  exact ⟨rfl, HE.out, HG.out⟩
set_option maxHeartbeats 800000 in
theorem miss_lost (c : Nat) (l h f n s t u a k : Int) (w : World) (H : Sb w c l h f n s t u a k) (k1 : 0 ≤ k) (k2 : k < 2) :
    Calls Try.prog 43 #[.pointer (some ⟨c, 0, none⟩)] w fun e w' => e = .returned (.tuple #[]) ∧ Sb w' c l h f n s t u a (k + 1) ∧ w.grownBy w' (some c) := by
  have c1 := H.c1
  have c7 := H.c7
  have c8 := H.c8
  have f8 := H.fz 8
  have hb : (k + 1 == 3) = false := by simp; omega
  have HE := Lib.hid (H.set8 (k + 1))
  have HG := Lib.hid (gb_set w c 8 (.int .i64 (k + 1)))
  clear H
  go_enter Try.func43, Try.ntmps43
  go_wp2
  go_end0
  exact ⟨rfl, HE.out, HG.out⟩

/-- what a way of ending a probe does -/
def Does (K c : Nat) (l h f t a k l' h' k' : Int) : Prop := ∀ (W : World) (n s : Int), Sb W c l h f n s t 0 a k → Calls Try.prog K #[.pointer (some ⟨c, 0, none⟩)] W fun e W' => e = .returned (.tuple #[]) ∧ Sb W' c l' h' f n s t 0 a k' ∧ W.grownBy W' (some c)

set_option maxHeartbeats 1600000 in
theorem end1_ok (K c ps pn pm pd : Nat) (l h f n s t a k l' h' k' now : Int) (w : World) (H : Sb w c l h f n s t t a k) (h0 : f ≠ 0) (h1 : 0 ≤ now) (h2 : now ≤ 1000000000) (h3 : n ≤ now) (t1 : 1 ≤ t) (t2 : t ≤ 1000000)
    (b1 : 0 ≤ l') (b2 : h' ≤ 9000) (b3 : -9000 ≤ h' - l') (hK : ∀ (args : Array Value) (w : World), (callFunc K args).run Try.prog w = .ok (.enter K args) w) (hD : Does K c l h f t a k l' h' k')
    (cp : w.cell? ⟨ps, 0, none⟩ = some (.pointer (some ⟨c, 0, none⟩))) (cn : w.cell? ⟨pn, 0, none⟩ = some (.int .i64 now)) (cm : w.cell? ⟨pm, 0, none⟩ = some (.int .i64 t)) (cd : w.cell? ⟨pd, 0, none⟩ = some (.func (Fn.func K) #[.pointer (some ⟨c, 0, none⟩)] #[])) (ne1 : ps ≠ c) (ne2 : pn ≠ c) (ne3 : pd ≠ c) :
    Calls Try.prog 52 #[.pointer (some ⟨ps, 0, none⟩), .pointer (some ⟨pn, 0, none⟩), .pointer (some ⟨pm, 0, none⟩), .pointer (some ⟨pd, 0, none⟩)] w fun e w' => e = .returned (.bool true) ∧ Sb w' c l' h' f now (sn l' h' now s) t 0 a k' ∧ w.grownBy w' (some c) := by
  have HA := Lib.hid (ask_t c l h f n s t t a k now w H h0 h1 h2 h3)
  have HH := Lib.hid H
  have HD := Lib.hid hD
  have c6 := H.c6
  have f6 := H.fz 6
  have d1 : decide (t < 1) = false := by simp; omega
  have d2 : (t != t) = false := by simp
  have HR := Lib.hid (fun q => (Pb.refuse_no 8 (w.drewN q)).mono (R' := fun e w' => e = .returned (.tuple #[]) ∧ w' = w.drewN q) fun _ _ h => ⟨h.1, h.2.symm⟩)
  clear H h0 hD
  go_enter Try.func52, Try.ntmps52
  go_wp2_with fail
  refine HA.out.mono ?_
  rintro e w1 ⟨rfl, rfl⟩
  go_wp2_with fail
  refine (Pb.refuse_no _ _).mono ?_
  rintro e w1 ⟨rfl, rfl⟩
  go_wp2_with fail
  go_quiet ((go_at_call 21; exact Calls.quiet_of_same (HR.out _)))
  clear d1 d2
  rename_i nq
  have H2 : Sb ((w.drewN nq).setCell ⟨c, 6, none⟩ (.int .i64 0)) c l h f n s t 0 a k := Sb.set6 (W := w.drewN nq) HH.out 0
  have G2 : w.grownBy ((w.drewN nq).setCell ⟨c, 6, none⟩ (.int .i64 0)) (some c) := gb_trans (gb_drew w _ _) (gb_set (w.drewN nq) c 6 (.int .i64 0))
  have cp2 := gb_cell G2 cp (by simpa using ne1)
  have cn2 := gb_cell G2 cn (by simpa using ne2)
  have cd2 := gb_cell G2 cd (by simpa using ne3)
  have H2H := Lib.hid H2
  have G2H := Lib.hid G2
  clear H2 G2
  go_wp2_with fail
  refine (HD.out _ _ _ H2H.out).mono ?_
  rintro e w3 ⟨rfl, H3, g3⟩
  have cp3 := gb_cell g3 cp2 (by simpa using ne1)
  have cn3 := gb_cell g3 cn2 (by simpa using ne2)
  have G3 := Lib.hid (gb_trans G2H.out g3)
  have H3H := Lib.hid H3
  clear H2H G2H g3 H3 cp cn cm cd cp2 cn2 cd2 c6 f6
  go_wp2_with fail
  refine (tell_any _ _ _ _ _ _ _ _ _ _ _ _ H3H.out b1 b2 b3).mono ?_
  rintro e w4 ⟨rfl, H4, g4⟩
  have H4H := Lib.hid H4
  have G4 := Lib.hid (gb_trans G3.out g4)
  clear H4 g4
  go_wp2
  go_ret
  exact ⟨rfl, H4H.out, G4.out⟩


theorem enterEnd (args : Array Value) (w : World) : (callFunc 52 args).run Try.prog w = .ok (.enter 52 args) w := by kernel_rfl
theorem enterNext (args : Array Value) (w : World) : (callFunc 38 args).run Try.prog w = .ok (.enter 38 args) w := by kernel_rfl
theorem enterNew (args : Array Value) (w : World) : (callFunc 36 args).run Try.prog w = .ok (.enter 36 args) w := by kernel_rfl
theorem enterArrive (args : Array Value) (w : World) : (callFunc 46 args).run Try.prog w = .ok (.enter 46 args) w := by kernel_rfl
theorem enterMiss (args : Array Value) (w : World) : (callFunc 43 args).run Try.prog w = .ok (.enter 43 args) w := by kernel_rfl

set_option maxHeartbeats 1600000 in
theorem end_ok (K c : Nat) (l h f n s t a k l' h' k' now : Int) (w : World) (H : Sb w c l h f n s t t a k) (h0 : f ≠ 0) (h1 : 0 ≤ now) (h2 : now ≤ 1000000000) (h3 : n ≤ now) (t1 : 1 ≤ t) (t2 : t ≤ 1000000)
    (b1 : 0 ≤ l') (b2 : h' ≤ 9000) (b3 : -9000 ≤ h' - l') (hK : ∀ (args : Array Value) (w : World), (callFunc K args).run Try.prog w = .ok (.enter K args) w) (hD : Does K c l h f t a k l' h' k') :
    Calls Try.prog 45 #[.pointer (some ⟨c, 0, none⟩), .int .i64 now, .int .i64 t, .func (Fn.func K) #[.pointer (some ⟨c, 0, none⟩)] #[]] w fun e w' => e = .returned (.int .i64 0) ∧ Sb w' c l' h' f now (sn l' h' now s) t 0 a k' ∧ w.grownBy w' (some c) := by
  have hmf : ∀ (fn : Fn) (first cap : Array Value) (w : World), (Instr.makeFunc fn first cap).run Try.prog w = .ok (.func fn first cap) w := fun _ _ _ _ => rfl
  have hlt := H.lt
  obtain ⟨wA, hwA⟩ : ∃ wA, (((w.alloc (.cells #[.pointer (some ⟨c, 0, none⟩)] 31)).alloc (.cells #[.int .i64 now] 3)).alloc (.cells #[.int .i64 t] 3)).alloc (.cells #[.func (Fn.func K) #[.pointer (some ⟨c, 0, none⟩)] #[]] 1) = wA := ⟨_, rfl⟩
  have hsz : wA.heap.size = w.heap.size + 4 := by rw [← hwA]; simp
  have hgA : w.grownBy wA none := by rw [← hwA]; exact gb_trans (gb_trans (gb_trans (gb_alloc _ _ _) (gb_alloc _ _ _)) (gb_alloc _ _ _)) (gb_alloc _ _ _)
  have hgW := gb_trans hgA (Pb.aw_gb wA)
  have cp : (Pb.aw wA).cell? ⟨w.heap.size, 0, none⟩ = some (.pointer (some ⟨c, 0, none⟩)) := by rw [← hwA]; simp [Pb.aw, go_sem]
  have cn : (Pb.aw wA).cell? ⟨w.heap.size + 1, 0, none⟩ = some (.int .i64 now) := by rw [← hwA]; simp [Pb.aw, go_sem]
  have cm : (Pb.aw wA).cell? ⟨w.heap.size + 2, 0, none⟩ = some (.int .i64 t) := by rw [← hwA]; simp [Pb.aw, go_sem]
  have cd : (Pb.aw wA).cell? ⟨w.heap.size + 3, 0, none⟩ = some (.func (Fn.func K) #[.pointer (some ⟨c, 0, none⟩)] #[]) := by rw [← hwA]; simp [Pb.aw, go_sem]
  have hO := H.kept hgW (by simp)
  have HA := Lib.hid (Pb.att_ok 52 #[.pointer (some ⟨w.heap.size, 0, none⟩), .pointer (some ⟨w.heap.size + 1, 0, none⟩), .pointer (some ⟨w.heap.size + 2, 0, none⟩), .pointer (some ⟨w.heap.size + 3, 0, none⟩)] true wA (some c) (fun w' => Sb w' c l' h' f now (sn l' h' now s) t 0 a k') (sta_sb (by omega)) (fun k e => by cases e; omega) enterEnd
    (end1_ok K c _ _ _ _ l h f n s t a k l' h' k' now _ hO h0 h1 h2 h3 t1 t2 b1 b2 b3 hK hD cp cn cm cd (by omega) (by omega) (by omega)))
  have HG := Lib.hid (gb_none hgA (some c))
  clear H hO cp cn cm cd hgA hgW hsz hD hK h0
  go_enter Try.func45, Try.ntmps45
  go_wp2_with fail
  refine HA.out.mono ?_
  rintro e w2 ⟨rfl, H2, g2⟩
  have HE := Lib.hid H2
  have HGE := Lib.hid (gb_trans HG.out g2)
  clear H2 g2
  go_wp2
  go_ret
  exact ⟨rfl, HE.out, HGE.out⟩

set_option maxHeartbeats 800000 in
theorem Acked_ok (c : Nat) (l h f n s t a k now : Int) (w : World) (H : Sb w c l h f n s t t a k) (h0 : f ≠ 0) (h1 : 0 ≤ now) (h2 : now ≤ 1000000000) (h3 : n ≤ now) (t1 : 1 ≤ t) (t2 : t ≤ 1000000) (b1 : 0 ≤ a) (b2 : h ≤ 9000) (b3 : -9000 ≤ h - a) :
    Calls Try.prog 24 #[.pointer (some ⟨c, 0, none⟩), .int .i64 now, .int .i64 t] w fun e w' => e = .returned (.int .i64 0) ∧ Sb w' c a h f now (sn a h now s) t 0 a 0 ∧ w.grownBy w' (some c) := by
  have hmf : ∀ (fn : Fn) (first cap : Array Value) (w : World), (Instr.makeFunc fn first cap).run Try.prog w = .ok (.func fn first cap) w := fun _ _ _ _ => rfl
  have HA := Lib.hid (end_ok 46 c l h f n s t a k a h 0 now w H h0 h1 h2 h3 t1 t2 b1 b2 b3 enterArrive (fun W n s h => arrive_any c _ _ _ n s _ _ _ _ W h))
  clear H h0
  go_enter Try.func24, Try.ntmps24
  go_wp2_with fail
  refine HA.out.mono ?_
  rintro e w2 ⟨rfl, H2, g2⟩
  have HE := Lib.hid H2
  have HGE := Lib.hid g2
  clear H2 g2
  go_wp2
  go_ret
  exact ⟨rfl, HE.out, HGE.out⟩

/-- the range and the losses behind a loss -/
def lh (h a k : Int) : Int := if k = 2 then a - 1 else h
def lk (k : Int) : Int := if k = 2 then 0 else k + 1
theorem does_miss (c : Nat) (l h f t a k : Int) (a1 : 0 ≤ a) (a2 : a ≤ 9000) (k1 : 0 ≤ k) (k2 : k ≤ 2) : Does 43 c l h f t a k l (lh h a k) (lk k) := by
  intro W n s H
  by_cases hk : k = 2
  · subst hk
    rw [show lh h a 2 = a - 1 from if_pos rfl, show lk 2 = 0 from if_pos rfl]
    exact miss_less c l h f n s t 0 a W H a1 a2
  · rw [show lh h a k = h from if_neg hk, show lk k = k + 1 from if_neg hk]
    exact miss_lost c l h f n s t 0 a k W H k1 (by omega)

set_option maxHeartbeats 1600000 in
theorem Lost_ok (c : Nat) (l h f n s t a k now : Int) (w : World) (H : Sb w c l h f n s t t a k) (h0 : f ≠ 0) (h1 : 0 ≤ now) (h2 : now ≤ 1000000000) (h3 : n ≤ now) (t1 : 1 ≤ t) (t2 : t ≤ 1000000) (b1 : 0 ≤ l) (b2 : lh h a k ≤ 9000) (b3 : -9000 ≤ lh h a k - l) (a1 : 0 ≤ a) (a2 : a ≤ 9000) (k1 : 0 ≤ k) (k2 : k ≤ 2) :
    Calls Try.prog 23 #[.pointer (some ⟨c, 0, none⟩), .int .i64 now, .int .i64 t, .bool false] w fun e w' => e = .returned (.int .i64 0) ∧ Sb w' c l (lh h a k) f now (sn l (lh h a k) now s) t 0 a (lk k) ∧ w.grownBy w' (some c) := by
  have hmf : ∀ (fn : Fn) (first cap : Array Value) (w : World), (Instr.makeFunc fn first cap).run Try.prog w = .ok (.func fn first cap) w := fun _ _ _ _ => rfl
  have hgA : w.grownBy (w.alloc (.cells #[.func (Fn.func 43) #[.pointer (some ⟨c, 0, none⟩)] #[], .func (Fn.func 44) #[.pointer (some ⟨c, 0, none⟩)] #[]] 70)) none := gb_alloc _ _ _
  have HA := Lib.hid (end_ok 43 c l h f n s t a k l (lh h a k) (lk k) now _ (H.kept hgA (by simp)) h0 h1 h2 h3 t1 t2 b1 b2 b3 enterMiss (does_miss c l h f t a k a1 a2 k1 k2))
  have HG := Lib.hid (gb_none hgA (some c))
  clear H h0 hgA
  go_enter Try.func23, Try.ntmps23
  go_wp2_with fail
  refine HA.out.mono ?_
  rintro e w2 ⟨rfl, H2, g2⟩
  have HE := Lib.hid H2
  have HGE := Lib.hid (gb_trans HG.out g2)
  clear H2 g2
  go_wp2
  go_ret
  exact ⟨rfl, HE.out, HGE.out⟩

/-! Next -/
def nextW (w : World) (c : Nat) (now : Int) : World := (w.alloc (.cells #[.pointer (some ⟨c, 0, none⟩)] 31)).alloc (.cells #[.int .i64 now] 3)
theorem nextW_size (w : World) (c : Nat) (now : Int) : (nextW w c now).heap.size = w.heap.size + 2 := by simp [nextW]
theorem nextW_gb (w : World) (c : Nat) (now : Int) : w.grownBy (nextW w c now) none := gb_trans (gb_alloc _ _ _) (gb_alloc _ _ _)
theorem nextW_cp (w : World) (c : Nat) (now : Int) : (Pb.aw (nextW w c now)).cell? ⟨w.heap.size, 0, none⟩ = some (.pointer (some ⟨c, 0, none⟩)) := by simp [Pb.aw, nextW, go_sem]
theorem nextW_cn (w : World) (c : Nat) (now : Int) : (Pb.aw (nextW w c now)).cell? ⟨w.heap.size + 1, 0, none⟩ = some (.int .i64 now) := by simp [Pb.aw, nextW, go_sem]

set_option maxHeartbeats 1600000 in
theorem Next_of_ok (c : Nat) (now : Int) (w : World) (l h f n s t u a k : Int) (hlt : c < w.heap.size)
    (hf : Calls Try.prog 38 #[.pointer (some ⟨w.heap.size, 0, none⟩), .pointer (some ⟨w.heap.size + 1, 0, none⟩)] (Pb.aw (nextW w c now)) fun e w' => e = .returned (.bool true) ∧ Sb w' c l h f n s t u a k ∧ (Pb.aw (nextW w c now)).grownBy w' (some c)) :
    Calls Try.prog 15 #[.pointer (some ⟨c, 0, none⟩), .int .i64 now] w fun e w' => e = .returned (.tuple #[.int .i64 a, .int .i64 t, .int .i64 0]) ∧ Sb w' c l h f n s t u a k ∧ w.grownBy w' (some c) := by
  have hmf : ∀ (fn : Fn) (first cap : Array Value) (w : World), (Instr.makeFunc fn first cap).run Try.prog w = .ok (.func fn first cap) w := fun _ _ _ _ => rfl
  have hsz := nextW_size w c now
  have HA := Lib.hid (Pb.att_ok 38 _ true (nextW w c now) (some c) (fun w' => Sb w' c l h f n s t u a k) (sta_sb (by omega)) (fun k e => by cases e; omega) enterNext hf)
  have HG := Lib.hid (gb_none (nextW_gb w c now) (some c))
  have cp := nextW_cp w c now
  have HP : Hid ((nextW w c now).cell? ⟨w.heap.size, 0, none⟩ = some (.pointer (some ⟨c, 0, none⟩))) := Lib.hid (by simp [nextW, go_sem])
  clear hf hsz cp
  go_enter Try.func15, Try.ntmps15
  go_wp2_with fail
  refine HA.out.mono ?_
  rintro e w2 ⟨rfl, H2, g2⟩
  have cp2 := gb_cell g2 HP.out (by simp; omega)
  have c5 := H2.c5
  have c7 := H2.c7
  have HE := Lib.hid H2
  have HGE := Lib.hid (gb_trans HG.out g2)
  clear H2 g2
  go_wp2_with fail
  go_quiet (fail)
  go_wp2
  exact bodyPost_ret (v := .tuple #[.int .i64 a, .int .i64 t, .int .i64 0]) (by simp [results, Try.results15, go_sem]) rfl ⟨rfl, HE.out, gb_trans HGE.out (gb_drew _ _ _)⟩
set_option maxHeartbeats 1600000 in
theorem Next_of_no (c : Nat) (now : Int) (w : World) (l h f n s t u a k : Int) (hlt : c < w.heap.size)
    (hf : Calls Try.prog 38 #[.pointer (some ⟨w.heap.size, 0, none⟩), .pointer (some ⟨w.heap.size + 1, 0, none⟩)] (Pb.aw (nextW w c now)) fun e w' => e = .panicked [{ v := .iface 24 (.int .i64 8), recovered := false }] ∧ Sb w' c l h f n s t u a k ∧ (Pb.aw (nextW w c now)).grownBy w' (some c)) :
    Calls Try.prog 15 #[.pointer (some ⟨c, 0, none⟩), .int .i64 now] w fun e w' => e = .returned (.tuple #[.int .i64 0, .int .i64 0, .int .i64 8]) ∧ Sb w' c l h f n s t u a k ∧ w.grownBy w' (some c) := by
  have hmf : ∀ (fn : Fn) (first cap : Array Value) (w : World), (Instr.makeFunc fn first cap).run Try.prog w = .ok (.func fn first cap) w := fun _ _ _ _ => rfl
  have hsz := nextW_size w c now
  have HA := Lib.hid (Pb.att_no 38 _ 8 (nextW w c now) (some c) (fun w' => Sb w' c l h f n s t u a k) (sta_sb (by omega)) (fun k e => by cases e; omega) enterNext hf)
  have HG := Lib.hid (gb_none (nextW_gb w c now) (some c))
  clear hf hsz
  go_enter Try.func15, Try.ntmps15
  go_wp2_with fail
  refine HA.out.mono ?_
  rintro e w2 ⟨rfl, H2, g2⟩
  have HE := Lib.hid H2
  have HGE := Lib.hid (gb_trans HG.out g2)
  clear H2 g2
  go_wp2
  exact bodyPost_ret (v := .tuple #[.int .i64 0, .int .i64 0, .int .i64 8]) (by simp [results, Try.results15, go_sem]) rfl ⟨rfl, HE.out, HGE.out⟩

section
variable (c : Nat) (l h f n s t a k now : Int) (w : World) (H : Sb w c l h f n s t 0 a k) (h0 : f ≠ 0) (h1 : 0 ≤ now) (h2 : now ≤ 1000000000) (h3 : n ≤ now) (t1 : 0 ≤ t) (t2 : t ≤ 1000000) (b1 : 0 ≤ l) (b2 : h ≤ 9000)
include H h0 h1 h2 h3 t1 t2 b1 b2
theorem Next_go (hc : 16 ≤ h - l) : Calls Try.prog 15 #[.pointer (some ⟨c, 0, none⟩), .int .i64 now] w fun e w' => e = .returned (.tuple #[.int .i64 (mid l h), .int .i64 (t + 1), .int .i64 0]) ∧ Sb w' c l h f now s (t + 1) (t + 1) (mid l h) (nk (mid l h) a k) ∧ w.grownBy w' (some c) :=
  Next_of_ok c now w _ _ _ _ _ _ _ _ _ H.lt (Next1_go c _ _ l h f n s t a k now _ (H.kept (gb_trans (nextW_gb w c now) (Pb.aw_gb _)) (by simp)) h0 h1 h2 h3 t1 t2 b1 b2 hc (nextW_cp w c now) (nextW_cn w c now) (by have := H.lt; omega) (by have := H.lt; omega))
variable (b3 : -9000 ≤ h - l) (hc : h - l < 16) (s1 : 0 ≤ s) (s2 : s ≤ 1000000000)
include b3 hc s1 s2
theorem Next_rest (hs : now < s + 600000) : Calls Try.prog 15 #[.pointer (some ⟨c, 0, none⟩), .int .i64 now] w fun e w' => e = .returned (.tuple #[.int .i64 0, .int .i64 0, .int .i64 8]) ∧ Sb w' c l h f n s t 0 a k ∧ w.grownBy w' (some c) :=
  Next_of_no c now w _ _ _ _ _ _ _ _ _ H.lt (Next1_rest c _ _ l h f n s t a k now _ (H.kept (gb_trans (nextW_gb w c now) (Pb.aw_gb _)) (by simp)) h0 h1 h2 h3 t1 t2 b1 b2 b3 hc s1 s2 hs (nextW_cp w c now) (nextW_cn w c now) (by have := H.lt; omega) (by have := H.lt; omega))
variable (hs : s + 600000 ≤ now) (b4 : 0 ≤ f) (b5 : f ≤ 9000)
include hs b4 b5
theorem Next_end (hf : f - l < 16) (b6 : -9000 ≤ f - l) : Calls Try.prog 15 #[.pointer (some ⟨c, 0, none⟩), .int .i64 now] w fun e w' => e = .returned (.tuple #[.int .i64 0, .int .i64 0, .int .i64 8]) ∧ Sb w' c l f f now now t 0 a k ∧ w.grownBy w' (some c) :=
  Next_of_no c now w _ _ _ _ _ _ _ _ _ H.lt (Next1_end c _ _ l h f n s t a k now _ (H.kept (gb_trans (nextW_gb w c now) (Pb.aw_gb _)) (by simp)) h0 h1 h2 h3 t1 t2 b1 b2 b3 hc s1 s2 hs b4 b5 hf b6 (nextW_cp w c now) (nextW_cn w c now) (by have := H.lt; omega) (by have := H.lt; omega))
theorem Next_anew (hf : 16 ≤ f - l) : Calls Try.prog 15 #[.pointer (some ⟨c, 0, none⟩), .int .i64 now] w fun e w' => e = .returned (.tuple #[.int .i64 (mid l f), .int .i64 (t + 1), .int .i64 0]) ∧ Sb w' c l f f now s (t + 1) (t + 1) (mid l f) (nk (mid l f) a k) ∧ w.grownBy w' (some c) :=
  Next_of_ok c now w _ _ _ _ _ _ _ _ _ H.lt (Next1_anew c _ _ l h f n s t a k now _ (H.kept (gb_trans (nextW_gb w c now) (Pb.aw_gb _)) (by simp)) h0 h1 h2 h3 t1 t2 b1 b2 b3 hc s1 s2 hs b4 b5 hf (nextW_cp w c now) (nextW_cn w c now) (by have := H.lt; omega) (by have := H.lt; omega))
end

set_option maxHeartbeats 400000 in
theorem Size_any (c : Nat) (l h f n s t u a k : Int) (w : World) (H : Sb w c l h f n s t u a k) :
    Calls Try.prog 13 #[.pointer (some ⟨c, 0, none⟩)] w fun e w' => e = .returned (.int .i64 l) ∧ w = w' := by
  have c0 := H.c0
  clear H
  go_enter Try.func13, Try.ntmps13
  go_wp2
  go_ret
  exact ⟨rfl, rfl⟩
set_option maxHeartbeats 400000 in
theorem Sent_any (c : Nat) (l h f n s t u a k : Int) (w : World) (H : Sb w c l h f n s t u a k) :
    Calls Try.prog 14 #[.pointer (some ⟨c, 0, none⟩)] w fun e w' => e = .returned (.int .i64 t) ∧ w = w' := by
  have c5 := H.c5
  clear H
  go_enter Try.func14, Try.ntmps14
  go_wp2
  go_ret
  exact ⟨rfl, rfl⟩
set_option maxHeartbeats 400000 in
theorem Range_any (c : Nat) (l h f n s t u a k : Int) (w : World) (H : Sb w c l h f n s t u a k) :
    Calls Try.prog 17 #[.pointer (some ⟨c, 0, none⟩)] w fun e w' => e = .returned (.tuple #[.int .i64 l, .int .i64 h]) ∧ w.grownBy w' none := by
  have c0 := H.c0
  have c1 := H.c1
  clear H
  go_enter Try.func17, Try.ntmps17
  go_wp2_with fail
  go_quiet (fail)
  go_wp2
  go_ret2
  exact ⟨rfl, gb_drew _ _ _⟩
set_option maxHeartbeats 800000 in
theorem State_two (c : Nat) (l h f n s t u a k : Int) (w : World) (H : Sb w c l h f n s t u a k) (b1 : 0 ≤ l) (b2 : h ≤ 9000) (b3 : -9000 ≤ h - l) (hc : h - l < 16) (s1 : 0 ≤ s) (s2 : s ≤ 1000000000) (hs : n < s + 600000) :
    Calls Try.prog 16 #[.pointer (some ⟨c, 0, none⟩)] w fun e w' => e = .returned (.int .i64 2) ∧ w.grownBy w' none := by
  have c0 := H.c0
  have c1 := H.c1
  have HH := Lib.hid H
  clear H
  go_enter Try.func16, Try.ntmps16
  go_wp2_with fail
  refine (close_t l h _ b1 b2 b3 hc).mono ?_
  rintro e w1 ⟨rfl, g1⟩
  have H1 := HH.out.kept g1 (by simp)
  have c3 := H1.c3
  have c4 := H1.c4
  have ew := IntWalk.i64_in (s + 600000) (by omega)
  have e1 : decide (n < s + 600000) = true := by simpa using hs
  have G1 := Lib.hid g1
  clear H1 g1 c0 c1 HH
  go_wp2_with fail
  go_quiet (fail)
  clear ew
  go_wp2
  go_ret
  exact ⟨rfl, gb_trans G1.out (gb_drew _ _ _)⟩
set_option maxHeartbeats 1600000 in
theorem New1_ok (pl ph : Nat) (l h : Int) (w : World) (H : rightB l h = true) (cl : w.cell? ⟨pl, 0, none⟩ = some (.int .i64 l)) (ch : w.cell? ⟨ph, 0, none⟩ = some (.int .i64 h)) :
    Calls Try.prog 36 #[.pointer (some ⟨pl, 0, none⟩), .pointer (some ⟨ph, 0, none⟩)] w fun e w' => e = .returned (.pointer (some ⟨w.heap.size, 0, none⟩)) ∧ Sb w' w.heap.size l h h 0 0 0 0 0 0 ∧ w.grownBy w' none := by
  have HA := Lib.hid (askSizes_t l h w H)
  clear H
  go_enter Try.func36, Try.ntmps36
  go_wp2_with fail
  refine HA.out.mono ?_
  rintro e w1 ⟨rfl, rfl⟩
  go_wp2
  go_ret
  exact ⟨rfl, World.alloc_heap_new _ _, gb_alloc _ _ _⟩
set_option maxHeartbeats 1600000 in
theorem New_ok (l h : Int) (w : World) (H : rightB l h = true) :
    Calls Try.prog 11 #[.int .i64 l, .int .i64 h] w fun e w' => e = .returned (.tuple #[.pointer (some ⟨w.heap.size + 4, 0, none⟩), .int .i64 0]) ∧ Sb w' (w.heap.size + 4) l h h 0 0 0 0 0 0 ∧ w.grownBy w' none := by
  have hmf : ∀ (fn : Fn) (first cap : Array Value) (w : World), (Instr.makeFunc fn first cap).run Try.prog w = .ok (.func fn first cap) w := fun _ _ _ _ => rfl
  obtain ⟨wA, hwA⟩ : ∃ wA, (w.alloc (.cells #[.int .i64 l] 3)).alloc (.cells #[.int .i64 h] 3) = wA := ⟨_, rfl⟩
  have hsz : wA.heap.size = w.heap.size + 2 := by rw [← hwA]; simp
  have hgA : w.grownBy wA none := by rw [← hwA]; exact gb_trans (gb_alloc _ _ _) (gb_alloc _ _ _)
  have hsz2 : (Pc.aw wA).heap.size = w.heap.size + 4 := by rw [Pc.aw_size, hsz]
  have cl : (Pc.aw wA).cell? ⟨w.heap.size, 0, none⟩ = some (.int .i64 l) := by rw [← hwA]; simp [Pc.aw, go_sem]
  have ch : (Pc.aw wA).cell? ⟨w.heap.size + 1, 0, none⟩ = some (.int .i64 h) := by rw [← hwA]; simp [Pc.aw, go_sem]
  have h1 := New1_ok _ _ l h (Pc.aw wA) H cl ch
  rw [hsz2] at h1
  have HA := Lib.hid (Pc.att_ok 36 _ _ wA none (fun w' => Sb w' (w.heap.size + 4) l h h 0 0 0 0 0 0) (sta_above (by omega)) (fun k e => by cases e) enterNew h1)
  have HG := Lib.hid hgA
  clear h1 H hgA cl ch hsz hsz2
  go_enter Try.func11, Try.ntmps11
  go_wp2_with fail
  refine HA.out.mono ?_
  rintro e w2 ⟨rfl, H2, g2⟩
  have HE := Lib.hid H2
  have HGE := Lib.hid (gb_trans HG.out g2)
  clear H2 g2
  go_wp2
  go_ret2
  exact ⟨rfl, HE.out, HGE.out⟩

end Go.Proofs.Ytjoejaclnijacaa.Ps