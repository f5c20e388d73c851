/-
  An ordinary control: the program's methods.
-/
import Derived.Test.YtdkfniijoamaoadEs
import Derived.Test.YtdkfniijoamaoadEt
namespace Go.Proofs.Ytdkfniijoamaoad.Ew
open Go Go.RowKit Go.Proofs.Ytdkfniijoamaoad.Ee

theorem gb_new {w w1 : World} {r : Option Nat} (g : w.grownBy w1 r) (b i : Nat) (v : Value) (hb : w.heap.size ≤ b) : w.grownBy (w1.setCell ⟨b, i, none⟩ v) r :=
  ⟨(World.os_setCells w1 b i [v]).trans g.os, g.tape, (World.output_setCells w1 b i [v]).trans g.output, by simp; exact g.size,
   fun k hk hne => (World.heap_setCells_other w1 b i [v] (Nat.lt_of_lt_of_le hk g.size) (by omega)).trans (g.block k hk hne)⟩

theorem att_ob (K : Nat) (caps : Array Value) (s : Bool) (w : World) (c : Nat) (n a l th : Int) (hv : Bool) (hc : c < w.heap.size) (hK : ∀ (args : Array Value) (w : World), (callFunc K args).run Try.prog w = .ok (.enter K args) w)
    (hf : Calls Try.prog K caps (Ea.aw w) fun e w1 => e = .returned (.bool s) ∧ Ob w1 c n hv a l th ∧ (Ea.aw w).grownBy w1 (some c)) :
    Calls Try.prog 28 #[.func (Fn.func K) #[] caps] w fun e w' => e = .returned (.tuple #[.bool s, .int .i64 0]) ∧ Ob w' c n hv a l th ∧ w.grownBy w' (some c) := by
  have hgW : w.grownBy (Ea.aw w) none := by unfold Ea.aw; exact gb_trans (World.grownBy_alloc _ _ _) (World.grownBy_alloc _ _ _)
  refine (Ea.attempt_gen K caps s w (fun w1 => Ob w1 c n hv a l th ∧ (Ea.aw w).grownBy w1 (some c)) hK hf (fun w1 h => by
      have hb1 : (Ea.aw w).heap[w.heap.size]? = some (.cells #[.bool false] 4) := by unfold Ea.aw; exact (Below.heap_alloc _ _ _ (by simp)).trans (World.alloc_heap_new _ _)
      have hb2 : (Ea.aw w).heap[w.heap.size + 1]? = some (.cells #[.int .i64 0] 26) := by unfold Ea.aw; have := World.alloc_heap_new (w.alloc (.cells #[.bool false] 4)) (.cells #[.int .i64 0] 26); rwa [World.size_alloc] at this
      have k1 := (h.2.block w.heap.size (by simp [Ea.aw]; omega) (fun e => by have := Option.some.inj e; omega)).trans hb1
      have k2 := (h.2.block (w.heap.size + 1) (by simp [Ea.aw]) (fun e => by have := Option.some.inj e; omega)).trans hb2
      exact ⟨⟨false, by simp [World.cell?, k1]⟩, by simp [World.frozen?, k1], ⟨0, by simp [World.cell?, k2]⟩, by simp [World.frozen?, k2]⟩)).mono ?_
  rintro e w2 ⟨rfl, w1, ⟨hO, hg⟩, rfl⟩
  refine ⟨rfl, ?_, ?_⟩
  · exact (hO.kept (gb_set w1 w.heap.size 0 _) (fun e => by have := Option.some.inj e; omega)).kept (gb_set _ (w.heap.size + 1) 0 _) (fun e => by have := Option.some.inj e; omega)
  · exact gb_new (gb_new (gb_trans (gb_none hgW _) hg) _ _ _ (Nat.le_refl _)) _ _ _ (by omega)

/-- what the methods answer and leave -/
def ackE (b : Int) : Int := if wn b 0 1000000 = true then 0 else 7
def ackL (l th b : Int) : Int := if wn b 0 1000000 = true then ak l th b else l
def lossOk (n now tr : Int) : Bool := wn now n 1000000000 && wn tr 0 60000

set_option maxHeartbeats 1600000 in
theorem Acked_any (c : Nat) (n a l th b : Int) (hv : Bool) (w : World) (h : Ob w c n hv a l th) (hI : In n a l th) :
    Calls Try.prog 20 #[.pointer (some ⟨c, 0, none⟩), .int .i64 b] w fun e w' => e = .returned (.int .i64 (ackE b)) ∧ Ob w' c n hv a (ackL l th b) th ∧ w.grownBy w' (some c) := by
  obtain ⟨i1, i2, i3, i4, i5, i6, i7, i8⟩ := hI
  have hmf : ∀ (fn : Fn) (first cap : Array Value) (w : World), (Instr.makeFunc fn first cap).run Try.prog w = .ok (.func fn first cap) w := fun _ _ _ _ => rfl
  have hlt := h.lt
  obtain ⟨wA, hwA⟩ : ∃ wA, (w.alloc (.cells #[.pointer (some ⟨c, 0, none⟩)] 40)).alloc (.cells #[.int .i64 b] 3) = wA := ⟨_, rfl⟩
  have hsz : wA.heap.size = w.heap.size + 2 := by rw [← hwA]; simp
  have hgA : w.grownBy wA none := by rw [← hwA]; exact gb_trans (World.grownBy_alloc _ _ _) (World.grownBy_alloc _ _ _)
  have hgW : wA.grownBy (Ea.aw wA) none := by unfold Ea.aw; exact gb_trans (World.grownBy_alloc _ _ _) (World.grownBy_alloc _ _ _)
  have cp : (Ea.aw wA).cell? ⟨w.heap.size, 0, none⟩ = some (.pointer (some ⟨c, 0, none⟩)) := by rw [← hwA]; simp [Ea.aw, go_sem]
  have cb : (Ea.aw wA).cell? ⟨w.heap.size + 1, 0, none⟩ = some (.int .i64 b) := by rw [← hwA]; simp [Ea.aw, go_sem]
  have hO' : Ob (Ea.aw wA) c n hv a l th := (h.kept hgA (by simp)).kept hgW (by simp)
  cases hb : wn b 0 1000000
  · have hA := Ea.attempt_err 52 #[.pointer (some ⟨w.heap.size, 0, none⟩), .pointer (some ⟨w.heap.size + 1, 0, none⟩)] 7 wA enterAcked (AckedF_no _ _ c n a l th b hv _ hO' i5 hb cp cb)
    have HA := Lib.hid hA
    have HO := Lib.hid (h.kept hgA (by simp))
    have HG := Lib.hid hgA
    clear hA h hO' cp cb hgA hgW hsz
    go_enter Try.func20, Try.ntmps20
    go_wp2_with fail
    refine HA.out.mono ?_
    rintro e w2 ⟨rfl, hbw⟩
    go_wp2
    go_ret
    refine ⟨by unfold ackE; rw [hb]; rfl, ?_, ?_⟩
    · unfold ackL; rw [hb]; exact HO.out.kept (gb_below hbw none) (by simp)
    · exact gb_trans (gb_none HG.out _) (gb_below hbw _)
  · have hA := att_ob 52 #[.pointer (some ⟨w.heap.size, 0, none⟩), .pointer (some ⟨w.heap.size + 1, 0, none⟩)] true wA c n a (ak l th b) th hv (by omega) enterAcked (AckedF_yes _ _ c n a l th b hv _ hO' i5 i6 hb cp cb)
    have HA := Lib.hid hA
    have HG := Lib.hid hgA
    clear hA h hO' cp cb hgA hgW hsz
    go_enter Try.func20, Try.ntmps20
    go_wp2_with fail
    refine HA.out.mono ?_
    rintro e w2 ⟨rfl, hO, hg⟩
    go_wp2
    go_ret
    refine ⟨by unfold ackE; rw [hb]; rfl, ?_, ?_⟩
    · unfold ackL; rw [hb]; exact hO
    · exact gb_trans (gb_none HG.out _) hg

set_option maxHeartbeats 1600000 in
theorem Out_any (c : Nat) (n a l th : Int) (hv : Bool) (w : World) (h : Ob w c n hv a l th) (hI : In n a l th) :
    Calls Try.prog 18 #[.pointer (some ⟨c, 0, none⟩)] w fun e w' => e = .returned (.int .i64 0) ∧ Ob w' c n hv a 1500 (hl l) ∧ w.grownBy w' (some c) := by
  obtain ⟨i1, i2, i3, i4, i5, i6, i7, i8⟩ := hI
  have hmf : ∀ (fn : Fn) (first cap : Array Value) (w : World), (Instr.makeFunc fn first cap).run Try.prog w = .ok (.func fn first cap) w := fun _ _ _ _ => rfl
  have hlt := h.lt
  obtain ⟨wA, hwA⟩ : ∃ wA, w.alloc (.cells #[.pointer (some ⟨c, 0, none⟩)] 40) = wA := ⟨_, rfl⟩
  have hsz : wA.heap.size = w.heap.size + 1 := by rw [← hwA]; simp
  have hgA : w.grownBy wA none := by rw [← hwA]; exact World.grownBy_alloc _ _ _
  have hgW : wA.grownBy (Ea.aw wA) none := by unfold Ea.aw; exact gb_trans (World.grownBy_alloc _ _ _) (World.grownBy_alloc _ _ _)
  have cp : (Ea.aw wA).cell? ⟨w.heap.size, 0, none⟩ = some (.pointer (some ⟨c, 0, none⟩)) := by rw [← hwA]; simp [Ea.aw, go_sem]
  have hO' : Ob (Ea.aw wA) c n hv a l th := (h.kept hgA (by simp)).kept hgW (by simp)
  have hA := att_ob 50 #[.pointer (some ⟨w.heap.size, 0, none⟩)] true wA c n a 1500 (hl l) hv (by omega) enterOut (OutF _ c n a l th hv _ hO' i5 i6 cp (by omega))
  have HA := Lib.hid hA
  have HG := Lib.hid hgA
  clear hA h hO' cp hgA hgW hsz
  go_enter Try.func18, Try.ntmps18
  go_wp2_with fail
  refine HA.out.mono ?_
  rintro e w2 ⟨rfl, hO, hg⟩
  go_wp2
  go_ret
  exact ⟨rfl, hO, gb_trans (gb_none HG.out _) hg⟩

set_option maxHeartbeats 1600000 in
theorem Loss_any (c : Nat) (n a l th now tr : Int) (hv : Bool) (w : World) (h : Ob w c n hv a l th) (hI : In n a l th) (r : Bool) (n' a' l' th' : Int) (hv' : Bool)
    (hr : lossOk n now tr = true → r = !soon a now tr hv) (hr0 : lossOk n now tr = false → r = false ∧ n' = n ∧ hv' = hv ∧ a' = a ∧ l' = l ∧ th' = th)
    (hs1 : lossOk n now tr = true → soon a now tr hv = true → n' = now ∧ hv' = hv ∧ a' = a ∧ l' = l ∧ th' = th)
    (hs2 : lossOk n now tr = true → soon a now tr hv = false → n' = now ∧ hv' = true ∧ a' = now ∧ l' = hl l ∧ th' = hl l) :
    Calls Try.prog 16 #[.pointer (some ⟨c, 0, none⟩), .int .i64 now, .int .i64 tr] w fun e w' => e = .returned (.tuple #[.bool r, .int .i64 (if lossOk n now tr = true then 0 else 7)]) ∧ Ob w' c n' hv' a' l' th' ∧ w.grownBy w' (some c) := by
  have hmf : ∀ (fn : Fn) (first cap : Array Value) (w : World), (Instr.makeFunc fn first cap).run Try.prog w = .ok (.func fn first cap) w := fun _ _ _ _ => rfl
  have hlt := h.lt
  obtain ⟨wA, hwA⟩ : ∃ wA, ((w.alloc (.cells #[.pointer (some ⟨c, 0, none⟩)] 40)).alloc (.cells #[.int .i64 now] 3)).alloc (.cells #[.int .i64 tr] 3) = wA := ⟨_, rfl⟩
  have hsz : wA.heap.size = w.heap.size + 3 := by rw [← hwA]; simp
  have hgA : w.grownBy wA none := by rw [← hwA]; exact gb_trans (gb_trans (World.grownBy_alloc _ _ _) (World.grownBy_alloc _ _ _)) (World.grownBy_alloc _ _ _)
  have hgW : wA.grownBy (Ea.aw wA) none := by unfold Ea.aw; exact gb_trans (World.grownBy_alloc _ _ _) (World.grownBy_alloc _ _ _)
  have cp : (Ea.aw wA).cell? ⟨w.heap.size, 0, none⟩ = some (.pointer (some ⟨c, 0, none⟩)) := by rw [← hwA]; simp [Ea.aw, go_sem]
  have cn : (Ea.aw wA).cell? ⟨w.heap.size + 1, 0, none⟩ = some (.int .i64 now) := by rw [← hwA]; simp [Ea.aw, go_sem]
  have ct : (Ea.aw wA).cell? ⟨w.heap.size + 2, 0, none⟩ = some (.int .i64 tr) := by rw [← hwA]; simp [Ea.aw, go_sem]
  have hO' : Ob (Ea.aw wA) c n hv a l th := (h.kept hgA (by simp)).kept hgW (by simp)
  cases hk : lossOk n now tr
  · obtain ⟨rfl, rfl, rfl, rfl, rfl, rfl⟩ := hr0 hk
    have hA := Ea.attempt_err 46 #[.pointer (some ⟨w.heap.size, 0, none⟩), .pointer (some ⟨w.heap.size + 1, 0, none⟩), .pointer (some ⟨w.heap.size + 2, 0, none⟩)] 7 wA enterLoss (LossF_no _ _ _ c _ _ _ _ now tr _ _ hO' hI.2.2.2.2.1 hk cp cn ct)
    have HA := Lib.hid hA
    have HO := Lib.hid (h.kept hgA (by simp))
    have HG := Lib.hid hgA
    clear hA h hO' cp cn ct hgA hgW hsz hr hr0 hs1 hs2 hI
    go_enter Try.func16, Try.ntmps16
    go_wp2_with fail
    refine HA.out.mono ?_
    rintro e w2 ⟨rfl, hbw⟩
    go_wp2
    go_ret2
    exact ⟨rfl, HO.out.kept (gb_below hbw none) (by simp), gb_trans (gb_none HG.out _) (gb_below hbw _)⟩
  · have hk2 : wn now n 1000000000 = true ∧ wn tr 0 60000 = true := by unfold lossOk at hk; simpa using hk
    have hr := hr hk
    have hs1 := hs1 hk
    have hs2 := hs2 hk
    have hA : Calls Try.prog 28 #[.func (Fn.func 46) #[] #[.pointer (some ⟨w.heap.size, 0, none⟩), .pointer (some ⟨w.heap.size + 1, 0, none⟩), .pointer (some ⟨w.heap.size + 2, 0, none⟩)]] wA fun e w' => e = .returned (.tuple #[.bool r, .int .i64 0]) ∧ Ob w' c n' hv' a' l' th' ∧ wA.grownBy w' (some c) := by
      refine att_ob _ _ r wA c n' a' l' th' hv' (by omega) enterLoss ?_
      cases hs : soon a now tr hv
      · have hr2 : r = true := by rw [hr, hs]; rfl
        obtain ⟨rfl, rfl, rfl, rfl, rfl⟩ := hs2 hs
        rw [hr2]
        exact LossF_late _ _ _ c n a l th _ tr hv _ hO' hI hk2.1 hk2.2 hs cp cn ct
      · have hr2 : r = false := by rw [hr, hs]; rfl
        obtain ⟨rfl, rfl, rfl, rfl, rfl⟩ := hs1 hs
        rw [hr2]
        exact LossF_soon _ _ _ c n _ _ _ _ tr _ _ hO' hI hk2.1 hk2.2 hs cp cn ct
    have HA := Lib.hid hA
    have HG := Lib.hid hgA
    clear hA h hO' cp cn ct hgA hgW hsz hr hr0 hs1 hs2 hI
    go_enter Try.func16, Try.ntmps16
    go_wp2_with fail
    refine HA.out.mono ?_
    rintro e w2 ⟨rfl, hO, hg⟩
    go_wp2
    go_ret2
    exact ⟨rfl, hO, gb_trans (gb_none HG.out _) hg⟩

set_option maxHeartbeats 400000 in
theorem Limit_any (c : Nat) (n a l th : Int) (hv : Bool) (w : World) (h : Ob w c n hv a l th) :
    Calls Try.prog 22 #[.pointer (some ⟨c, 0, none⟩)] w fun e w' => e = .returned (.int .i64 l) ∧ w = w' := by
  have c3 := h.c3
  clear h
  go_enter Try.func22, Try.ntmps22
  go_wp2
  go_ret
  exact ⟨rfl, rfl⟩
set_option maxHeartbeats 400000 in
theorem NewOrdinary_any (w : World) :
    Calls Try.prog 14 #[] w fun e w' => e = .returned (.pointer (some ⟨w.heap.size, 0, none⟩)) ∧ Ob w' w.heap.size 0 false 0 3000 1000000 ∧ w.grownBy w' none := by
  go_enter Try.func14, Try.ntmps14
  go_wp2
  go_ret
  exact ⟨rfl, World.alloc_heap_new _ _, World.grownBy_alloc _ _ _⟩
end Go.Proofs.Ytdkfniijoamaoad.Ew
