/-
  Find as called; the law's check.
-/
import Derived.Test.YtjoejaclnijacaaPf
namespace Go.Proofs.Ytjoejaclnijacaa.Ps
open Go Go.RowKit Go.Proofs.Ytjoejaclnijacaa.Sx Go.Proofs.Ytjoejaclnijacaa.Pm

/-- a bound that is right -/
def bndB (b : Int) : Bool := decide (0 ≤ b) && decide (b ≤ 10000)
theorem bndB_t {b : Int} (h : bndB b = true) : 0 ≤ b ∧ b ≤ 10000 := by unfold bndB at h; simpa using h
theorem bndB_f {b : Int} (h : bndB b = false) : b < 0 ∨ 10000 < b := by unfold bndB at h; simp at h; omega

set_option maxRecDepth 100000 in
set_option maxHeartbeats 1600000 in
theorem FindF_no (pl ph pb pc : Nat) (l h bound : Int) (w : World) (hr : (rightB l h && bndB bound) = false)
    (cl : w.cell? ⟨pl, 0, none⟩ = some (.int .i64 l)) (chh : w.cell? ⟨ph, 0, none⟩ = some (.int .i64 h)) (cb : w.cell? ⟨pb, 0, none⟩ = some (.int .i64 bound)) :
    Calls Try.prog 19 #[.pointer (some ⟨pl, 0, none⟩), .pointer (some ⟨ph, 0, none⟩), .pointer (some ⟨pb, 0, none⟩), .pointer (some ⟨pc, 0, none⟩)] w fun e w' => e = .panicked [{ v := .iface 24 (.int .i64 7), recovered := false }] ∧ w.grownBy w' none := by
  have cl1 := gb_cell (gb_alloc w (.cells #[.int .i64 0, .int .i64 0] 41) none) cl (by simp)
  have chh1 := gb_cell (gb_alloc w (.cells #[.int .i64 0, .int .i64 0] 41) none) chh (by simp)
  have cb1 := gb_cell (gb_alloc w (.cells #[.int .i64 0, .int .i64 0] 41) none) cb (by simp)
  cases h1 : rightB l h
  · have HA := Lib.hid (fun w => askSizes_f l h w h1)
    clear h1 hr
    go_enter Try.func19, Try.ntmps19
    go_wp2_with fail
    refine (HA.out _).mono ?_
    rintro e w1 ⟨rfl, rfl⟩
    go_wp2_with fail
    simp [bodyPost]
    exact gb_alloc _ _ _
  · have HA := Lib.hid (fun w => askSizes_t l h w h1)
    have hb := bndB_f (b := bound) (by rw [h1] at hr; simpa using hr)
    clear h1 hr
    by_cases h2 : bound < 0
    · have d1 : decide (bound < 0) = true := by simpa using h2
      clear hb
      go_enter Try.func19, Try.ntmps19
      go_wp2_with fail
      refine (HA.out _).mono ?_
      rintro e w1 ⟨rfl, rfl⟩
      go_wp2_with fail
      refine (Pb.refuse_yes _ _).mono ?_
      rintro e w1 ⟨rfl, rfl⟩
      go_wp2_with fail
      simp [bodyPost]
      exact gb_alloc _ _ _
    · have h3 : 10000 < bound := by omega
      have d1 : decide (bound < 0) = false := by simpa using h2
      have d2 : decide (10000 < bound) = true := by simpa using h3
      clear hb
      go_enter Try.func19, Try.ntmps19
      go_wp2_with fail
      refine (HA.out _).mono ?_
      rintro e w1 ⟨rfl, rfl⟩
      go_wp2_with fail
      refine (Pb.refuse_yes _ _).mono ?_
      rintro e w1 ⟨rfl, rfl⟩
      go_wp2_with fail
      simp [bodyPost]
      exact gb_alloc _ _ _

theorem enterFind (args : Array Value) (w : World) : (callFunc 19 args).run Try.prog w = .ok (.enter 19 args) w := by kernel_rfl

def findW (w : World) (l h bound : Int) (a : Option Addr) (len cap : Nat) : World := (((w.alloc (.cells #[.int .i64 l] 3)).alloc (.cells #[.int .i64 h] 3)).alloc (.cells #[.int .i64 bound] 3)).alloc (.cells #[.slice a len cap] 22)
section
variable (w : World) (l h bound : Int) (a : Option Addr) (len cap : Nat)
theorem findW_size : (findW w l h bound a len cap).heap.size = w.heap.size + 4 := by simp [findW]
theorem findW_gb : w.grownBy (findW w l h bound a len cap) none := gb_trans (gb_trans (gb_trans (gb_alloc _ _ _) (gb_alloc _ _ _)) (gb_alloc _ _ _)) (gb_alloc _ _ _)
theorem findW_0 : (findW w l h bound a len cap).cell? ⟨w.heap.size, 0, none⟩ = some (.int .i64 l) := by simp [findW, go_sem]
theorem findW_1 : (findW w l h bound a len cap).cell? ⟨w.heap.size + 1, 0, none⟩ = some (.int .i64 h) := by simp [findW, go_sem]
theorem findW_2 : (findW w l h bound a len cap).cell? ⟨w.heap.size + 1 + 1, 0, none⟩ = some (.int .i64 bound) := by simp [findW, go_sem]
theorem findW_3 : (findW w l h bound a len cap).cell? ⟨w.heap.size + 1 + 1 + 1, 0, none⟩ = some (.slice a len cap) := by simp [findW, go_sem]
theorem aw_c {w : World} {b o : Nat} {v : Value} (h : w.cell? ⟨b, o, none⟩ = some v) : (Pe.aw w).cell? ⟨b, o, none⟩ = some v := gb_cell (Pe.aw_gb w) h (by simp)
end

set_option maxRecDepth 100000 in
set_option maxHeartbeats 1600000 in
theorem Find_of (l h bound : Int) (a : Option Addr) (len cap : Nat) (w : World) (x y k : Int)
    (hA : Calls Try.prog 18 #[.func (Fn.func 19) #[] #[.pointer (some ⟨w.heap.size, 0, none⟩), .pointer (some ⟨w.heap.size + 1, 0, none⟩), .pointer (some ⟨w.heap.size + 1 + 1, 0, none⟩), .pointer (some ⟨w.heap.size + 1 + 1 + 1, 0, none⟩)]] (findW w l h bound a len cap) fun e w' => e = .returned (.tuple #[.agg #[.int .i64 x, .int .i64 y], .int .i64 k]) ∧ (findW w l h bound a len cap).grownBy w' none) :
    Calls Try.prog 6 #[.int .i64 l, .int .i64 h, .int .i64 bound, .slice a len cap] w fun e w' => e = .returned (.tuple #[.int .i64 x, .int .i64 y, .int .i64 k]) ∧ w.grownBy w' none := by
  have hmf : ∀ (fn : Fn) (first cap : Array Value) (w : World), (Instr.makeFunc fn first cap).run Try.prog w = .ok (.func fn first cap) w := fun _ _ _ _ => rfl
  have HA := Lib.hid hA
  have HG := Lib.hid (findW_gb w l h bound a len cap)
  clear hA
  go_enter Try.func6, Try.ntmps6
  go_wp2_with fail
  refine HA.out.mono ?_
  rintro e w2 ⟨rfl, g2⟩
  have hb := World.alloc_heap_new w2 (.cells #[.int .i64 x, .int .i64 y] 41)
  have z0 := cell_at hb (i := 0) (v := .int .i64 x) rfl
  have z1 := cell_at hb (i := 1) (v := .int .i64 y) rfl
  have HGE := Lib.hid (gb_trans (gb_trans HG.out g2) (gb_alloc w2 (.cells #[.int .i64 x, .int .i64 y] 41) none))
  clear hb g2
  go_wp2_with fail
  go_quiet (fail)
  go_wp2
  exact bodyPost_ret (v := .tuple #[.int .i64 x, .int .i64 y, .int .i64 k]) (by simp [results, Try.results6, go_sem]) rfl ⟨rfl, gb_trans HGE.out (gb_drew _ _ _)⟩

theorem Find_ok (l h bound : Int) (a : Option Addr) (len cap : Nat) (ch : Nat → Bool) (w : World) (hr : rightB l h = true) (hb : bndB bound = true) (hrow : BRow w a len ch) (hlen : len ≤ 1000000) :
    Calls Try.prog 6 #[.int .i64 l, .int .i64 h, .int .i64 bound, .slice a len cap] w fun e w' => e = .returned (.tuple #[.int .i64 (fnd (lbf bound len ch) 30 l h 0 0).1, .int .i64 (fnd (lbf bound len ch) 30 l h 0 0).2, .int .i64 0]) ∧ w.grownBy w' none := by
  obtain ⟨hb0, hb1⟩ := bndB_t hb
  refine Find_of l h bound a len cap w _ _ _ ?_
  have h0 := findW_size w l h bound a len cap
  have hg := gb_trans (findW_gb w l h bound a len cap) (Pe.aw_gb _)
  refine (Pe.att_ex 19 _ (findW w l h bound a len cap) none (fun s t _ => s = (fnd (lbf bound len ch) 30 l h 0 0).1 ∧ t = (fnd (lbf bound len ch) 30 l h 0 0).2) (fun _ _ _ _ h _ _ => h) (fun _ h => by cases h) enterFind
    ((FindF_ok _ _ _ _ l h bound a len cap ch (Pe.aw (findW w l h bound a len cap)) hr hb0 hb1 (aw_c (findW_0 w l h bound a len cap)) (aw_c (findW_1 w l h bound a len cap)) (aw_c (findW_2 w l h bound a len cap)) (aw_c (findW_3 w l h bound a len cap)) (fun i hi => by obtain ⟨b, off, e1, e2, e3⟩ := hrow i hi; exact ⟨b, off, e1, by rw [Pe.aw_size, h0]; omega, gb_cell hg e3 (by simp)⟩) hlen).mono ?_)).mono ?_
  · rintro e w' ⟨rfl, g⟩; exact ⟨_, _, rfl, ⟨rfl, rfl⟩, g⟩
  · rintro e w' ⟨s, t, rfl, ⟨rfl, rfl⟩, g⟩; exact ⟨rfl, g⟩
theorem Find_no (l h bound : Int) (a : Option Addr) (len cap : Nat) (w : World) (hr : (rightB l h && bndB bound) = false) :
    Calls Try.prog 6 #[.int .i64 l, .int .i64 h, .int .i64 bound, .slice a len cap] w fun e w' => e = .returned (.tuple #[.int .i64 0, .int .i64 0, .int .i64 7]) ∧ w.grownBy w' none := by
  refine Find_of l h bound a len cap w _ _ _ ?_
  refine (Pe.att_no 19 _ 7 (findW w l h bound a len cap) none (fun _ => True) (sta_true _) (fun _ _ _ => trivial) (fun _ h => by cases h) enterFind
    ((FindF_no _ _ _ _ l h bound (Pe.aw (findW w l h bound a len cap)) hr (aw_c (findW_0 w l h bound a len cap)) (aw_c (findW_1 w l h bound a len cap)) (aw_c (findW_2 w l h bound a len cap))).mono ?_)).mono ?_
  · rintro e w' ⟨rfl, g⟩; exact ⟨rfl, trivial, g⟩
  · rintro e w' ⟨rfl, _, g⟩; exact ⟨rfl, g⟩

theorem fnd_page : fnd (lbf 1400 0 fun _ => false) 30 576 1500 0 0 = (1399, 10) := by decide +kernel

set_option maxHeartbeats 800000 in
theorem awake_any (w : World) : Calls Try.prog 5 #[] w fun e w' => e = .returned (.bool true) ∧ w.grownBy w' none := by
  have h := Find_ok 576 1500 1400 none 0 0 (fun _ => false) w (by decide) (by decide) (fun i hi => absurd hi (by omega)) (by omega)
  rw [fnd_page] at h
  have HA := Lib.hid h
  clear h
  go_enter Try.func5, Try.ntmps5
  go_wp2_with fail
  refine HA.out.mono ?_
  rintro e w2 ⟨rfl, g2⟩
  have HG := Lib.hid g2
  clear g2
  go_wp2
  go_ret
  exact ⟨rfl, HG.out⟩
end Go.Proofs.Ytjoejaclnijacaa.Ps
