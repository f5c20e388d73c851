/-
  Sample at the document's example.
-/
import Derived.Test.YthjhbceepkoifaaEg
namespace Go.Proofs.Ythjhbceepkoifaa.Ee
open Go Go.RowKit Go.Proofs.Ythjhbceepkoifaa.Ec

theorem gb_cell {W W' : World} {c : Nat} {a : Addr} {v : Value} (hg : W.grownBy W' (some c)) (h : W.cell? a = some v) (hne : a.block ≠ c) : W'.cell? a = some v :=
  (World.cell?_of_block (hg.block a.block (World.block_lt_of_cell? _ _ h) (fun e => hne (Option.some.inj e)))).trans h

/-- the five boxed parameters -/
structure Bxs (W : World) (c pc pn pb pd pu : Nat) : Prop where
  bc : W.cell? ⟨pc, 0, none⟩ = some (.pointer (some ⟨c, 0, none⟩))
  bn : W.cell? ⟨pn, 0, none⟩ = some (.int .i64 0)
  bb : W.cell? ⟨pb, 0, none⟩ = some (.int .i64 3000)
  bd : W.cell? ⟨pd, 0, none⟩ = some (.int .i64 7)
  bu : W.cell? ⟨pu, 0, none⟩ = some (.int .i64 3000)
  nc : pc ≠ c
  nn : pn ≠ c
  nb : pb ≠ c
  nd : pd ≠ c
  nu : pu ≠ c
theorem Bxs.kept {W W' : World} {c pc pn pb pd pu : Nat} (h : Bxs W c pc pn pb pd pu) (hg : W.grownBy W' (some c)) : Bxs W' c pc pn pb pd pu :=
  ⟨gb_cell hg h.bc h.nc, gb_cell hg h.bn h.nn, gb_cell hg h.bb h.nb, gb_cell hg h.bd h.nd, gb_cell hg h.bu h.nu, h.nc, h.nn, h.nb, h.nd, h.nu⟩

section
variable {w : World} {c pc pn pb pd pu : Nat} {at' : Int} {g1 g2 cap1 cap2 : Nat}

set_option maxHeartbeats 1000000 in
theorem cl1 {hv : Bool} {now target limit : Int} {ml fl : Value} (hC : Ctl w c now hv at' target limit ml fl) (hB : Bxs w c pc pn pb pd pu) :
    Calls Try.prog 41 #[.pointer (some ⟨pn, 0, none⟩), .pointer (some ⟨pc, 0, none⟩)] w fun e w' => e = .returned (.tuple #[]) ∧ Ctl w' c 0 hv at' target limit ml fl ∧ w.grownBy w' (some c) := by
  have c0 := hC.c0
  have f0 := hC.fz 0
  have bc := hB.bc
  have bn := hB.bn
  go_enter Try.func41, Try.ntmps41
  go_wp2
  go_end0
  exact ⟨rfl, hC.set0 0, gb_set w c 0 _⟩

set_option maxHeartbeats 1000000 in
theorem cl2 {hv : Bool} {now target limit : Int} {ml : Value} (hC : Ctl w c now hv at' target limit ml (.slice none 0 0)) (hB : Bxs w c pc pn pb pd pu) :
    Calls Try.prog 42 #[.pointer (some ⟨pc, 0, none⟩), .pointer (some ⟨pd, 0, none⟩)] w fun e w' => e = .returned (.tuple #[]) ∧
      ∃ g cap, Ctl w' c now hv at' target limit ml (.slice (some ⟨g, 0, none⟩) 1 cap) ∧ w'.cell? ⟨g, 0, none⟩ = some (.int .i64 7) ∧ w.heap.size ≤ g ∧ w.grownBy w' (some c) := by
  have bc := hB.bc
  have bd := hB.bd
  have HP := Lib.hid (put_int c 7 now hv at' target limit ml w.drew hC)
  go_enter Try.func42, Try.ntmps42
  go_wp2_with fail
  go_region_with (go_at_call 43; refine HP.out.mono ?_; rintro e w1 ⟨rfl, g, cap, h1, h2, h3, h4⟩)
  all_goals
    go_wp2
    go_end0
    exact ⟨rfl, g, cap, h1, h2, h3, gb_trans (gb_drew w 1 _) h4⟩

set_option maxHeartbeats 1000000 in
theorem cl3 {hv : Bool} {now target limit : Int} (hC : Ctl w c now hv at' target limit (.slice none 0 0) (.slice (some ⟨g1, 0, none⟩) 1 cap1)) (hB : Bxs w c pc pn pb pd pu) :
    Calls Try.prog 44 #[.pointer (some ⟨pc, 0, none⟩), .pointer (some ⟨pn, 0, none⟩), .pointer (some ⟨pd, 0, none⟩)] w fun e w' => e = .returned (.tuple #[]) ∧
      ∃ g cap, Ctl w' c now hv at' target limit (.slice (some ⟨g, 0, none⟩) 1 cap) (.slice (some ⟨g1, 0, none⟩) 1 cap1) ∧ w'.cell? ⟨g, 0, none⟩ = some (.int .i64 0) ∧ w'.cell? ⟨g, 1, none⟩ = some (.int .i64 7) ∧ w.heap.size ≤ g ∧ w.grownBy w' (some c) := by
  have bc := hB.bc
  have bn := hB.bn
  have bd := hB.bd
  have HP := Lib.hid (cput_1 hC)
  go_enter Try.func44, Try.ntmps44
  go_wp2_with fail
  refine HP.out.mono ?_
  rintro e w1 ⟨rfl, g, cap, h⟩
  go_wp2
  go_end0
  exact ⟨rfl, g, cap, h⟩

set_option maxHeartbeats 1000000 in
theorem cl4 {hv : Bool} {now m : Int} (hC : Ctl w c now hv at' 100 3000 (.slice (some ⟨g2, 0, none⟩) 1 cap2) (.slice (some ⟨g1, 0, none⟩) 1 cap1)) (hm : w.cell? ⟨g2, 0, none⟩ = some (.int .i64 m)) (hd : w.cell? ⟨g2, 1, none⟩ = some (.int .i64 7)) (hz : w.cell? ⟨g1, 0, none⟩ = some (.int .i64 7)) (hB : Bxs w c pc pn pb pd pu) :
    Calls Try.prog 46 #[.pointer (some ⟨pc, 0, none⟩), .pointer (some ⟨pb, 0, none⟩), .pointer (some ⟨pu, 0, none⟩)] w fun e w' => e = .returned (.tuple #[]) ∧
      Ctl w' c now hv at' 100 6000 (.slice (some ⟨g2, 0, none⟩) 1 cap2) (.slice (some ⟨g1, 0, none⟩) 1 cap1) ∧ w.grownBy w' (some c) := by
  have bc := hB.bc
  have bb := hB.bb
  have bu := hB.bu
  have HP := Lib.hid (move_1 hC hm hd hz)
  go_enter Try.func46, Try.ntmps46
  go_wp2_with fail
  refine HP.out.mono ?_
  rintro e w1 ⟨rfl, h⟩
  go_wp2
  go_end0
  exact ⟨rfl, h⟩

set_option maxHeartbeats 400000 in
theorem refuse_no (k : Int) (w : World) : Calls Try.prog 19 #[.bool false, .int .i64 k] w fun e w' => e = .returned (.tuple #[]) ∧ w' = w :=
  (Eb.refuse_no k w).mono fun _ _ h => ⟨h.1, h.2.symm⟩

set_option maxHeartbeats 400000 in
theorem within_t (n a b : Int) (h1 : a ≤ n) (h2 : n ≤ b) (w : World) : Calls Try.prog 20 #[.int .i64 n, .int .i64 a, .int .i64 b] w fun e w' => e = .returned (.bool true) ∧ w' = w := by
  go_enter Try.func20, Try.ntmps20
  go_wp2
  go_ret
  exact ⟨rfl, rfl⟩

set_option maxHeartbeats 1000000 in
theorem askTime_1 {hv : Bool} {target limit : Int} {ml fl : Value} (hC : Ctl w c 0 hv at' target limit ml fl) :
    Calls Try.prog 39 #[.pointer (some ⟨c, 0, none⟩), .int .i64 0] w fun e w' => e = .returned (.tuple #[]) ∧ w' = w := by
  have c0 := hC.c0
  go_enter Try.func39, Try.ntmps39
  go_wp2_with (first
    | (go_at_call 20; refine (within_t 0 0 1000000000 (by decide) (by decide) _).mono ?_; rintro e w1 ⟨rfl, rfl⟩)
    | (go_at_call 19; refine (refuse_no _ _).mono ?_; rintro e w1 ⟨rfl, rfl⟩))
  go_end0
  exact ⟨rfl, rfl⟩

set_option maxHeartbeats 1000000 in
theorem ask_1 {hv : Bool} {now limit : Int} {ml fl : Value} (hC : Ctl w c now hv at' 100 limit ml fl) :
    Calls Try.prog 35 #[.pointer (some ⟨c, 0, none⟩)] w fun e w' => e = .returned (.tuple #[]) ∧ w' = w := by
  have c3 := hC.c3
  go_enter Try.func35, Try.ntmps35
  go_wp2_with (go_at_call 19; refine (refuse_no _ _).mono ?_; rintro e w1 ⟨rfl, rfl⟩)
  go_end0
  exact ⟨rfl, rfl⟩

/-- the four functions of a sample, in memory -/
def fnc (pc pn pb pd pu : Nat) : Array Value := #[.func (.func 41) #[] #[.pointer (some ⟨pn, 0, none⟩), .pointer (some ⟨pc, 0, none⟩)], .func (.func 42) #[] #[.pointer (some ⟨pc, 0, none⟩), .pointer (some ⟨pd, 0, none⟩)],
  .func (.func 44) #[] #[.pointer (some ⟨pc, 0, none⟩), .pointer (some ⟨pn, 0, none⟩), .pointer (some ⟨pd, 0, none⟩)], .func (.func 46) #[] #[.pointer (some ⟨pc, 0, none⟩), .pointer (some ⟨pb, 0, none⟩), .pointer (some ⟨pu, 0, none⟩)]]
def Fs (W : World) (fs pc pn pb pd pu : Nat) : Prop := ∀ k v, (fnc pc pn pb pd pu)[k]? = some v → W.cell? ⟨fs, k, none⟩ = some v
theorem Fs.kept {W W' : World} {fs : Nat} (h : Fs W fs pc pn pb pd pu) (hg : W.grownBy W' (some c)) (hne : fs ≠ c) : Fs W' fs pc pn pb pd pu := fun k v hk => gb_cell hg (h k v hk) hne

set_option maxRecDepth 100000 in
set_option maxHeartbeats 2000000 in
theorem sampleF (hC : Ctl w c 0 false at' 100 3000 (.slice none 0 0) (.slice none 0 0)) (hB : Bxs w c pc pn pb pd pu) :
    Calls Try.prog 40 #[.pointer (some ⟨pc, 0, none⟩), .pointer (some ⟨pn, 0, none⟩), .pointer (some ⟨pb, 0, none⟩), .pointer (some ⟨pd, 0, none⟩), .pointer (some ⟨pu, 0, none⟩)] w fun e w' => e = .returned (.bool true) ∧
      w'.cell? ⟨c, 4, none⟩ = some (.int .i64 6000) ∧ w.grownBy w' (some c) := by
  have hmf : ∀ (fn : Fn) (first cap : Array Value) (w : World), (Instr.makeFunc fn first cap).run Try.prog w = .ok (.func fn first cap) w := fun _ _ _ _ => rfl
  have bc := hB.bc
  have bn := hB.bn
  have bb := hB.bb
  have bd := hB.bd
  have bu := hB.bu
  have HC := Lib.hid hC
  have HB := Lib.hid hB
  clear hC hB
  go_enter Try.func40, Try.ntmps40
  go_wp2_with fail
  refine (ask_1 HC.out).mono ?_
  rintro e w1 ⟨rfl, rfl⟩
  go_wp2_with fail
  go_quiet (exact Calls.quiet_of_same (askTime_1 (show Ctl (w1.drewN _) c 0 false at' 100 3000 (.slice none 0 0) (.slice none 0 0) from HC.out)))
  go_wp2_with (first
    | (go_at_call_of 20 (Value.int IntKind.i64 7); refine (within_t 7 0 4294967295 (by decide) (by decide) _).mono ?_; rintro e w1 ⟨rfl, rfl⟩)
    | (go_at_call_of 20 (Value.int IntKind.i64 3000); refine (within_t 3000 0 1000000 (by decide) (by decide) _).mono ?_; rintro e w1 ⟨rfl, rfl⟩)
    | (go_at_call 19; refine (refuse_no _ _).mono ?_; rintro e w1 ⟨rfl, rfl⟩))
  obtain ⟨W0, hW0⟩ : ∃ W0, (w1.drewN nq).alloc (.cells (fnc pc pn pb pd pu) 1) = W0 := ⟨_, rfl⟩
  have hlt : c < w1.heap.size := HC.out.lt
  have hg0 : w1.grownBy W0 (some c) := by rw [← hW0]; exact gb_trans (gb_drew w1 nq _) (World.grownBy_alloc _ _ _)
  have hC0 : Ctl W0 c 0 false at' 100 3000 (.slice none 0 0) (.slice none 0 0) := by
    rw [← hW0]; exact (show Ctl (w1.drewN nq) c 0 false at' 100 3000 (.slice none 0 0) (.slice none 0 0) from HC.out).kept (World.grownBy_alloc _ _ none) (by simp)
  have hB0 : Bxs W0 c pc pn pb pd pu := HB.out.kept hg0
  have hne : w1.heap.size ≠ c := by omega
  have hF0 : Fs W0 w1.heap.size pc pn pb pd pu := fun k v hk => by rw [← hW0]; exact (World.cell?_alloc_at (w := w1.drewN nq) _ _ w1.heap.size k rfl).trans hk
  have hW0' : (w1.drewN nq).alloc (.cells #[.func (.func 41) #[] #[.pointer (some ⟨pn, 0, none⟩), .pointer (some ⟨pc, 0, none⟩)], .func (.func 42) #[] #[.pointer (some ⟨pc, 0, none⟩), .pointer (some ⟨pd, 0, none⟩)],
    .func (.func 44) #[] #[.pointer (some ⟨pc, 0, none⟩), .pointer (some ⟨pn, 0, none⟩), .pointer (some ⟨pd, 0, none⟩)], .func (.func 46) #[] #[.pointer (some ⟨pc, 0, none⟩), .pointer (some ⟨pb, 0, none⟩), .pointer (some ⟨pu, 0, none⟩)]] 1) = W0 := hW0
  rw [hW0']
  have HG0 := Lib.hid hg0
  have HF0 := Lib.hid hF0
  have HC0 := Lib.hid hC0
  have HB0 := Lib.hid hB0
  have x0 : W0.cell? ⟨w1.heap.size, 0, none⟩ = some (.func (.func 41) #[] #[.pointer (some ⟨pn, 0, none⟩), .pointer (some ⟨pc, 0, none⟩)]) := hF0 0 _ rfl
  clear hW0 hW0' hg0 hF0 hC0 hB0 bc bn bb bd bu
  refine wp_loop_rounds 5 ?_
  rw [rounds_succ]
  go_wp2_with fail
  refine (cl1 HC0.out HB0.out).mono ?_
  rintro e W1 ⟨rfl, hC1, hg1⟩
  have HG1 := Lib.hid (gb_trans HG0.out hg1)
  have HF1 := Lib.hid (HF0.out.kept hg1 hne)
  have HB1 := Lib.hid (HB0.out.kept hg1)
  have HC1 := Lib.hid hC1
  have x1 : W1.cell? ⟨w1.heap.size, 1, none⟩ = some (.func (.func 42) #[] #[.pointer (some ⟨pc, 0, none⟩), .pointer (some ⟨pd, 0, none⟩)]) := HF1.out 1 _ rfl
  clear hC1 hg1 x0
  go_wp2_with fail
  rw [rounds_succ]
  go_wp2_with fail
  refine (cl2 HC1.out HB1.out).mono ?_
  rintro e W2 ⟨rfl, g1, cap1, hC2, hz, hlt1, hg2⟩
  have hne1 : g1 ≠ c := by have := HC1.out.lt; omega
  have HG2 := Lib.hid (gb_trans HG1.out hg2)
  have HF2 := Lib.hid (HF1.out.kept hg2 hne)
  have HB2 := Lib.hid (HB1.out.kept hg2)
  have HC2 := Lib.hid hC2
  have x2 : W2.cell? ⟨w1.heap.size, 2, none⟩ = some (.func (.func 44) #[] #[.pointer (some ⟨pc, 0, none⟩), .pointer (some ⟨pn, 0, none⟩), .pointer (some ⟨pd, 0, none⟩)]) := HF2.out 2 _ rfl
  clear hC2 hg2 x1
  go_wp2_with fail
  rw [rounds_succ]
  go_wp2_with fail
  refine (cl3 HC2.out HB2.out).mono ?_
  rintro e W3 ⟨rfl, g2, cap2, hC3, hm, hd, _, hg3⟩
  have HG3 := Lib.hid (gb_trans HG2.out hg3)
  have HF3 := Lib.hid (HF2.out.kept hg3 hne)
  have HB3 := Lib.hid (HB2.out.kept hg3)
  have HC3 := Lib.hid hC3
  have x3 : W3.cell? ⟨w1.heap.size, 3, none⟩ = some (.func (.func 46) #[] #[.pointer (some ⟨pc, 0, none⟩), .pointer (some ⟨pb, 0, none⟩), .pointer (some ⟨pu, 0, none⟩)]) := HF3.out 3 _ rfl
  have hz3 : W3.cell? ⟨g1, 0, none⟩ = some (.int .i64 7) := gb_cell hg3 hz hne1
  clear hC3 hg3 x2 hz
  go_wp2_with fail
  rw [rounds_succ]
  go_wp2_with fail
  refine (cl4 HC3.out hm hd hz3 HB3.out).mono ?_
  rintro e W4 ⟨rfl, hC4, hg4⟩
  have HG4 := Lib.hid (gb_trans HG3.out hg4)
  have HC4 := Lib.hid hC4
  clear hC4 hg4 x3 hz3 hm hd
  go_wp2_with fail
  rw [rounds_succ]
  go_wp2
  go_ret
  exact ⟨rfl, HC4.out.c4, HG4.out⟩

end
end Go.Proofs.Ythjhbceepkoifaa.Ee
