/-
  Sample at any fill: the program's function.
-/
import Derived.Test.YthjhbceepkoifaaFg
import Derived.Test.YthjhbceepkoifaaEj
import Derived.Test.YthjhbceepkoifaaHz
namespace Go.Proofs.Ythjhbceepkoifaa.Fh
open Go Go.RowKit Go.Proofs.Ythjhbceepkoifaa.Ec Go.Proofs.Ythjhbceepkoifaa.Ee Go.Proofs.Ythjhbceepkoifaa.Rg Go.Proofs.Ythjhbceepkoifaa.Fa Go.Proofs.Ythjhbceepkoifaa.Fb Go.Proofs.Ythjhbceepkoifaa.Fc Go.Proofs.Ythjhbceepkoifaa.Fd Go.Proofs.Ythjhbceepkoifaa.Fe Go.Proofs.Ythjhbceepkoifaa.Fg

/-- what a step of a control leaves: its blocks are its own ones or new, and no other one changed -/
structure Nx (w w' : World) (c : Nat) (ml fl ml' fl' : Value) : Prop where
  own : ∀ i, Bl c ml' fl' i → Bl c ml fl i ∨ w.heap.size ≤ i
  kb : Kb w w' (Bl c ml fl)
theorem Nx.trans {w w1 w2 : World} {c : Nat} {ml fl m1 f1 m2 f2 : Value} (h : Nx w w1 c ml fl m1 f1) (k : Nx w1 w2 c m1 f1 m2 f2) : Nx w w2 c ml fl m2 f2 :=
  ⟨fun i hi => by
    rcases k.own i hi with h1 | h1
    · exact h.own i h1
    · exact .inr (Nat.le_trans h.kb.size h1), kb_trans h.kb k.kb (fun i hi h1 => by rcases h.own i h1 with h2 | h2; exact h2; omega)⟩
theorem Nx.refl (w : World) (c : Nat) (ml fl : Value) : Nx w w c ml fl ml fl := ⟨fun _ h => .inl h, Kb.refl _ _⟩
theorem Nx.gb {w w' : World} {c : Nat} {ml fl : Value} (h : w.grownBy w' (some c)) : Nx w w' c ml fl ml fl := ⟨fun _ h => .inl h, Kb.of h (fun _ _ e => .inl (Option.some.inj e).symm)⟩
theorem Nx.gbn {w w' : World} {c : Nat} {ml fl : Value} (h : w.grownBy w' none) : Nx w w' c ml fl ml fl := ⟨fun _ h => .inl h, Kb.of h (by simp)⟩
theorem Nx.drew (w : World) (k c : Nat) (ml fl : Value) : Nx w (w.drewN k) c ml fl ml fl := Nx.gbn (gb_drew w k none)

/-- a cell that is none of the control's -/
structure Cel (W : World) (c : Nat) (ml fl : Value) (p k : Nat) (v : Value) : Prop where
  cell : W.cell? ⟨p, k, none⟩ = some v
  no : ¬ Bl c ml fl p
theorem Cel.nx {W W' : World} {c : Nat} {ml fl ml' fl' : Value} {p k : Nat} {v : Value} (h : Cel W c ml fl p k v) (n : Nx W W' c ml fl ml' fl') : Cel W' c ml' fl' p k v := by
  have hl := World.block_lt_of_cell? _ _ h.cell
  have hl' : p < W.heap.size := hl
  refine ⟨(World.cell?_of_block (a := ⟨p, k, none⟩) (n.kb.block p hl' h.no)).trans h.cell, fun hb => ?_⟩
  rcases n.own p hb with h2 | h2
  · exact h.no h2
  · omega

def wn (n a b : Int) : Bool := decide (a ≤ n) && decide (n ≤ b)
theorem wn_in {n a b : Int} (h : wn n a b = true) : a ≤ n ∧ n ≤ b := by unfold wn at h; simpa using h
theorem within_t (n a b : Int) (h : wn n a b = true) (w : World) : Calls Try.prog 20 #[.int .i64 n, .int .i64 a, .int .i64 b] w fun e w' => e = .returned (.bool true) ∧ w = w' := by
  have := (within_any n a b w).mono (R' := fun e w' => e = .returned (.bool (decide (a ≤ n) && decide (n ≤ b))) ∧ w = w') fun _ _ h => ⟨h.1, h.2.symm⟩
  rwa [show (decide (a ≤ n) && decide (n ≤ b)) = true from h] at this
theorem within_f (n a b : Int) (h : wn n a b = false) (w : World) : Calls Try.prog 20 #[.int .i64 n, .int .i64 a, .int .i64 b] w fun e w' => e = .returned (.bool false) ∧ w = w' := by
  have := (within_any n a b w).mono (R' := fun e w' => e = .returned (.bool (decide (a ≤ n) && decide (n ≤ b))) ∧ w = w') fun _ _ h => ⟨h.1, h.2.symm⟩
  rwa [show (decide (a ≤ n) && decide (n ≤ b)) = false from h] at this

section
variable {w : World} {c : Nat} {now : Int} {hv : Bool} {at' target limit : Int} {bs : List (Int × Int)} {zs : List Int} {ml fl : Value}
theorem rings_drewN (h : Rings w c now hv at' target limit bs zs ml fl) (k : Nat) : Rings (w.drewN k) c now hv at' target limit bs zs ml fl :=
  ⟨h.ctl.kept (gb_drew w k none) (by simp), h.rm.kept (gb_drew w k none) (by simp), h.rf.kept (gb_drew w k none) (by simp), h.lm, h.lf, h.mc, h.fc, h.mf⟩
/-- the block of the control alone changes -/
theorem rings_ctl {w' : World} {now' : Int} {hv' : Bool} {at2 target' limit' : Int} (h : Rings w c now hv at' target limit bs zs ml fl) (hC : Ctl w' c now' hv' at2 target' limit' ml fl) (hg : w.grownBy w' (some c)) : Rings w' c now' hv' at2 target' limit' bs zs ml fl :=
  ⟨hC, h.rm.kept hg (fun k e e2 => h.mc (by rw [e, ← Option.some.inj e2])), h.rf.kept hg (fun k e e2 => h.fc (by rw [e, ← Option.some.inj e2])), h.lm, h.lf, h.mc, h.fc, h.mf⟩
theorem rings_lt (h : Rings w c now hv at' target limit bs zs ml fl) (i : Nat) (hi : Bl c ml fl i) : i < w.heap.size := by
  rcases hi with rfl | h1 | h1
  · exact h.ctl.lt
  · exact row_lt h.rm i h1
  · exact row_lt h.rf i h1
theorem rings_kb {w' : World} {may : Nat → Prop} (h : Rings w c now hv at' target limit bs zs ml fl) (k : Kb w w' may) (hn : ∀ i, Bl c ml fl i → ¬ may i) : Rings w' c now hv at' target limit bs zs ml fl :=
  ⟨ctl_kb h.ctl k (hn c (.inl rfl)), row_kb h.rm k (fun i e => hn i (.inr (.inl e))), row_kb h.rf k (fun i e => hn i (.inr (.inr e))), h.lm, h.lf, h.mc, h.fc, h.mf⟩

set_option maxHeartbeats 1000000 in
theorem cl1 {pn pc : Nat} {t : Int} (h : Rings w c now hv at' target limit bs zs ml fl) (bc : w.cell? ⟨pc, 0, none⟩ = some (.pointer (some ⟨c, 0, none⟩))) (bn : w.cell? ⟨pn, 0, none⟩ = some (.int .i64 t)) :
    Calls Try.prog 41 #[.pointer (some ⟨pn, 0, none⟩), .pointer (some ⟨pc, 0, none⟩)] w fun e w' => e = .returned (.tuple #[]) ∧ Rings w' c t hv at' target limit bs zs ml fl ∧ Nx w w' c ml fl ml fl := by
  have c0 := h.ctl.c0
  have f0 := h.ctl.fz 0
  have H := Lib.hid h
  clear h
  go_enter Try.func41, Try.ntmps41
  go_wp2
  go_end0
  exact ⟨rfl, rings_ctl H.out (H.out.ctl.set0 t) (gb_set w c 0 _), Nx.gb (gb_set w c 0 _)⟩

set_option maxHeartbeats 1000000 in
theorem cl2 {pd pc : Nat} {d : Int} (h : Rings w c now hv at' target limit bs zs ml fl) (bc : w.cell? ⟨pc, 0, none⟩ = some (.pointer (some ⟨c, 0, none⟩))) (bd : w.cell? ⟨pd, 0, none⟩ = some (.int .i64 d)) :
    Calls Try.prog 42 #[.pointer (some ⟨pc, 0, none⟩), .pointer (some ⟨pd, 0, none⟩)] w fun e w' => e = .returned (.tuple #[]) ∧
      ∃ fl', Rings w' c now hv at' target limit bs (trim 4 (zs ++ [d])) ml fl' ∧ Nx w w' c ml fl ml fl' := by
  have H := Lib.hid h
  have HP := Lib.hid (Fa.put_int c d now hv at' target limit ml fl zs.length zs w.drew (rings_drewN h 1).ctl h.lf (rings_drewN h 1).rf h.fc)
  clear h
  go_enter Try.func42, Try.ntmps42
  go_wp2_with fail
  go_region_with (go_at_call 43; refine HP.out.mono ?_; rintro e w1 ⟨rfl, fl', h1, h2, h3, h4, h5⟩)
  all_goals
    go_wp2
    go_end0
    have hR := H.out
    have hn : ∀ i, i < w.heap.size → fl'.ownBlock = some i → fl.ownBlock = some i := fun i hi e => by
      rcases h4 i e with h6 | h6
      · exact h6
      · have h7 : w.heap.size ≤ i := h6
        omega
    refine ⟨rfl, fl', ⟨h1, ?_, h2, hR.lm, trim_len zs d 4 hR.lf, hR.mc, h3, fun k e e2 => hR.mf k e (hn k (row_lt hR.rm k e) e2)⟩, ⟨?_, ?_⟩⟩
    · exact row_kb (row_kb hR.rm (Kb.of (gb_drew w 1 none) (may := fun _ => False) (by simp)) (fun _ _ h => h)) h5 (fun k e => by rintro (rfl | h6); exact hR.mc e; exact hR.mf k e h6)
    · rintro i (rfl | h6 | h6)
      · exact .inl (.inl rfl)
      · exact .inl (.inr (.inl h6))
      · exact (h4 i h6).imp (fun h => .inr (.inr h)) id
    · exact kb_trans (Kb.of (gb_drew w 1 none) (by simp)) h5 (fun i _ h => h.imp id .inr)

set_option maxHeartbeats 1000000 in
theorem cl3 {pn pd pc : Nat} {t d : Int} (h : Rings w c now hv at' target limit bs zs ml fl) (t1 : 0 ≤ t) (t2 : t ≤ 1000000000) (bc : w.cell? ⟨pc, 0, none⟩ = some (.pointer (some ⟨c, 0, none⟩))) (bn : w.cell? ⟨pn, 0, none⟩ = some (.int .i64 t)) (bd : w.cell? ⟨pd, 0, none⟩ = some (.int .i64 d)) :
    Calls Try.prog 44 #[.pointer (some ⟨pc, 0, none⟩), .pointer (some ⟨pn, 0, none⟩), .pointer (some ⟨pd, 0, none⟩)] w fun e w' => e = .returned (.tuple #[]) ∧
      ∃ ml', Rings w' c now hv at' target limit (cpt (t / 60000) d bs) zs ml' fl ∧ Nx w w' c ml fl ml' fl := by
  have HP := Lib.hid (cput_any h t d (t / 60000) t1 t2 rfl)
  clear h t1 t2
  go_enter Try.func44, Try.ntmps44
  go_wp2_with fail
  refine HP.out.mono ?_
  rintro e w1 ⟨rfl, ml', h1, h2, h3⟩
  go_wp2
  go_end0
  refine ⟨rfl, ml', h1, ⟨?_, kb_trans (Kb.refl w _) h3 (fun i _ h => h.imp id .inl)⟩⟩
  rintro i (rfl | h6 | h6)
  · exact .inl (.inl rfl)
  · exact (h2 i h6).imp (fun h => .inr (.inl h)) id
  · exact .inl (.inr (.inr h6))

set_option maxHeartbeats 1000000 in
theorem cl4 {pb pu pc : Nat} {b u : Int} (h : Rings w c now hv at' target limit bs zs ml fl) (hne : bs ≠ []) (hnz : zs ≠ []) (ht : 1 ≤ target ∧ target ≤ 1000) (hl : 1500 ≤ limit ∧ limit ≤ 1000000) (hb : wn b 0 1000000 = true) (hu : wn u 0 1000000 = true) (bc : w.cell? ⟨pc, 0, none⟩ = some (.pointer (some ⟨c, 0, none⟩))) (bb : w.cell? ⟨pb, 0, none⟩ = some (.int .i64 b)) (bu : w.cell? ⟨pu, 0, none⟩ = some (.int .i64 u)) :
    Calls Try.prog 46 #[.pointer (some ⟨pc, 0, none⟩), .pointer (some ⟨pb, 0, none⟩), .pointer (some ⟨pu, 0, none⟩)] w fun e w' => e = .returned (.tuple #[]) ∧
      Rings w' c now hv at' target (mvd target limit (qd bs zs) b u) bs zs ml fl ∧ Nx w w' c ml fl ml fl := by
  have H := Lib.hid h
  have HP := Lib.hid (move_any h hne hnz b u ht hl (wn_in hb) (wn_in hu))
  clear h hne hnz ht hl hb hu
  go_enter Try.func46, Try.ntmps46
  go_wp2_with fail
  refine HP.out.mono ?_
  rintro e w1 ⟨rfl, h1, h2⟩
  go_wp2
  go_end0
  exact ⟨rfl, rings_ctl H.out h1 h2, Nx.gb h2⟩

set_option maxHeartbeats 1000000 in
theorem ask_any (h : Rings w c now hv at' target limit bs zs ml fl) (ht : 1 ≤ target) :
    Calls Try.prog 35 #[.pointer (some ⟨c, 0, none⟩)] w fun e w' => e = .returned (.tuple #[]) ∧ w = w' := by
  have c3 := h.ctl.c3
  have hz : (target == 0) = false := by simp; omega
  clear h
  go_enter Try.func35, Try.ntmps35
  go_wp2_with fail
  refine (Eb.refuse_no _ _).mono ?_
  rintro e w1 ⟨rfl, rfl⟩
  go_wp2
  go_end0
  exact ⟨rfl, rfl⟩
set_option maxHeartbeats 400000 in
theorem askTime_yes {t : Int} (h : Rings w c now hv at' target limit bs zs ml fl) (hw : wn t now 1000000000 = true) :
    Calls Try.prog 39 #[.pointer (some ⟨c, 0, none⟩), .int .i64 t] w fun e w' => e = .returned (.tuple #[]) ∧ w = w' := by
  have c0 := h.ctl.c0
  have HW := Lib.hid (within_t _ _ _ hw)
  clear hw h
  go_enter Try.func39, Try.ntmps39
  go_wp2_with fail
  refine (HW.out _).mono ?_
  rintro e w1 ⟨rfl, rfl⟩
  go_wp2_with fail
  refine (Eb.refuse_no _ _).mono ?_
  rintro e w1 ⟨rfl, rfl⟩
  go_wp2
  go_end0
  exact ⟨rfl, rfl⟩
set_option maxHeartbeats 400000 in
theorem askTime_no {t : Int} (h : Rings w c now hv at' target limit bs zs ml fl) (hw : wn t now 1000000000 = false) :
    Calls Try.prog 39 #[.pointer (some ⟨c, 0, none⟩), .int .i64 t] w fun e w' => e = .panicked [{ v := .iface 26 (.int .i64 7), recovered := false }] ∧ w = w' := by
  have c0 := h.ctl.c0
  have HW := Lib.hid (within_f _ _ _ hw)
  clear hw h
  go_enter Try.func39, Try.ntmps39
  go_wp2_with fail
  refine (HW.out _).mono ?_
  rintro e w1 ⟨rfl, rfl⟩
  go_wp2_with fail
  refine (Eb.refuse_yes _ _).mono ?_
  rintro e w1 ⟨rfl, rfl⟩
  go_wp2_with fail
  simp [bodyPost]
end
end Go.Proofs.Ythjhbceepkoifaa.Fh
