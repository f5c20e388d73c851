/-
  A control and its reference side by side; alike.
-/
import Derived.Test.YthjhbceepkoifaaFw
import Derived.Test.YthjhbceepkoifaaFx
namespace Go.Proofs.Ythjhbceepkoifaa.Fy
open Go Go.RowKit Go.Proofs.Ythjhbceepkoifaa.Ec Go.Proofs.Ythjhbceepkoifaa.Ee Go.Proofs.Ythjhbceepkoifaa.Rg Go.Proofs.Ythjhbceepkoifaa.Fa Go.Proofs.Ythjhbceepkoifaa.Fb Go.Proofs.Ythjhbceepkoifaa.Fc Go.Proofs.Ythjhbceepkoifaa.Fd Go.Proofs.Ythjhbceepkoifaa.Fe Go.Proofs.Ythjhbceepkoifaa.Fg Go.Proofs.Ythjhbceepkoifaa.Fh Go.Proofs.Ythjhbceepkoifaa.Fi Go.Proofs.Ythjhbceepkoifaa.Fj Go.Proofs.Ythjhbceepkoifaa.Fk Go.Proofs.Ythjhbceepkoifaa.Fl Go.Proofs.Ythjhbceepkoifaa.Fq Go.Proofs.Ythjhbceepkoifaa.Fr Go.Proofs.Ythjhbceepkoifaa.Fs Go.Proofs.Ythjhbceepkoifaa.Ft Go.Proofs.Ythjhbceepkoifaa.Fu Go.Proofs.Ythjhbceepkoifaa.Fv Go.Proofs.Ythjhbceepkoifaa.Fw Go.Proofs.Ythjhbceepkoifaa.Or Go.Proofs.Ythjhbceepkoifaa.Rw Go.Proofs.Ythjhbceepkoifaa.Hz

/-- a control and its reference in memory, which share nothing, both behind w -/
structure Bo (w wr : World) (c1 c2 : Nat) (s : St) (all : List (Int × Int)) (m1 f1 al : Value) : Prop where
  a : Ri wr c1 s m1 f1
  b : Ra wr c2 s all al
  dis : ∀ i, Bl c1 m1 f1 i → ¬ Bl c2 al nl i
  oa : ∀ i, Bl c1 m1 f1 i → w.heap.size ≤ i
  ob : ∀ i, Bl c2 al nl i → w.heap.size ≤ i
  be : Below w.heap.size w wr
/-- the control has gone on, its reference not yet -/
structure Ha (w wr : World) (c1 c2 : Nat) (s s' : St) (all : List (Int × Int)) (m1 f1 al : Value) : Prop where
  a : Ri wr c1 s' m1 f1
  b : Ra wr c2 s all al
  dis : ∀ i, Bl c1 m1 f1 i → ¬ Bl c2 al nl i
  oa : ∀ i, Bl c1 m1 f1 i → w.heap.size ≤ i
  ob : ∀ i, Bl c2 al nl i → w.heap.size ≤ i
  be : Below w.heap.size w wr
section
variable {w wr w1 : World} {c1 c2 : Nat} {s s' : St} {all all' : List (Int × Int)} {m1 f1 al m f : Value}
theorem Bo.quiet (h : Bo w wr c1 c2 s all m1 f1 al) (hb : wr.grownBy w1 none) : Bo w w1 c1 c2 s all m1 f1 al :=
  ⟨rings_kb h.a (Kb.of hb (may := fun _ => False) (by simp)) (fun _ _ h => h), h.b.quiet hb, h.dis, h.oa, h.ob,
    h.be.trans ⟨hb.os, hb.tape, hb.output, hb.size, fun k hk => hb.block k (Nat.lt_of_lt_of_le hk h.be.size) (by simp)⟩⟩
theorem Bo.stepA (h : Bo w wr c1 c2 s all m1 f1 al) (hR : Ri w1 c1 s' m f) (n : Nx wr w1 c1 m1 f1 m f) : Ha w w1 c1 c2 s s' all m f al :=
  ⟨hR, h.b.kb n.kb (fun i hi k => h.dis i k hi), fun i hi hj => by
      rcases n.own i hi with h2 | h2
      · exact h.dis i h2 hj
      · have := h.b.lt i hj; omega,
    fun i hi => by
      rcases n.own i hi with h2 | h2
      · exact h.oa i h2
      · exact Nat.le_trans h.be.size h2,
    h.ob, h.be.trans ⟨n.kb.os, n.kb.tape, n.kb.output, n.kb.size, fun k hk => n.kb.block k (Nat.lt_of_lt_of_le hk h.be.size) (fun e => by have := h.oa k e; omega)⟩⟩
theorem Ha.stepB (h : Ha w wr c1 c2 s s' all m1 f1 al) (hR : Ra w1 c2 s' all' m) (n : Nx wr w1 c2 al nl m nl) : Bo w w1 c1 c2 s' all' m1 f1 m :=
  ⟨rings_kb h.a n.kb (fun i hi k => h.dis i hi k), hR, fun i hi hj => by
      rcases n.own i hj with h2 | h2
      · exact h.dis i hi h2
      · have := rings_lt h.a i hi; omega,
    h.oa, fun i hi => by
      rcases n.own i hi with h2 | h2
      · exact h.ob i h2
      · exact Nat.le_trans h.be.size h2,
    h.be.trans ⟨n.kb.os, n.kb.tape, n.kb.output, n.kb.size, fun k hk => n.kb.block k (Nat.lt_of_lt_of_le hk h.be.size) (fun e => by have := h.ob k e; omega)⟩⟩
/-- a cell that is of neither -/
structure Ce2 (W : World) (c1 c2 : Nat) (m1 f1 al : Value) (p k : Nat) (v : Value) : Prop where
  cell : W.cell? ⟨p, k, none⟩ = some v
  na : ¬ Bl c1 m1 f1 p
  nb : ¬ Bl c2 al nl p
theorem Ce2.quiet {p k : Nat} {v : Value} (h : Ce2 wr c1 c2 m1 f1 al p k v) (hb : wr.grownBy w1 none) : Ce2 w1 c1 c2 m1 f1 al p k v :=
  ⟨(World.cell?_of_block (a := ⟨p, k, none⟩) (hb.block p (World.block_lt_of_cell? _ _ h.cell) (by simp))).trans h.cell, h.na, h.nb⟩
theorem Ce2.stepA {p k : Nat} {v : Value} (h : Ce2 wr c1 c2 m1 f1 al p k v) (n : Nx wr w1 c1 m1 f1 m f) : Ce2 w1 c1 c2 m f al p k v :=
  have h1 := Cel.nx ⟨h.cell, h.na⟩ n
  ⟨h1.cell, h1.no, h.nb⟩
theorem Ce2.stepB {p k : Nat} {v : Value} (h : Ce2 wr c1 c2 m1 f1 al p k v) (n : Nx wr w1 c2 al nl m nl) : Ce2 w1 c1 c2 m1 f1 m p k v :=
  have h1 := Cel.nx ⟨h.cell, h.nb⟩ n
  ⟨h1.cell, h.na, h1.no⟩
end

theorem l4_nil {all : List (Int × Int)} : l4 all = [] ↔ all = [] := by
  unfold l4
  cases all with
  | nil => simp
  | cons a r => simp; omega
section
variable {w : World} {c : Nat} {s : St} {all : List (Int × Int)} {al : Value}
theorem RBase_any (h : Ra w c s all al) (hk : Lk s all) (hlen : all.length ≤ 80) :
    Calls Try.prog 25 #[.pointer (some ⟨c, 0, none⟩)] w fun e w' => e = .returned (.tuple #[.int .i64 (pba s), .int .i64 (queE s)]) ∧ Below w.heap.size w w' := by
  unfold pba queE
  by_cases hz : all = []
  · subst hz
    have : s.zs = [] := by rw [hk.zs]; rfl
    rw [if_pos this, if_pos this]
    exact RBase_no c s al w h
  · have : ¬ s.zs = [] := by rw [hk.zs, l4_nil]; exact hz
    rw [if_neg this, if_neg this, hk.bs]
    exact RBase_yes c s all al w h hk hlen hz
theorem RQueueing_any (h : Ra w c s all al) (hk : Lk s all) (hlen : all.length ≤ 80) :
    Calls Try.prog 26 #[.pointer (some ⟨c, 0, none⟩)] w fun e w' => e = .returned (.tuple #[.int .i64 (que s), .int .i64 (queE s)]) ∧ Below w.heap.size w w' := by
  unfold que queE
  by_cases hz : all = []
  · subst hz
    have : s.zs = [] := by rw [hk.zs]; rfl
    rw [if_pos this, if_pos this]
    exact RQueueing_no c s al w h
  · have : ¬ s.zs = [] := by rw [hk.zs, l4_nil]; exact hz
    rw [if_neg this, if_neg this, hk.bs, hk.zs]
    exact RQueueing_yes c s all al w h hk hlen hz
end

set_option maxHeartbeats 800000 in
theorem SameInts_eq (a b : Option Addr) (len c d : Nat) (zs : List Int) (w : World) (ha : IntRow .i64 w a len c zs) (hb : IntRow .i64 w b len d zs) :
    Calls Try.prog 30 #[.slice a len c, .slice b len d] w fun e w' => e = .returned (.bool true) ∧ ∃ n, w' = w.drewN n := by
  obtain ⟨h1, h2, h3, h4⟩ := ha
  obtain ⟨k1, k2, k3, k4⟩ := hb
  unfold maxLen at h2
  go_enter Try.func30, Try.ntmps30
  go_wp2_with fail
  go_loopw [5, 13] (fun _ i wr => ∃ k : Nat, k ≤ len ∧ i = .int .i64 k ∧ ∃ n, wr = w.drewN n) (fun _ i _ => len - (intOf i).toNat)
  case atStart => exact ⟨0, Nat.zero_le _, rfl, 0, rfl⟩
  case round =>
    obtain ⟨k, hk, rfl, n, rfl⟩ := hrel
    by_cases hlt : k < len
    · obtain ⟨ba, oa, rfl, _, hca⟩ := h4 (by omega)
      obtain ⟨bb, ob, rfl, _, hcb⟩ := k4 (by omega)
      have q1 := hca k hlt
      have q2 := hcb k hlt
      generalize zs.getD k 0 = z at *
      clear hca hcb h4 k4 k2 h3 k3
      go_wp2_with fail
      go_quiet (fail)
      go_wp2_with fail
      refine ⟨⟨k + 1, by omega, by go_num, _, rfl⟩, by simp [intOf]; omega⟩
    · clear h4 k4 h3 k3 k2
      go_wp2_with fail
      go_ret
      exact ⟨rfl, n, rfl⟩

set_option maxRecDepth 100000 in
set_option maxHeartbeats 4000000 in
theorem alike_any (w wr : World) (c1 c2 : Nat) (s : St) (all : List (Int × Int)) (m1 f1 al : Value) (h : Bo w wr c1 c2 s all m1 f1 al) (hI : Inv s) (hk : Lk s all) (hlen : all.length ≤ 80) :
    Calls Try.prog 11 #[.pointer (some ⟨c1, 0, none⟩), .pointer (some ⟨c2, 0, none⟩)] wr fun e w' => e = .returned (.bool true) ∧ Below wr.heap.size wr w' := by
  have HA1 : Hid (∀ W, Bo w W c1 c2 s all m1 f1 al → Calls Try.prog 24 #[.pointer (some ⟨c1, 0, none⟩)] W fun e w' => e = .returned (.tuple #[.int .i64 (pba s), .int .i64 (queE s)]) ∧ Below W.heap.size W w') := Lib.hid (fun W h => Base_any h.a hI)
  have HA2 : Hid (∀ W, Bo w W c1 c2 s all m1 f1 al → Calls Try.prog 25 #[.pointer (some ⟨c2, 0, none⟩)] W fun e w' => e = .returned (.tuple #[.int .i64 (pba s), .int .i64 (queE s)]) ∧ Below W.heap.size W w') := Lib.hid (fun W h => RBase_any h.b hk hlen)
  have HA3 : Hid (∀ W, Bo w W c1 c2 s all m1 f1 al → Calls Try.prog 16 #[.pointer (some ⟨c1, 0, none⟩)] W fun e w' => e = .returned (.tuple #[.int .i64 (que s), .int .i64 (queE s)]) ∧ Below W.heap.size W w') := Lib.hid (fun W h => Queueing_any h.a hI)
  have HA4 : Hid (∀ W, Bo w W c1 c2 s all m1 f1 al → Calls Try.prog 26 #[.pointer (some ⟨c2, 0, none⟩)] W fun e w' => e = .returned (.tuple #[.int .i64 (que s), .int .i64 (queE s)]) ∧ Below W.heap.size W w') := Lib.hid (fun W h => RQueueing_any h.b hk hlen)
  have HL1 : Hid (∀ W, Bo w W c1 c2 s all m1 f1 al → Calls Try.prog 12 #[.pointer (some ⟨c1, 0, none⟩)] W fun e w' => e = .returned (.int .i64 s.limit) ∧ W = w') := Lib.hid (fun W h => Fk.Limit_any h.a)
  have HL2 : Hid (∀ W, Bo w W c1 c2 s all m1 f1 al → Calls Try.prog 27 #[.pointer (some ⟨c2, 0, none⟩)] W fun e w' => e = .returned (.int .i64 s.limit) ∧ W = w') := Lib.hid (fun W h => RLimit_any h.b)
  have HT1 : Hid (∀ W, Bo w W c1 c2 s all m1 f1 al → Calls Try.prog 28 #[.pointer (some ⟨c1, 0, none⟩)] W fun e w' => e = .returned (.int .i64 s.target) ∧ W = w') := Lib.hid (fun W h => Target_any h.a)
  have HT2 : Hid (∀ W, Bo w W c1 c2 s all m1 f1 al → Calls Try.prog 29 #[.pointer (some ⟨c2, 0, none⟩)] W fun e w' => e = .returned (.int .i64 s.target) ∧ W = w') := Lib.hid (fun W h => RTarget_any h.b)
  have HB1 : Hid (∀ W, Bo w W c1 c2 s all m1 f1 al → Calls Try.prog 31 #[.pointer (some ⟨c1, 0, none⟩)] W fun e w' => ∃ v, e = .returned v ∧ OR w' W.heap.size v (s.bs.map Prod.snd) ∧ Below W.heap.size W w') := Lib.hid (fun W h => PBases_any h.a)
  have HB2 : Hid (∀ W, Bo w W c1 c2 s all m1 f1 al → Calls Try.prog 32 #[.pointer (some ⟨c2, 0, none⟩)] W fun e w' => ∃ v, e = .returned v ∧ OR w' W.heap.size v (s.bs.map Prod.snd) ∧ Below W.heap.size W w') := Lib.hid (fun W h => by rw [hk.bs]; exact RBases_any c2 s all al W h.b hk hlen)
  have HDL : Hid (∀ z ∈ s.bs.map Prod.snd, (Lit.int .i64 z).wf = true) := Lib.hid (fun z hz => WalkArith.wf_i64 (by rw [hk.bs] at hz; have := bsOf_dl hk.dl z hz; omega))
  have HLN : (s.bs.map Prod.snd).length ≤ 10 := by rw [List.length_map, hk.bs]; exact bsOf_len all
  have HBo := Lib.hid h
  clear h hI hk
  generalize pba s = pb at *
  generalize queE s = qe at *
  generalize que s = qu at *
  generalize s.limit = lm at *
  generalize s.target = tg at *
  generalize s.bs.map Prod.snd = B at *
  go_enter Try.func11, Try.ntmps11
  go_wp2_with fail
  refine (HA1.out _ HBo.out).mono ?_
  rintro e w1 ⟨rfl, hb1⟩
  have HBo1 := Lib.hid (HBo.out.quiet (gb_below hb1 none))
  have HB01 := Lib.hid hb1
  clear hb1
  go_wp2_with fail
  refine (HA2.out _ HBo1.out).mono ?_
  rintro e w2 ⟨rfl, hb2⟩
  have HBo2 := Lib.hid (HBo1.out.quiet (gb_below hb2 none))
  have HB02 := Lib.hid (Hz.blw HB01.out hb2)
  clear hb2
  go_wp2_with fail
  refine (HA3.out _ HBo2.out).mono ?_
  rintro e w3 ⟨rfl, hb3⟩
  have HBo3 := Lib.hid (HBo2.out.quiet (gb_below hb3 none))
  have HB03 := Lib.hid (Hz.blw HB02.out hb3)
  clear hb3
  go_wp2_with fail
  refine (HA4.out _ HBo3.out).mono ?_
  rintro e w4 ⟨rfl, hb4⟩
  have HBo4 := Lib.hid (HBo3.out.quiet (gb_below hb4 none))
  have HB04 := Lib.hid (Hz.blw HB03.out hb4)
  clear hb4
  go_wp2_with fail
  refine (HL1.out _ HBo4.out).mono ?_
  rintro e w5 ⟨rfl, rfl⟩
  go_wp2_with fail
  refine (HL2.out _ HBo4.out).mono ?_
  rintro e w5 ⟨rfl, rfl⟩
  go_wp2_with fail
  refine (HT1.out _ HBo4.out).mono ?_
  rintro e w5 ⟨rfl, rfl⟩
  go_wp2_with fail
  refine (HT2.out _ HBo4.out).mono ?_
  rintro e w5 ⟨rfl, rfl⟩
  go_wp2_with fail
  refine (HB1.out _ HBo4.out).mono ?_
  rintro e w5 ⟨v5, rfl, ho5, hb5⟩
  have HBo5 := Lib.hid (HBo4.out.quiet (gb_below hb5 none))
  have HB05 := Lib.hid (Hz.blw HB04.out hb5)
  have HO5 := Lib.hid ho5
  clear hb5 ho5
  go_wp2_with fail
  refine (HB2.out _ HBo5.out).mono ?_
  rintro e w6 ⟨v6, rfl, ho6, hb6⟩
  have ho5' := HO5.out.below_ hb6
  obtain ⟨a5, cp5, rfl, hr5⟩ := ho5'.row_ HDL.out
  obtain ⟨a6, cp6, rfl, hr6⟩ := ho6.row_ HDL.out
  have HB06 := Lib.hid (Hz.blw HB05.out hb6)
  have HSI := Lib.hid (SameInts_eq a5 a6 _ cp5 cp6 B w6 hr5 hr6)
  clear ho6 hb6 hr5 hr6 ho5'
  generalize B.length = ln at *
  go_wp2_with fail
  refine HSI.out.mono ?_
  rintro e w7 ⟨rfl, n7, rfl⟩
  go_wp2
  go_ret
  exact ⟨rfl, blw_drewN HB06.out n7⟩
end Go.Proofs.Ythjhbceepkoifaa.Fy
