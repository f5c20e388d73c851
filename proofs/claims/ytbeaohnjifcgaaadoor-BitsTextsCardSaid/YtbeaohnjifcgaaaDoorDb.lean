/-
  Texts of bits: the reference's Decimal and Text.
-/
import Derived.Test.YtbeaohnjifcgaaaDoorCs
import Derived.Test.YtbeaohnjifcgaaaDoorBy
import Derived.Test.YtbeaohnjifcgaaaDoorDa
namespace Go.Proofs.YtbeaohnjifcgaaaDoor.Db
open Go Go.RowKit Go.Shelf Go.Proofs.YtbeaohnjifcgaaaDoor.Sx Go.Proofs.YtbeaohnjifcgaaaDoor.Na Go.Proofs.YtbeaohnjifcgaaaDoor.Ba Go.Proofs.YtbeaohnjifcgaaaDoor.Bh

theorem cnv1 (w : World) (v : Int) : (convert 57 9 (.slice (some ⟨w.heap.size, 0, none⟩) 1 1)).run Tryd.prog (w.alloc (.cells #[.int .u8 v] 5)) = .ok (.string (strOfNums [v])) (w.alloc (.cells #[.int .u8 v] 5)) := by
  refine run_convert_bytes_arg (P := Tryd.prog) _ 57 5 Tryd.underlying57 Tryd.underlying5 w.heap.size 0 1 1 [v] rfl (fun i hi => ?_) 9 Tryd.underlying9
  obtain rfl : i = 0 := by omega
  rw [World.cell?_alloc_at _ _ _ _ rfl]
  rfl
theorem below_alloc {w w1 : World} (o : Obj) (h : Below w.heap.size w w1) : Below w.heap.size w (w1.alloc o) := h.alloc h.size o

set_option maxRecDepth 100000 in
set_option maxHeartbeats 800000 in
theorem Decimal_small (k : Nat) (hk : k < 10) (w : World) :
    Calls Tryd.prog 94 #[.int .i64 (k : Int)] w fun e w' => e = .returned (.string (Hh.dec k)) ∧ Below w.heap.size w w' := by
  have hcv := fun v => cnv1 w v
  have a1 : (k : Int) % 10 = (k : Int) := by omega
  have a2 : IntKind.u8.wrap (48 + (k : Int)) = 48 + (k : Int) := by simp only [IntKind.wrap_u8]; omega
  have HD := Lib.hid (Hh.dec_small k hk)
  go_enter Tryd.func94, Tryd.ntmps94
  go_wp2_with fail
  go_ret
  exact ⟨by rw [HD.out]; rfl, (Below.refl _ _).alloc (Nat.le_refl _) _⟩

set_option maxRecDepth 100000 in
set_option maxHeartbeats 800000 in
theorem Decimal_any : ∀ (n k : Nat), k < 10 ^ (n + 1) → k ≤ 9223372036854775807 → ∀ w : World,
    Calls Tryd.prog 94 #[.int .i64 (k : Int)] w fun e w' => e = .returned (.string (Hh.dec k)) ∧ Below w.heap.size w w' := by
  intro n
  induction n with
  | zero => exact fun k hk _ w => Decimal_small k (by omega) w
  | succ n ih =>
    intro k hk hm w
    by_cases h10 : k < 10
    · exact Decimal_small k h10 w
    · have hih : ∀ w, Calls Tryd.prog 94 #[.int .i64 ((k : Int) / 10)] w fun e w' => e = .returned (.string (Hh.dec (k / 10))) ∧ Below w.heap.size w w' := fun w => by
        have := ih (k / 10) (by rw [Nat.pow_succ] at hk; omega) (by omega) w
        rwa [show ((k / 10 : Nat) : Int) = (k : Int) / 10 by omega] at this
      have hd : Hh.dec k = Hh.dec (k / 10) ++ strOfNums [48 + (k : Int) % 10] := by rw [Hh.dec_big k h10, show ((k % 10 : Nat) : Int) = (k : Int) % 10 by omega]
      have hz1 : (Hh.dec (k / 10)).size ≤ 30 := Hh.dec_size _ (by omega)
      have hz2 : (strOfNums [48 + (k : Int) % 10]).size = 1 := by rw [strOfNums_size]; rfl
      have hcv := fun v => cnv1 w v
      have a2 : IntKind.u8.wrap (48 + (k : Int) % 10) = 48 + (k : Int) % 10 := by simp only [IntKind.wrap_u8]; omega
      generalize Hh.dec (k / 10) = D at hih hd hz1
      have HD := Lib.hid hd
      have HI := Lib.hid hih
      clear hd hih ih
      go_enter Tryd.func94, Tryd.ntmps94
      go_wp2_with fail
      refine (HI.out _).mono ?_
      rintro e w1 ⟨rfl, hb1⟩
      go_wp2_with fail
      go_ret
      exact ⟨by rw [HD.out]; rfl, below_of (gb_trans (gb_alloc _ _ _) (gb_below hb1 none))⟩

theorem Decimal_all (k : Nat) (hk : k ≤ 9223372036854775807) (w : World) :
    Calls Tryd.prog 94 #[.int .i64 (k : Int)] w fun e w' => e = .returned (.string (Hh.dec k)) ∧ Below w.heap.size w w' :=
  Decimal_any 19 k (by omega) hk w


/-- the text of the first k runs, as a string -/
def txB (l : List (Nat × Nat)) (k : Nat) : ByteArray := ⟨(txk l k).toArray⟩
theorem txB_data (l : List (Nat × Nat)) (k : Nat) : (txB l k).data.toList = txk l k := rfl
theorem txB_size (l : List (Nat × Nat)) (k : Nat) : (txB l k).size = (txk l k).length := by rw [← len_data, txB_data]
theorem bx {a b : ByteArray} (h : a.data.toList = b.data.toList) : a = b := ByteArray.ext (Array.toList_inj.1 h)
theorem teS_ruL (n : Int) (s : ByteArray) : teS n s = txB (ruL n s) (ruL n s).length := by
  unfold teS ruL
  split
  · rfl
  · rfl
theorem ruL_le (n : Int) (s : ByteArray) : ∀ p ∈ ruL n s, p.1 + p.2 ≤ 4096 := by
  intro p hp
  unfold ruL at hp
  split at hp
  · rename_i h
    obtain ⟨N, rfl, h1, _⟩ := vd_t (chk_t h)
    have := rnl_le _ _ p hp
    rw [Int.toNat_natCast] at this
    omega
  · cases hp

set_option maxRecDepth 1000000 in
set_option maxHeartbeats 3200000 in
theorem RText_any (n : Int) (s : ByteArray) (w : World) (hs : s.size ≤ 140737488351232) :
    Calls Tryd.prog 48 #[.int .i64 n, .string s] w fun e w' => e = .returned (.tuple #[.string (teS n s), .int .i64 (chk n s)]) ∧ w.grownBy w' none := by
  have HRN := Lib.hid (fun w => RRuns_any n s w hs)
  have hle := ruL_le n s
  have hll := ruL_len n s
  rw [teS_ruL]
  obtain ⟨E, hE⟩ : ∃ E, chk n s = E := ⟨_, rfl⟩
  obtain ⟨l, hl⟩ : ∃ l, ruL n s = l := ⟨_, rfl⟩
  rw [hl] at hle hll
  simp only [hl, hE] at HRN ⊢
  have HTL : Hid (∀ k, k ≤ l.length → (txB l k).size ≤ 300000) := Lib.hid (fun k hk => by rw [txB_size]; have := txk_len l (fun p hp => by have := hle p hp; omega) k hk; omega)
  have HLE := Lib.hid hle
  have HDC := Lib.hid (fun k hk w => Decimal_all k hk w)
  clear hE hl hle
  go_enter Tryd.func48, Tryd.ntmps48
  go_wp2_with fail
  refine (HRN.out _).mono ?_
  rintro e w1 ⟨a, cap, rfl, hru, hg1⟩
  have HRU := Lib.hid hru
  have HG1 := Lib.hid hg1
  clear hru hg1
  obtain ⟨len, hlen⟩ : ∃ len, l.length = len := ⟨_, rfl⟩
  have HLN := Lib.hid hlen
  rw [hlen] at hll ⊢
  clear hlen
  go_wp2_with fail
  go_loopw [8, 9, 10, 19] (fun o _ _ i wr => ∃ k : Nat, k ≤ len ∧ i = .int .i64 (k : Int) ∧ o = .string (txB l k) ∧ Hid (w1.grownBy wr none)) (fun _ _ _ i _ => len - (intOf i).toNat)
  case atStart => exact ⟨0, Nat.zero_le _, rfl, rfl, Lib.hid (gb_refl _ _)⟩
  case round =>
    obtain ⟨k, hk, rfl, rfl, HGk⟩ := hrel
    by_cases hlt : k < len
    · have hlt' : (k : Int) < (len : Int) := by omega
      obtain ⟨zb, off, rfl, hzc⟩ := HRU.out (by rw [RI_len, HLN.out]; omega)
      obtain ⟨z0, z1⟩ := hzc k (by rw [RI_len, HLN.out]; exact hlt)
      rw [RI_at] at z0 z1
      have hmem := HLE.out _ (getD_mem (l := l) (k := k) (by rw [HLN.out]; exact hlt))
      obtain ⟨p, hp⟩ : ∃ p, l.getD k (0, 0) = p := ⟨_, rfl⟩
      rw [hp] at z0 z1 hmem
      have HTX : Hid (txk l (k + 1) = txk l k ++ item k p) := Lib.hid (by rw [txk, hp])
      obtain ⟨f, c⟩ := p
      simp only [] at z0 z1 hmem
      have cz := gb_cell HGk.out z0 (by simp)
      have cz1 := gb_cell HGk.out z1 (by simp)
      clear hzc z0 z1 hp
      have h0 := HTL.out k (by rw [HLN.out]; exact hk)
      have d1 : (Hh.dec f).size ≤ 30 := Hh.dec_size f (by omega)
      have d2 : (Hh.dec (f + c - 1)).size ≤ 30 := Hh.dec_size (f + c - 1) (by omega)
      have HD1 : Hid (∀ w, Calls Tryd.prog 94 #[.int .i64 (f : Int)] w fun e w' => e = .returned (.string (Hh.dec f)) ∧ Below w.heap.size w w') := Lib.hid (fun w => HDC.out f (by omega) w)
      have HD2 : 1 < c → Hid (∀ w, Calls Tryd.prog 94 #[.int .i64 ((f : Int) + (c : Int) - 1)] w fun e w' => e = .returned (.string (Hh.dec (f + c - 1))) ∧ Below w.heap.size w w') := fun hc => Lib.hid (fun w => by have := HDC.out (f + c - 1) (by omega) w; rwa [show ((f + c - 1 : Nat) : Int) = (f : Int) + (c : Int) - 1 by omega] at this)
      have r0 : (wr.alloc (.cells #[.int .i64 (f : Int), .int .i64 (c : Int)] 85)).cell? ⟨wr.heap.size, 0, none⟩ = some (.int .i64 (f : Int)) := cell_at (World.alloc_heap_new wr _) rfl
      have r1 : (wr.alloc (.cells #[.int .i64 (f : Int), .int .i64 (c : Int)] 85)).cell? ⟨wr.heap.size, 1, none⟩ = some (.int .i64 (c : Int)) := cell_at (World.alloc_heap_new wr _) rfl
      have HGA : Hid (w1.grownBy (wr.alloc (.cells #[.int .i64 (f : Int), .int .i64 (c : Int)] 85)) none) := Lib.hid (gb_trans HGk.out (gb_alloc _ _ _))
      have hf5 : f ≤ 5000 := by omega
      have hc5 : c ≤ 5000 := by omega
      have HX : Hid (∀ o : ByteArray, (o.data.toList = txk l k ++ item k (f, c)) → o = txB l (k + 1)) := Lib.hid (fun o ho => bx (by rw [ho, txB_data, HTX.out]))
      obtain ⟨o, ho⟩ : ∃ o, txB l k = o := ⟨_, rfl⟩
      have HO : Hid (o.data.toList = txk l k) := Lib.hid (by rw [← ho]; rfl)
      rw [ho] at h0
      rw [ho]
      obtain ⟨x1, hx1⟩ : ∃ x, Hh.dec f = x := ⟨_, rfl⟩
      obtain ⟨x2, hx2⟩ : ∃ x, Hh.dec (f + c - 1) = x := ⟨_, rfl⟩
      have HIT : Hid (item k (f, c) = (if k = 0 then [] else [44]) ++ x1.data.toList ++ (if 1 < c then 45 :: x2.data.toList else [])) := Lib.hid (by unfold item; rw [hx1, hx2])
      rw [hx1] at d1
      rw [hx2] at d2
      simp only [hx1] at HD1
      simp only [hx2] at HD2
      clear ho hx1 hx2 hmem
      have cc0 : (⟨#[44]⟩ : ByteArray).size = 1 := rfl
      have cc1 : (⟨#[45]⟩ : ByteArray).size = 1 := rfl
      by_cases hk0 : k = 0
      · by_cases hc : 1 < c
        · subst hk0
          have ek : (0 : Nat) = 0 := rfl
          have cz2 : wr.cell? ⟨zb, off, none⟩ = some (.int .i64 (f : Int)) := by simpa using cz
          have cz3 : wr.cell? ⟨zb, off + 1, none⟩ = some (.int .i64 (c : Int)) := by simpa using cz1
          have hlt2 : (0 : Int) < (len : Int) := by omega
          clear cz cz1 hlt'
          have e2 : (1 : Int) < (c : Int) := by omega
          have HD2' := HD2 hc
          have HEK := Lib.hid ek
          clear HD2 ek
          have q2 : o.size + x1.size ≤ 9223372036854775807 := by omega
          have s2 : (o ++ x1).size = o.size + x1.size := by rw [ByteArray.size_append]
          have q3 : 1 + x2.size ≤ 9223372036854775807 := by omega
          have s3 : ((⟨#[45]⟩ : ByteArray) ++ x2).size = 1 + x2.size := by rw [ByteArray.size_append, cc1]
          have q4 : o.size + x1.size + (1 + x2.size) ≤ 9223372036854775807 := by omega
          have HE : Hid (((o ++ x1) ++ ((⟨#[45]⟩ : ByteArray) ++ x2)) = txB l (0 + 1)) := Lib.hid (HX.out _ (by rw [HIT.out]; simp [ByteArray.data_append, HO.out, HEK.out, hc]))
          clear hc
          go_wp2_with fail
          refine (HD1.out _).mono ?_
          rintro e w2 ⟨rfl, hb2⟩
          have HG2 : Hid (w1.grownBy w2 none) := Lib.hid (gb_trans HGA.out (gb_below hb2 none))
          have r10 := gb_cell (gb_below hb2 none) r0 (by simp)
          have r11 := gb_cell (gb_below hb2 none) r1 (by simp)
          clear hb2
          go_wp2_with fail
          refine (HD2'.out _).mono ?_
          rintro e w3 ⟨rfl, hb3⟩
          have HG3 : Hid (w1.grownBy w3 none) := Lib.hid (gb_trans HG2.out (gb_below hb3 none))
          clear hb3
          go_wp2_with fail
          exact ⟨⟨0 + 1, by omega, by rfl, by rw [HE.out], HG3⟩, by simp [intOf]; omega⟩
        · subst hk0
          have ek : (0 : Nat) = 0 := rfl
          have cz2 : wr.cell? ⟨zb, off, none⟩ = some (.int .i64 (f : Int)) := by simpa using cz
          have cz3 : wr.cell? ⟨zb, off + 1, none⟩ = some (.int .i64 (c : Int)) := by simpa using cz1
          have hlt2 : (0 : Int) < (len : Int) := by omega
          clear cz cz1 hlt'
          have e2 : ¬ (1 : Int) < (c : Int) := by omega
          have HEK := Lib.hid ek
          clear HD2 ek
          have q2 : o.size + x1.size ≤ 9223372036854775807 := by omega
          have s2 : (o ++ x1).size = o.size + x1.size := by rw [ByteArray.size_append]
          have HE : Hid ((o ++ x1) = txB l (0 + 1)) := Lib.hid (HX.out _ (by rw [HIT.out]; simp [ByteArray.data_append, HO.out, HEK.out, hc]))
          clear hc
          go_wp2_with fail
          refine (HD1.out _).mono ?_
          rintro e w2 ⟨rfl, hb2⟩
          have HG2 : Hid (w1.grownBy w2 none) := Lib.hid (gb_trans HGA.out (gb_below hb2 none))
          have r10 := gb_cell (gb_below hb2 none) r0 (by simp)
          have r11 := gb_cell (gb_below hb2 none) r1 (by simp)
          clear hb2
          go_wp2_with fail
          exact ⟨⟨0 + 1, by omega, by rfl, by rw [HE.out], HG2⟩, by simp [intOf]; omega⟩
      · by_cases hc : 1 < c
        · have e1 : (0 : Int) < (k : Int) := by omega
          have ek : ¬ k = 0 := by omega
          have e2 : (1 : Int) < (c : Int) := by omega
          have HD2' := HD2 hc
          have HEK := Lib.hid ek
          clear HD2 ek
          have q1 : o.size + 1 ≤ 9223372036854775807 := by omega
          have s1 : (o ++ (⟨#[44]⟩ : ByteArray)).size = o.size + 1 := by rw [ByteArray.size_append, cc0]
          have q2 : o.size + 1 + x1.size ≤ 9223372036854775807 := by omega
          have s2 : ((o ++ (⟨#[44]⟩ : ByteArray)) ++ x1).size = o.size + 1 + x1.size := by rw [ByteArray.size_append, s1]
          have q3 : 1 + x2.size ≤ 9223372036854775807 := by omega
          have s3 : ((⟨#[45]⟩ : ByteArray) ++ x2).size = 1 + x2.size := by rw [ByteArray.size_append, cc1]
          have q4 : o.size + 1 + x1.size + (1 + x2.size) ≤ 9223372036854775807 := by omega
          have HE : Hid ((((o ++ (⟨#[44]⟩ : ByteArray)) ++ x1) ++ ((⟨#[45]⟩ : ByteArray) ++ x2)) = txB l (k + 1)) := Lib.hid (HX.out _ (by rw [HIT.out]; simp [ByteArray.data_append, HO.out, HEK.out, hc]))
          clear hc
          go_wp2_with fail
          refine (HD1.out _).mono ?_
          rintro e w2 ⟨rfl, hb2⟩
          have HG2 : Hid (w1.grownBy w2 none) := Lib.hid (gb_trans HGA.out (gb_below hb2 none))
          have r10 := gb_cell (gb_below hb2 none) r0 (by simp)
          have r11 := gb_cell (gb_below hb2 none) r1 (by simp)
          clear hb2
          go_wp2_with fail
          refine (HD2'.out _).mono ?_
          rintro e w3 ⟨rfl, hb3⟩
          have HG3 : Hid (w1.grownBy w3 none) := Lib.hid (gb_trans HG2.out (gb_below hb3 none))
          clear hb3
          go_wp2_with fail
          exact ⟨⟨k + 1, by omega, by rfl, by rw [HE.out], HG3⟩, by simp [intOf]; omega⟩
        · have e1 : (0 : Int) < (k : Int) := by omega
          have ek : ¬ k = 0 := by omega
          have e2 : ¬ (1 : Int) < (c : Int) := by omega
          have HEK := Lib.hid ek
          clear HD2 ek
          have q1 : o.size + 1 ≤ 9223372036854775807 := by omega
          have s1 : (o ++ (⟨#[44]⟩ : ByteArray)).size = o.size + 1 := by rw [ByteArray.size_append, cc0]
          have q2 : o.size + 1 + x1.size ≤ 9223372036854775807 := by omega
          have s2 : ((o ++ (⟨#[44]⟩ : ByteArray)) ++ x1).size = o.size + 1 + x1.size := by rw [ByteArray.size_append, s1]
          have HE : Hid (((o ++ (⟨#[44]⟩ : ByteArray)) ++ x1) = txB l (k + 1)) := Lib.hid (HX.out _ (by rw [HIT.out]; simp [ByteArray.data_append, HO.out, HEK.out, hc]))
          clear hc
          go_wp2_with fail
          refine (HD1.out _).mono ?_
          rintro e w2 ⟨rfl, hb2⟩
          have HG2 : Hid (w1.grownBy w2 none) := Lib.hid (gb_trans HGA.out (gb_below hb2 none))
          have r10 := gb_cell (gb_below hb2 none) r0 (by simp)
          have r11 := gb_cell (gb_below hb2 none) r1 (by simp)
          clear hb2
          go_wp2_with fail
          exact ⟨⟨k + 1, by omega, by rfl, by rw [HE.out], HG2⟩, by simp [intOf]; omega⟩
    · obtain rfl : k = len := by omega
      have hnlt : ¬ ((k : Int) < (k : Int)) := by omega
      have HE : Hid (txB l k = txB l l.length) := Lib.hid (by rw [HLN.out])
      obtain ⟨o, ho⟩ : ∃ o, txB l k = o := ⟨_, rfl⟩
      rw [ho] at HE ⊢
      clear ho
      go_wp2_with fail
      go_ret2
      exact ⟨by rw [HE.out] <;> rfl, gb_trans HG1.out HGk.out⟩
end Go.Proofs.YtbeaohnjifcgaaaDoor.Db
