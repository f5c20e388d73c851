/-
  Veiled streams: the program's key, must and Looks; the reference's stream and Looks.
-/
import Derived.Test.YtojgigoknjenoaaDoorUc
import Derived.Test.YtojgigoknjenoaaDoorVa
namespace Go.Proofs.YtojgigoknjenoaaDoor.Vb
open Go Go.RowKit Go.Shelf Go.Proofs.YtojgigoknjenoaaDoor.Hh Go.Proofs.YtojgigoknjenoaaDoor.Sx Go.Proofs.YtojgigoknjenoaaDoor.Hi

/-- what the key is the digest of -/
def keyT (q : Int) (sh nm : ByteArray) : ByteArray := (((⟨#[107, 101, 121]⟩ : ByteArray) ++ strOfNums [q]) ++ sh) ++ nm
/-- the key -/
def ky (q : Int) (sh nm : ByteArray) : ByteArray := Dg.sum (keyT q sh nm).data.toList
theorem ky_size (q : Int) (sh nm : ByteArray) : (ky q sh nm).size = 32 := Dg.sum_size _
theorem keyT_size (q : Int) (sh nm : ByteArray) : (keyT q sh nm).size = 4 + sh.size + nm.size := by
  unfold keyT
  rw [ByteArray.size_append, ByteArray.size_append, ByteArray.size_append, strOfNums_size]
  rfl
theorem cv1 (w : World) (v : Int) : (convert 36 9 (.slice (some ⟨w.heap.size, 0, none⟩) 1 1)).run Tryd.prog (w.alloc (.cells #[.int .u8 v] 5)) = .ok (.string (strOfNums [v])) (w.alloc (.cells #[.int .u8 v] 5)) :=
  conv_new w #[.int .u8 v] [v] _ 1 _ rfl rfl rfl

theorem cv1d (w : World) (v : Int) : (convert 36 9 (.slice (some ⟨w.heap.size, 0, none⟩) 1 1)).run Tryd.prog (w.alloc (.cells #[.int .u8 v] 5)).drew = .ok (.string (strOfNums [v])) (w.alloc (.cells #[.int .u8 v] 5)).drew := cv1 w.drew v

set_option maxRecDepth 100000 in
set_option maxHeartbeats 800000 in
theorem streamKey_any (q : Int) (sh nm : ByteArray) (w : World) (hs : sh.size ≤ 100) (hn : nm.size ≤ 100) :
    Calls Tryd.prog 14 #[.int .u8 q, .string sh, .string nm] w fun e w' => e = .returned (.string (ky q sh nm)) ∧ w.grownBy w' none := by
  have hcv := fun w v => cv1 w v
  have hS := Lib.hid (fun w => Sum_any (keyT q sh nm) w (by rw [keyT_size]; unfold maxLen; omega))
  have z1 : (strOfNums [q]).size = 1 := by rw [strOfNums_size]; rfl
  have z0 : (⟨#[107, 101, 121]⟩ : ByteArray).size = 3 := rfl
  have z2 : ((⟨#[107, 101, 121]⟩ : ByteArray) ++ strOfNums [q]).size = 4 := by rw [ByteArray.size_append, z1, z0]
  have z3 : (((⟨#[107, 101, 121]⟩ : ByteArray) ++ strOfNums [q]) ++ sh).size = 4 + sh.size := by rw [ByteArray.size_append, z2]
  have z4 : 4 + sh.size + nm.size ≤ 9223372036854775807 := by omega
  have z5 : 4 + sh.size ≤ 9223372036854775807 := by omega
  go_enter Tryd.func14, Tryd.ntmps14
  go_wp2_with fail
  refine (hS.out _).mono ?_
  rintro e w1 ⟨rfl, hb1⟩
  go_wp2
  go_ret
  exact ⟨rfl, gb_trans (gb_alloc _ _ _) (gb_below hb1 none)⟩
set_option maxHeartbeats 800000 in
theorem must_ok (x : ByteArray) (w : World) : Calls Tryd.prog 12 #[.string x, .int .i64 0] w fun e w' => e = .returned (.string x) ∧ w = w' := by
  have HN := Lib.hid (fun k w => Va.refuse_no k w)
  go_enter Tryd.func12, Tryd.ntmps12
  go_wp2_with fail
  refine (HN.out _ _).mono ?_
  rintro e w1 ⟨rfl, rfl⟩
  go_wp2
  go_ret
  exact ⟨rfl, rfl⟩
set_option maxHeartbeats 800000 in
theorem must_no (x : ByteArray) (w : World) : Calls Tryd.prog 12 #[.string x, .int .i64 7] w fun e w' => e = .panicked [{ v := .iface 23 (.int .i64 7), recovered := false }] ∧ w = w' := by
  have HN := Lib.hid (fun k w => Va.refuse_yes k w)
  go_enter Tryd.func12, Tryd.ntmps12
  go_wp2_with fail
  refine (HN.out _ _).mono ?_
  rintro e w1 ⟨rfl, rfl⟩
  exact ⟨rfl, rfl, rfl⟩

set_option maxRecDepth 100000 in
set_option maxHeartbeats 800000 in
theorem Dec22_small (k : Nat) (hk : k < 10) (w : World) :
    Calls Tryd.prog 31 #[.int .i64 (k : Int)] w fun e w' => e = .returned (.string (dec k)) ∧ Below w.heap.size w w' := by
  have hcv := fun w v => cv1 w v
  have a1 : (k : Int) % 10 = (k : Int) := by omega
  have a2 : IntKind.u8.wrap (48 + (k : Int)) = 48 + (k : Int) := by simp only [IntKind.wrap_u8]; omega
  have HD := Lib.hid (dec_small k hk)
  go_enter Tryd.func31, Tryd.ntmps31
  go_wp2_with fail
  go_ret
  exact ⟨by rw [HD.out]; rfl, (Below.refl _ _).alloc (Nat.le_refl _) _⟩

set_option maxRecDepth 100000 in
set_option maxHeartbeats 800000 in
theorem Dec22_any : ∀ (n k : Nat), k < 10 ^ (n + 1) → k ≤ 9223372036854775807 → ∀ w : World,
    Calls Tryd.prog 31 #[.int .i64 (k : Int)] w fun e w' => e = .returned (.string (dec k)) ∧ Below w.heap.size w w' := by
  intro n
  induction n with
  | zero => exact fun k hk _ w => Dec22_small k (by omega) w
  | succ n ih =>
    intro k hk hm w
    by_cases h10 : k < 10
    · exact Dec22_small k h10 w
    · have hih : ∀ w, Calls Tryd.prog 31 #[.int .i64 ((k : Int) / 10)] w fun e w' => e = .returned (.string (dec (k / 10))) ∧ Below w.heap.size w w' := fun w => by
        have := ih (k / 10) (by rw [Nat.pow_succ] at hk; omega) (by omega) w
        rwa [show ((k / 10 : Nat) : Int) = (k : Int) / 10 by omega] at this
      have hd : dec k = dec (k / 10) ++ strOfNums [48 + (k : Int) % 10] := by rw [dec_big k h10, show ((k % 10 : Nat) : Int) = (k : Int) % 10 by omega]
      have hz1 : (dec (k / 10)).size ≤ 30 := dec_size _ (by omega)
      have hz2 : (strOfNums [48 + (k : Int) % 10]).size = 1 := by rw [strOfNums_size]; rfl
      have hcv := fun w v => cv1 w v
      have a2 : IntKind.u8.wrap (48 + (k : Int) % 10) = 48 + (k : Int) % 10 := by simp only [IntKind.wrap_u8]; omega
      generalize dec (k / 10) = D at hih hd hz1
      have HD := Lib.hid hd
      have HI := Lib.hid hih
      clear hd hih ih
      have ha : IntKind.i64.wrap ((k : Int) / 10) = (k : Int) / 10 := by rw [IntKind.wrap_i64]; omega
      have hb : (k : Int).tmod 10 = (k : Int) % 10 := by rw [Int.tmod_eq_emod_of_nonneg (by omega)]
      have hc : IntKind.i64.wrap (48 + (k : Int) % 10) = 48 + (k : Int) % 10 := by rw [IntKind.wrap_i64]; omega
      have hcd := fun v => cv1d w v
      have HCB : Hid (∀ W', Below (w.alloc (.cells #[.int .u8 (48 + (k : Int) % 10)] 5)).drew.heap.size (w.alloc (.cells #[.int .u8 (48 + (k : Int) % 10)] 5)).drew W' → (convert 36 9 (.slice (some ⟨w.heap.size, 0, none⟩) 1 1)).run Tryd.prog W' = .ok (.string (strOfNums [48 + (k : Int) % 10])) W') := Lib.hid fun W' h => conv_below w W' #[.int .u8 (48 + (k : Int) % 10)] [48 + (k : Int) % 10] _ 1 5 rfl rfl rfl ((show Below (w.alloc (.cells #[.int .u8 (48 + (k : Int) % 10)] 5)).heap.size (w.alloc (.cells #[.int .u8 (48 + (k : Int) % 10)] 5)) W' from ⟨h.os, h.tape, h.output, h.size, h.block⟩).mono (by simp))
      go_enter Tryd.func31, Tryd.ntmps31
      go_wp2_with fail
      go_region_with (go_at_call 31; refine (HI.out _).mono ?_; rintro e w1 ⟨rfl, hb1⟩; first | (with_reducible have hcw := HCB.out _ hb1) | skip)
      all_goals
        go_wp2_with fail
        go_ret
        refine ⟨by rw [HD.out]; rfl, ?_⟩
        first
          | exact below_gb (gb_trans (gb_trans (gb_drew1 _ none) (gb_below hb1 none)) (gb_alloc _ _ _))
          | exact below_gb (gb_trans (gb_trans (gb_alloc _ _ _) (gb_drew1 _ none)) (gb_below hb1 none))
          | exact below_gb (gb_trans (gb_alloc _ _ _) (gb_below hb1 none))

theorem Dec22_all (k : Nat) (hk : k ≤ 9223372036854775807) (w : World) :
    Calls Tryd.prog 31 #[.int .i64 (k : Int)] w fun e w' => e = .returned (.string (dec k)) ∧ Below w.heap.size w w' :=
  Dec22_any 19 k (by omega) hk w


set_option maxRecDepth 1000000 in
set_option maxHeartbeats 4000000 in
theorem long_any (s : ByteArray) (F C : Nat) (w : World) (hF : F ≤ 65536) (hC : C + F ≤ 65536) (hs : s.size ≤ 3000) :
    Calls Tryd.prog 23 #[.string s, .int .i64 (F : Int), .int .i64 (C : Int)] w fun e w' => e = .returned (.string (sgB s F C)) ∧ w.grownBy w' none := by
  have HD := Lib.hid (fun (k : Nat) (hk : k ≤ 5000) w => Dec22_all k (by omega) w)
  have HSm : Hid (∀ k : Nat, k ≤ 5000 → ∀ w, Calls Tryd.prog 22 #[.string (s ++ (⟨#[47]⟩ : ByteArray) ++ dec k)] w fun e w' => e = .returned (.string (pt s k)) ∧ Below w.heap.size w w') := Lib.hid (fun k hk w => by
    have hz := dec_size k (by omega)
    have := RSum_any (s ++ (⟨#[47]⟩ : ByteArray) ++ dec k) w (by rw [ByteArray.size_append, ByteArray.size_append]; show s.size + 1 + (dec k).size ≤ maxLen; unfold maxLen; omega)
    rwa [show Dg.sum (s ++ (⟨#[47]⟩ : ByteArray) ++ dec k).data.toList = pt s k from by unfold pt ptT; congr 1; simp [ByteArray.data_append, slash]] at this)
  have HDS := Lib.hid (fun (k : Nat) (hk : k ≤ 5000) => dec_size k (by omega))
  obtain ⟨K0, hK0⟩ : ∃ K0, F / 32 = K0 := ⟨_, rfl⟩
  obtain ⟨S0, hS0⟩ : ∃ S0, F % 32 = S0 := ⟨_, rfl⟩
  have hq : (F : Int) / 32 = (K0 : Int) := by omega
  have HR := Lib.hid (show (F : Int) % 32 = (S0 : Int) by omega)
  have HR2 := Lib.hid (show F % 32 = S0 by omega)
  have hS32 : S0 < 32 := by omega
  have HFK := Lib.hid (show F = 32 * K0 + S0 by omega)
  have hK5 : K0 ≤ 2048 := by omega
  have hSC : S0 + C ≤ 65600 := by omega
  have hc1 : (⟨#[47]⟩ : ByteArray).size = 1 := rfl
  have hsz1 : (s ++ (⟨#[47]⟩ : ByteArray)).size = s.size + 1 := by rw [ByteArray.size_append, hc1]
  clear hK0 hS0
  go_enter Tryd.func23, Tryd.ntmps23
  go_wp2_with fail
  go_loopw [7, 8] (fun o j wr => ∃ m : Nat, m ≤ 2600 ∧ j = .int .i64 ((K0 + m : Nat) : Int) ∧ o = .string (sgB s (32 * K0) (32 * m)) ∧ (m = 0 ∨ 32 * (m - 1) < S0 + C) ∧ Hid (w.grownBy wr none)) (fun _ j _ => K0 + 2600 - (intOf j).toNat)
  case atStart => exact ⟨0, by omega, rfl, rfl, .inl rfl, Lib.hid (gb_refl _ _)⟩
  case round =>
    obtain ⟨m, hm, rfl, rfl, hm2, HG⟩ := hrel
    have hz := sgB_size s (32 * K0) (32 * m)
    by_cases hlt : 32 * m < S0 + C
    · have hm3 : m < 2600 := by omega
      have hadd : sgB s (32 * K0) (32 * m) ++ pt s (K0 + m) = sgB s (32 * K0) (32 * (m + 1)) := by
        rw [sgB_part, show 32 * (K0 + m) = 32 * K0 + 32 * m by omega, sgB_add, show 32 * m + 32 = 32 * (m + 1) by omega]
      have HAdd := Lib.hid hadd
      have hd := HD.out (K0 + m) (by omega)
      have hS := HSm.out (K0 + m) (by omega)
      have hds := HDS.out (K0 + m) (by omega)
      have hps := pt_size s (K0 + m)
      obtain ⟨o, ho⟩ : ∃ o, sgB s (32 * K0) (32 * m) = o := ⟨_, rfl⟩
      obtain ⟨x, hx⟩ : ∃ x, K0 + m = x := ⟨_, rfl⟩
      simp only [ho, hx] at hz hps hds HAdd hd hS ⊢
      obtain ⟨p, hp⟩ : ∃ p, pt s x = p := ⟨_, rfl⟩
      obtain ⟨d, hdd⟩ : ∃ d, dec x = d := ⟨_, rfl⟩
      simp only [hp, hdd] at hps hds HAdd hd hS
      have HDx := Lib.hid hd
      have HSx := Lib.hid hS
      have HX := Lib.hid hx
      have hz1 : (o.size : Int) < (F : Int) % 32 + (C : Int) := by have := HR.out; omega
      have hz3 : (s ++ (⟨#[47]⟩ : ByteArray)).size + d.size ≤ 9223372036854775807 := by omega
      have hz4 : o.size + p.size ≤ 9223372036854775807 := by omega
      have hz5 : s.size + 1 ≤ 9223372036854775807 := by omega
      have hx5 : x ≤ 5000 := by omega
      have HLT := Lib.hid hlt
      have HZ := Lib.hid hz
      clear ho hp hdd hx hd hS hadd hz hlt
      go_wp2_with fail
      refine (HDx.out _).mono ?_
      rintro e w1 ⟨rfl, hb1⟩
      have HG1 := Lib.hid (gb_trans HG.out (gb_below hb1 none))
      clear hb1
      go_wp2_with fail
      refine (HSx.out _).mono ?_
      rintro e w2 ⟨rfl, hb1⟩
      have HG2 := Lib.hid (gb_trans HG1.out (gb_below hb1 none))
      clear hb1
      go_wp2_with fail
      exact ⟨⟨m + 1, by omega, by have := HX.out; first | (congr 1; omega) | (simp; omega), by rw [HAdd.out], .inr (by have := HLT.out; omega), HG2⟩, by have := HX.out; simp [intOf]; omega⟩
    · have hex : (sgB s (32 * K0) (32 * m)).extract S0 (S0 + C) = sgB s F C := by
        rw [sgB_ext _ _ _ _ _ (by omega) (by omega), HFK.out, show S0 + C - S0 = C by omega]
      have HEX := Lib.hid hex
      obtain ⟨o, ho⟩ : ∃ o, sgB s (32 * K0) (32 * m) = o := ⟨_, rfl⟩
      simp only [ho] at hz HEX ⊢
      have hz1 : (F : Int) % 32 + (C : Int) ≤ (o.size : Int) := by have := HR.out; omega
      have hz2 : F % 32 + C ≤ o.size := by have := HR2.out; omega
      obtain ⟨x, hx⟩ : ∃ x, K0 + m = x := ⟨_, rfl⟩
      rw [hx]
      clear ho hex hz hx hlt
      go_wp2_with fail
      go_ret
      exact ⟨by rw [← HEX.out, ← HR2.out] <;> rfl, HG.out⟩


/-- a text's length -/
def strLen : Value → Nat
  | .string s => s.size
  | _ => 0
set_option maxRecDepth 1000000 in
set_option maxHeartbeats 4000000 in
theorem rstream_any (q : Int) (sh nm : ByteArray) (F C : Nat) (w : World) (hF : F ≤ 65536) (hC : C + F ≤ 65536) (hC1 : C ≤ 1000) (hs : sh.size ≤ 100) (hn : nm.size ≤ 100) :
    Calls Tryd.prog 15 #[.int .u8 q, .string sh, .string nm, .int .i64 (F : Int), .int .i64 (C : Int)] w fun e w' => e = .returned (.string (sgB (ky q sh nm) F C)) ∧ w.grownBy w' none := by
  have hcv := fun w v => cv1 w v
  have hS := Lib.hid (fun w => RSum_any (keyT q sh nm) w (by rw [keyT_size]; unfold maxLen; omega))
  have hL := Lib.hid (fun w => long_any (ky q sh nm) F C w hF hC (by rw [ky_size]; omega))
  have z1 : (strOfNums [q]).size = 1 := by rw [strOfNums_size]; rfl
  have z0 : (⟨#[107, 101, 121]⟩ : ByteArray).size = 3 := rfl
  have z2 : ((⟨#[107, 101, 121]⟩ : ByteArray) ++ strOfNums [q]).size = 4 := by rw [ByteArray.size_append, z1, z0]
  have z3 : (((⟨#[107, 101, 121]⟩ : ByteArray) ++ strOfNums [q]) ++ sh).size = 4 + sh.size := by rw [ByteArray.size_append, z2]
  have z4 : 4 + sh.size + nm.size ≤ 9223372036854775807 := by omega
  have z5 : 4 + sh.size ≤ 9223372036854775807 := by omega
  have hT := sgB_size (ky q sh nm) F C
  have hT0 : C = 0 → sgB (ky q sh nm) F C = ⟨#[]⟩ := by rintro rfl; rfl
  unfold ky at *
  obtain ⟨T, hTT⟩ : ∃ T, sgB (Dg.sum (keyT q sh nm).data.toList) F C = T := ⟨_, rfl⟩
  rw [hTT] at hT
  simp only [hTT] at hT0 hL ⊢
  obtain ⟨K, hK⟩ : ∃ K, Dg.sum (keyT q sh nm).data.toList = K := ⟨_, rfl⟩
  simp only [hK] at hS hL
  have HT0 := Lib.hid hT0
  have c3 : min (C : Int) 30000 = (C : Int) := by omega
  clear hT0 hTT hK
  go_enter Tryd.func15, Tryd.ntmps15
  go_wp2_with fail
  refine (hS.out _).mono ?_
  rintro e w1 ⟨rfl, hb1⟩
  have HG1 : Hid (w.grownBy w1 none) := Lib.hid (gb_trans (gb_alloc _ _ _) (gb_below hb1 none))
  clear hb1
  go_wp2_with fail
  go_loopw [12] (fun o wr => (o = .string ⟨#[]⟩ ∨ o = .string T) ∧ Hid (w.grownBy wr none)) (fun o _ => C - strLen o)
  case atStart => exact ⟨.inl rfl, HG1⟩
  case round =>
    obtain ⟨ho, HG⟩ := hrel
    have ho2 : (u12 = .string ⟨#[]⟩ ∧ 0 < C) ∨ u12 = .string T := by
      rcases ho with rfl | rfl
      · rcases Nat.eq_zero_or_pos C with h | h
        · exact .inr (by rw [HT0.out h])
        · exact .inl ⟨rfl, h⟩
      · exact .inr rfl
    clear ho
    rcases ho2 with ⟨rfl, h0⟩ | rfl
    · have hz : ((⟨#[]⟩ : ByteArray).size : Int) < (C : Int) := by show (0 : Int) < C; omega
      have h0' : (0 : Int) < (C : Int) := by omega
      have hcat : (⟨#[]⟩ : ByteArray) ++ T = T := by apply ba_ext; simp [ByteArray.data_append]
      have hzT : (⟨#[]⟩ : ByteArray).size + T.size ≤ 9223372036854775807 := by show 0 + T.size ≤ _; omega
      have hzT2 : T.size ≤ 9223372036854775807 := by omega
      go_wp2_with fail
      refine (hL.out _).mono ?_
      rintro e w2 ⟨rfl, hg2⟩
      have HG2 : Hid (w.grownBy w2 none) := Lib.hid (gb_trans HG.out hg2)
      clear hg2
      go_wp2_with fail
      exact ⟨⟨.inr rfl, HG2⟩, by show C - T.size < C - 0; omega⟩
    · have hz : ¬ ((T.size : Int) < (C : Int)) := by omega
      go_wp2_with fail
      go_ret
      exact ⟨rfl, HG.out⟩

/-- the protocol's name -/
def prot : ByteArray := ⟨#[19, 99, 111, 118, 101, 121, 32, 112, 101, 101, 114, 32, 112, 114, 111, 116, 111, 99, 111, 108]⟩
end Go.Proofs.YtojgigoknjenoaaDoor.Vb
