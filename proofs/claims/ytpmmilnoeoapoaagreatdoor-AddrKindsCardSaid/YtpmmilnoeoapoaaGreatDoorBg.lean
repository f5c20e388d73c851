/-
  Addresses: V4.
-/
import Derived.Test.YtpmmilnoeoapoaaGreatDoorAe
import Derived.Test.YtpmmilnoeoapoaaGreatDoorAb
import Derived.Test.YtpmmilnoeoapoaaGreatDoorRg
import Derived.Laws.BytesArg
import Derived.Deep.AppendLies
import Derived.Laws.ResultCell
set_option linter.unusedVariables false
namespace Go.Proofs.YtpmmilnoeoapoaaGreatDoor.Bg
open Go Go.RowKit Go.Proofs.YtpmmilnoeoapoaaGreatDoor.Hz Go.Proofs.YtpmmilnoeoapoaaGreatDoor.Ac Go.Proofs.YtpmmilnoeoapoaaGreatDoor.Sx Go.Proofs.YtpmmilnoeoapoaaGreatDoor.Rg

theorem set3' (w : World) (b : Nat) (A B C v0 v1 v2 : Value) (t : TypeId) (h : w.heap[b]? = some (.cells #[A, B, C] t)) : (((w.setCell ⟨b, 0, none⟩ v0).setCell ⟨b, 1, none⟩ v1).setCell ⟨b, 2, none⟩ v2).heap[b]? = some (.cells #[v0, v1, v2] t) := by
  have h1 := heap_setCell_same w b 0 _ t v0 h
  have h2 := heap_setCell_same _ b 1 _ t v1 h1
  have h3 := heap_setCell_same _ b 2 _ t v2 h2
  simpa using h3
def iOf : Value → Int | .int _ n => n | _ => 0
/-- four numbers and a port are right -/
def v4ok (n : Nat → Int) (p : Int) : Prop := (∀ j, j < 4 → 0 ≤ n j ∧ n j ≤ 255) ∧ 1 ≤ p ∧ p ≤ 65535
instance (n : Nat → Int) (p : Int) : Decidable (v4ok n p) := by unfold v4ok; infer_instance
/-- the IP -/
def v4i (n : Nat → Int) : ByteArray := strOfNums [n 0, n 1, n 2, n 3]
def xs (n : Nat → Int) (k : Nat) : List Int := (List.range k).map n
theorem xs_len (n : Nat → Int) (k : Nat) : (xs n k).length = k := by simp [xs]
theorem xs_succ (n : Nat → Int) (k : Nat) : xs n (k + 1) = xs n k ++ [n k] := by simp [xs, List.range_succ]
def cb (l : List Int) : List Value := l.map (Value.int .u8)
theorem cb_snoc (l : List Int) (z : Int) : cb (l ++ [z]) = cb l ++ [.int .u8 z] := by simp [cb]

theorem gb_ownr' {w a b : World} {q r : Option Nat} (h : w.grownBy a q) (k : a.grownBy b r) (hr : ∀ i, r = some i → w.heap.size ≤ i) : w.grownBy b q :=
  ⟨k.os.trans h.os, k.tape.trans h.tape, k.output.trans h.output, Nat.le_trans h.size k.size, fun i hi hne => (k.block i (Nat.lt_of_lt_of_le hi h.size) (fun e => by have := hr i e.symm; omega)).trans (h.block i hi hne)⟩
theorem own_is' {g off n cap b : Nat} (h : (Value.slice (some ⟨g, off, none⟩) n cap).ownBlock = some b) : g = b := by simpa [Value.ownBlock] using h

set_option maxRecDepth 100000 in
set_option maxHeartbeats 4000000 in
theorem V4F (n : Nat → Int) (p : Int) (pa pb pc pd pp : Nat) (w : World) (ka : w.cell? ⟨pa, 0, none⟩ = some (.int .i64 (n 0))) (kb : w.cell? ⟨pb, 0, none⟩ = some (.int .i64 (n 1))) (kc : w.cell? ⟨pc, 0, none⟩ = some (.int .i64 (n 2))) (kd : w.cell? ⟨pd, 0, none⟩ = some (.int .i64 (n 3))) (kp : w.cell? ⟨pp, 0, none⟩ = some (.int .i64 p)) :
    Calls Tryz.prog 65 #[.pointer (some ⟨pa, 0, none⟩), .pointer (some ⟨pb, 0, none⟩), .pointer (some ⟨pc, 0, none⟩), .pointer (some ⟨pd, 0, none⟩), .pointer (some ⟨pp, 0, none⟩)] w fun e w' => (v4ok n p ∧ e = .returned (.agg #[.int .i64 4, .string (v4i n), .int .i64 p]) ∨ ¬ v4ok n p ∧ e = .panicked [{ v := .iface 27 (.int .i64 7), recovered := false }]) ∧ Below w.heap.size w w' := by
  have hi3 : (Tryz.prog.info? 5).map (fun i => (i.zero, i.size, i.bytes)) = some (some (.int .u8 0), 1, 1) := by kernel_rfl
  obtain ⟨i0, hi, hz0, hz1, hz2⟩ := info_parts hi3
  have H0 := Lib.hid hi
  have H1 := Lib.hid hz0
  have H2 := Lib.hid hz1
  have H3 := Lib.hid hz2
  clear hi hz0 hz1 hz2 hi3
  have ka1 := acell (.cells #[.int .i64 0, .string ⟨#[]⟩, .int .i64 0] 26) ka
  have kb1 := acell (.cells #[.int .i64 0, .string ⟨#[]⟩, .int .i64 0] 26) kb
  have kc1 := acell (.cells #[.int .i64 0, .string ⟨#[]⟩, .int .i64 0] 26) kc
  have kd1 := acell (.cells #[.int .i64 0, .string ⟨#[]⟩, .int .i64 0] 26) kd
  have HR : Hid (∃ w2, (w.alloc (.cells #[.int .i64 0, .string ⟨#[]⟩, .int .i64 0] 26)).alloc (.cells #[.int .i64 (n 0), .int .i64 (n 1), .int .i64 (n 2), .int .i64 (n 3)] 3) = w2 ∧ w2.heap.size = w.heap.size + 2 ∧ w2.heap[w.heap.size]? = some (.cells #[.int .i64 0, .string ⟨#[]⟩, .int .i64 0] 26) ∧ w.grownBy w2 none ∧ (∀ j, j < 4 → w2.cell? ⟨w.heap.size + 1, j, none⟩ = some (.int .i64 (n j))) ∧ w2.cell? ⟨pp, 0, none⟩ = some (.int .i64 p)) :=
    Lib.hid ⟨_, rfl, by simp, (Below.heap_alloc _ _ _ (by simp)).trans (World.alloc_heap_new _ _), gb_trans (gb_alloc _ _ _) (gb_alloc _ _ _), fun j hj => by
      obtain rfl | rfl | rfl | rfl : j = 0 ∨ j = 1 ∨ j = 2 ∨ j = 3 := by omega
      all_goals simp [go_sem], acell _ (acell _ kp)⟩
  clear ka kb kc kd kp
  go_enter Tryz.func65, Tryz.ntmps65
  go_wp2_with fail
  obtain ⟨w2, e2, hs2, hr2, hg2, hc2, kp2⟩ := HR.out
  rw [e2]
  have HR2 := Lib.hid hr2
  have HG2 := Lib.hid hg2
  have HC2 := Lib.hid hc2
  clear hr2 hg2 hc2 e2 HR ka1 kb1 kc1 kd1
  go_loopw [15, 6] (fun i v wr => ∃ (k : Nat), k ≤ 4 ∧ i = .int .i64 (k : Int) ∧ Hid (∀ j, j < k → 0 ≤ n j ∧ n j ≤ 255) ∧ Hid (Row wr 1 v k (cb (xs n k))) ∧ Hid (∀ b, v.ownBlock = some b → w2.heap.size ≤ b) ∧ Hid (w2.grownBy wr none)) (fun i _ _ => 4 - (iOf i).toNat)
  case atStart => exact ⟨0, by omega, rfl, Lib.hid (fun j hj => by omega), Lib.hid (Row.nil _ _), Lib.hid (fun b hb => by cases hb), Lib.hid (gb_refl _ _)⟩
  case round =>
    obtain ⟨k, hk, rfl, HE, HX, HO, HG⟩ := hrel
    by_cases hkl : k < 4
    · have hci := gb_cell HG.out (HC2.out k hkl) (by simp)
      have hg0 : (0 : Int) ≤ (k : Int) := by omega
      have hg4 : (k : Int) < 4 := by omega
      by_cases hlo : n k < 0
      · go_wp2_with fail
        refine (Aa.refuse_yes _ _).mono ?_
        rintro e w3 ⟨rfl, rfl⟩
        exact ⟨rfl, Or.inr ⟨fun h => by have := (h.1 k hkl).1; omega, rfl⟩, below_gb (gb_trans HG2.out HG.out)⟩
      by_cases hhi : 255 < n k
      · go_wp2_with fail
        refine (Aa.refuse_yes _ _).mono ?_
        rintro e w3 ⟨rfl, rfl⟩
        exact ⟨rfl, Or.inr ⟨fun h => by have := (h.1 k hkl).2; omega, rfl⟩, below_gb (gb_trans HG2.out HG.out)⟩
      have hle : n k ≤ 255 := by omega
      have hge : 0 ≤ n k := by omega
      have hwr : IntKind.u8.wrap (n k) = n k := by rw [IntKind.wrap_u8]; omega
      have hrow1 := Lib.hid (HX.out.kept (gb_alloc wr (.cells #[.int .u8 (n k)] 5) none) (by simp))
      have hbn1 : k + 1 ≤ maxLen := by unfold maxLen; omega
      have hbn2 : (k + 1) * 1 ≤ 140737488355328 := by omega
      go_wp2_with fail
      refine (Aa.refuse_no _ _).mono ?_
      rintro e w3 ⟨rfl, rfl⟩
      go_wp2_with (at_builtin; go_loud (refine wpList_append_row rfl (.tmp 26) (.tmp 29) 66 rfl 5 i0 (.int .u8 0) 1 1 Tryz.underlying66 H0.out H1.out H2.out H3.out rfl (by decide) u6 k (cb (xs n k)) rfl hrow1.out ⟨wr.heap.size, 0, none⟩ 1 [.int .u8 (n k)] (by simp [Act.eval]) rfl (World.news_of_block (World.alloc_heap_new wr _)) (by simp [Value.oneCell']) hbn1 hbn2 ?_; intro g off' cap' w9 hrowA hgrow hat))
      have hrowB : Row w9 1 (.slice (some ⟨g, off', none⟩) (k + 1) cap') (k + 1) (cb (xs n (k + 1))) := by rw [xs_succ, cb_snoc]; exact hrowA
      have hgb : w2.grownBy w9 none := gb_ownr' (gb_trans HG.out (gb_alloc _ _ _)) hgrow HO.out
      have hgw : w2.heap.size ≤ g := by
        rcases hat with e | e
        · exact HO.out g e
        · have := HG.out.size
          simp at e
          omega
      exact ⟨⟨k + 1, by omega, by go_num, Lib.hid (fun j hj => by
        obtain h | rfl : j < k ∨ j = k := by omega
        · exact HE.out j h
        · exact ⟨hge, hle⟩), Lib.hid hrowB, Lib.hid (fun b hb => by cases own_is' hb; exact hgw), Lib.hid hgb⟩, by simp [iOf]; omega⟩
    · obtain rfl : k = 4 := by omega
      have kp3 := gb_cell HG.out kp2 (by simp)
      by_cases hlo : p < 1
      · go_wp2_with fail
        refine (Aa.refuse_yes _ _).mono ?_
        rintro e w3 ⟨rfl, rfl⟩
        exact ⟨rfl, Or.inr ⟨fun h => by have := h.2; omega, rfl⟩, below_gb (gb_trans HG2.out HG.out)⟩
      by_cases hhi : 65535 < p
      · go_wp2_with fail
        refine (Aa.refuse_yes _ _).mono ?_
        rintro e w3 ⟨rfl, rfl⟩
        exact ⟨rfl, Or.inr ⟨fun h => by have := h.2; omega, rfl⟩, below_gb (gb_trans HG2.out HG.out)⟩
      have hle : p ≤ 65535 := by omega
      have hge : 1 ≤ p := by omega
      go_wp2_with fail
      refine (Aa.refuse_no _ _).mono ?_
      rintro e w3 ⟨rfl, rfl⟩
      rcases HX.out.val with ⟨_, h0⟩ | ⟨g, off, cap, rfl, _, _, _, hcx, _⟩
      · cases h0
      have hcv : (convert 66 9 (.slice (some ⟨g, off, none⟩) 4 cap)).run Tryz.prog wr = .ok (.string (v4i n)) wr :=
        run_convert_bytes_arg (P := Tryz.prog) wr 66 5 Tryz.underlying66 Tryz.underlying5 g off 4 cap [n 0, n 1, n 2, n 3] rfl (fun i hi => by
          obtain rfl | rfl | rfl | rfl : i = 0 ∨ i = 1 ∨ i = 2 ∨ i = 3 := by omega
          all_goals exact hcx _ _ rfl) 9 Tryz.underlying9
      have kr4 := (HG.out.block w.heap.size (by omega) (by simp)).trans HR2.out
      have c00 : wr.cell? ⟨w.heap.size, 0, none⟩ = some (.int .i64 0) := by simp [World.cell?, kr4]
      have f00 : wr.frozen? ⟨w.heap.size, 0, none⟩ = false := by simp [World.frozen?, kr4]
      have c01 : wr.cell? ⟨w.heap.size, 1, none⟩ = some (.string ⟨#[]⟩) := by simp [World.cell?, kr4]
      have f01 : wr.frozen? ⟨w.heap.size, 1, none⟩ = false := by simp [World.frozen?, kr4]
      have c02 : wr.cell? ⟨w.heap.size, 2, none⟩ = some (.int .i64 0) := by simp [World.cell?, kr4]
      have f02 : wr.frozen? ⟨w.heap.size, 2, none⟩ = false := by simp [World.frozen?, kr4]
      have hG : Below w.heap.size w (((wr.setCell ⟨w.heap.size, 0, none⟩ (.int .i64 4)).setCell ⟨w.heap.size, 1, none⟩ (.string (v4i n))).setCell ⟨w.heap.size, 2, none⟩ (.int .i64 p)) := below_gb (gb_new (gb_new (gb_new (gb_trans HG2.out HG.out) _ _ _ (by omega)) _ _ _ (by omega)) _ _ _ (by omega))
      have HRR := Lib.hid (results_cell_row (P := Tryz.prog) (fn := Tryz.f65) rfl)
      have HK := Lib.hid (set3' wr w.heap.size _ _ _ (.int .i64 4) (.string (v4i n)) (.int .i64 p) _ kr4)
      have HG3 := Lib.hid hG
      clear hG kr4
      go_wp2_with fail
      exact bodyPost_ret (HRR.out _ _ w.heap.size 26 _ _ _ rfl HK.out Tryz.underlying26 rfl (by kernel_rfl)) rfl ⟨Or.inl ⟨⟨HE.out, hge, hle⟩, rfl⟩, HG3.out⟩

theorem enterV4 (args : Array Value) (w : World) : (callFunc 65 args).run Tryz.prog w = .ok (.enter 65 args) w := by kernel_rfl
/-- the boxes of V4 -/
def bx4 (w : World) (n : Nat → Int) (p : Int) : World := (((((w.alloc (.cells #[.int .i64 (n 0)] 3)).alloc (.cells #[.int .i64 (n 1)] 3)).alloc (.cells #[.int .i64 (n 2)] 3)).alloc (.cells #[.int .i64 (n 3)] 3)).alloc (.cells #[.int .i64 p] 3)).alloc (.cells #[.int .i64 0, .string ⟨#[]⟩, .int .i64 0] 26)
/-- what V4 answers -/
def vF (n : Nat → Int) (p : Int) : Int := if v4ok n p then 4 else 0
def vI (n : Nat → Int) (p : Int) : ByteArray := if v4ok n p then v4i n else ⟨#[]⟩
def vP (n : Nat → Int) (p : Int) : Int := if v4ok n p then p else 0
def vE (n : Nat → Int) (p : Int) : Int := if v4ok n p then 0 else 7
theorem V4H (n : Nat → Int) (p : Int) (w : World) :
    Calls Tryz.prog 33 #[.func (Fn.func 65) #[] #[.pointer (some ⟨w.heap.size, 0, none⟩), .pointer (some ⟨w.heap.size + 1, 0, none⟩), .pointer (some ⟨w.heap.size + 2, 0, none⟩), .pointer (some ⟨w.heap.size + 3, 0, none⟩), .pointer (some ⟨w.heap.size + 4, 0, none⟩)]] (bx4 w n p) fun e w' => e = .returned (.tuple #[.agg #[.int .i64 (vF n p), .string (vI n p), .int .i64 (vP n p)], .int .i64 (vE n p)]) ∧ (bx4 w n p).grownBy w' none := by
  have k0 : (Ab.aw (bx4 w n p)).cell? ⟨w.heap.size, 0, none⟩ = some (.int .i64 (n 0)) := kcell (below_gb (Ab.aw_gb _)) (by unfold bx4; simp [go_sem])
  have k1 : (Ab.aw (bx4 w n p)).cell? ⟨w.heap.size + 1, 0, none⟩ = some (.int .i64 (n 1)) := kcell (below_gb (Ab.aw_gb _)) (by unfold bx4; simp [go_sem])
  have k2 : (Ab.aw (bx4 w n p)).cell? ⟨w.heap.size + 2, 0, none⟩ = some (.int .i64 (n 2)) := kcell (below_gb (Ab.aw_gb _)) (by unfold bx4; simp [go_sem])
  have k3 : (Ab.aw (bx4 w n p)).cell? ⟨w.heap.size + 3, 0, none⟩ = some (.int .i64 (n 3)) := kcell (below_gb (Ab.aw_gb _)) (by unfold bx4; simp [go_sem])
  have k4 : (Ab.aw (bx4 w n p)).cell? ⟨w.heap.size + 4, 0, none⟩ = some (.int .i64 p) := kcell (below_gb (Ab.aw_gb _)) (by unfold bx4; simp [go_sem])
  have H := V4F n p _ _ _ _ _ _ k0 k1 k2 k3 k4
  by_cases h : v4ok n p
  · rw [show vF n p = 4 from if_pos h, show vI n p = v4i n from if_pos h, show vP n p = p from if_pos h, show vE n p = 0 from if_pos h]
    refine (Ab.att_ex 65 _ (bx4 w n p) none (fun a b c _ => a = 4 ∧ b = v4i n ∧ c = p) (fun _ _ _ _ _ h _ _ => h) (fun _ h => by cases h) enterV4 (H.mono fun e w' hh => ?_)).mono fun e w' ⟨a, b, c, he, ⟨ha, hb, hc⟩, hg⟩ => by subst ha hb hc; exact ⟨he, hg⟩
    rcases hh.1 with hq | hq
    · exact ⟨_, _, _, hq.2, ⟨rfl, rfl, rfl⟩, gb_below hh.2 _⟩
    · exact absurd h hq.1
  · rw [show vF n p = 0 from if_neg h, show vI n p = ⟨#[]⟩ from if_neg h, show vP n p = 0 from if_neg h, show vE n p = 7 from if_neg h]
    refine (Ab.att_no 65 _ 7 (bx4 w n p) none (fun _ => True) (sta_true _) (fun _ _ _ => trivial) (fun _ h => by cases h) enterV4 (H.mono fun e w' hh => ?_)).mono fun e w' hh => ⟨hh.1, hh.2.2⟩
    rcases hh.1 with hq | hq
    · exact absurd hq.1 h
    · exact ⟨hq.2, trivial, gb_below hh.2 _⟩
set_option maxRecDepth 100000 in
set_option maxHeartbeats 800000 in
theorem V4_any (n : Nat → Int) (p : Int) (w : World) :
    Calls Tryz.prog 26 #[.int .i64 (n 0), .int .i64 (n 1), .int .i64 (n 2), .int .i64 (n 3), .int .i64 p] w fun e w' => e = .returned (.tuple #[.agg #[.int .i64 (vF n p), .string (vI n p), .int .i64 (vP n p)], .int .i64 (vE n p)]) ∧ Below w.heap.size w w' := by
  have hmf : ∀ (fn : Fn) (first cap : Array Value) (w : World), (Instr.makeFunc fn first cap).run Tryz.prog w = .ok (.func fn first cap) w := fun _ _ _ _ => rfl
  have H := Lib.hid (V4H n p w)
  have HW := Lib.hid (show Below w.heap.size w (bx4 w n p) from below_gb (gb_trans (gb_trans (gb_trans (gb_trans (gb_trans (gb_alloc _ _ none) (gb_alloc _ _ _)) (gb_alloc _ _ _)) (gb_alloc _ _ _)) (gb_alloc _ _ _)) (gb_alloc _ _ _)))
  have HK := Lib.hid (show (bx4 w n p).heap[w.heap.size + 5]? = some (.cells #[.int .i64 0, .string ⟨#[]⟩, .int .i64 0] 26) from by unfold bx4; have := World.alloc_heap_new (((((w.alloc (.cells #[.int .i64 (n 0)] 3)).alloc (.cells #[.int .i64 (n 1)] 3)).alloc (.cells #[.int .i64 (n 2)] 3)).alloc (.cells #[.int .i64 (n 3)] 3)).alloc (.cells #[.int .i64 p] 3)) (.cells #[.int .i64 0, .string ⟨#[]⟩, .int .i64 0] 26); simpa only [World.size_alloc, Nat.add_assoc] using this)
  have HS := Lib.hid (show (bx4 w n p).heap.size = w.heap.size + 6 from by simp [bx4])
  have HU := Lib.hid (show (((((w.alloc (.cells #[.int .i64 (n 0)] 3)).alloc (.cells #[.int .i64 (n 1)] 3)).alloc (.cells #[.int .i64 (n 2)] 3)).alloc (.cells #[.int .i64 (n 3)] 3)).alloc (.cells #[.int .i64 p] 3)).alloc (.cells #[.int .i64 0, .string ⟨#[]⟩, .int .i64 0] 26) = bx4 w n p from rfl)
  generalize vF n p = F at H ⊢
  generalize vI n p = I at H ⊢
  generalize vP n p = P at H ⊢
  generalize vE n p = E at H ⊢
  generalize bx4 w n p = W at H HW HK HS HU
  go_enter Tryz.func26, Tryz.ntmps26
  go_wp2_with fail
  rw [HU.out]
  refine H.out.mono ?_
  rintro e w4 ⟨rfl, hg⟩
  have hb4 := below_gb hg
  have hs := HS.out
  have kr4 := (hb4.block (w.heap.size + 5) (by omega)).trans HK.out
  have hB4 := blw HW.out hb4
  have c00 : w4.cell? ⟨w.heap.size + 5, 0, none⟩ = some (.int .i64 0) := by simp [World.cell?, kr4]
  have f00 : w4.frozen? ⟨w.heap.size + 5, 0, none⟩ = false := by simp [World.frozen?, kr4]
  have c01 : w4.cell? ⟨w.heap.size + 5, 1, none⟩ = some (.string ⟨#[]⟩) := by simp [World.cell?, kr4]
  have f01 : w4.frozen? ⟨w.heap.size + 5, 1, none⟩ = false := by simp [World.frozen?, kr4]
  have c02 : w4.cell? ⟨w.heap.size + 5, 2, none⟩ = some (.int .i64 0) := by simp [World.cell?, kr4]
  have f02 : w4.frozen? ⟨w.heap.size + 5, 2, none⟩ = false := by simp [World.frozen?, kr4]
  go_wp2
  have hG : Below w.heap.size w (((w4.setCell ⟨w.heap.size + 5, 0, none⟩ (.int .i64 F)).setCell ⟨w.heap.size + 5, 1, none⟩ (.string I)).setCell ⟨w.heap.size + 5, 2, none⟩ (.int .i64 P)) := below_gb (gb_new (gb_new (gb_new (gb_below hB4 none) _ _ _ (by omega)) _ _ _ (by omega)) _ _ _ (by omega))
  have hq := run_loadVar_row (P := Tryz.prog) _ (w.heap.size + 5) _ 26 _ _ _ (set3' _ _ _ _ _ (.int .i64 F) (.string I) (.int .i64 P) _ kr4) Tryz.underlying26 rfl (by kernel_rfl)
  refine bodyPost_ret (v := .tuple #[.agg #[.int .i64 F, .string I, .int .i64 P], .int .i64 E]) ?_ rfl ⟨rfl, hG⟩
  rw [results_cell_tmp rfl]
  change ((loadVar 26 ⟨w.heap.size + 5, 0, none⟩).run Tryz.prog _).andThen (fun v w₂ => Result.ok (Value.tuple #[v, Value.int IntKind.i64 E]) w₂) = _
  rw [hq]
  rfl
end Go.Proofs.YtpmmilnoeoapoaaGreatDoor.Bg
