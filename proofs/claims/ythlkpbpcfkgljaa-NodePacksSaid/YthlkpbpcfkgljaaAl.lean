/-
  Addresses: the program's Unpack, whole.
-/
import Derived.Test.YthlkpbpcfkgljaaAk
import Derived.Test.YthlkpbpcfkgljaaAb
import Derived.Laws.ResultCell
set_option linter.unusedVariables false
namespace Go.Proofs.Ythlkpbpcfkgljaa.Ac
open Go Go.RowKit Go.Proofs.Ythlkpbpcfkgljaa.Hz Go.Proofs.Ythlkpbpcfkgljaa.Sx

theorem enterUnpack (args : Array Value) (w : World) : (callFunc 35 args).run Try.prog w = .ok (.enter 35 args) w := by kernel_rfl
/-- the world at the call -/
def bxu (w : World) (s : ByteArray) : World := (w.alloc (.cells #[.string s] 9)).alloc (.cells #[.int .i64 0, .string ⟨#[]⟩, .int .i64 0] 34)
theorem bxu_k (w : World) (s : ByteArray) : (Ab.aw (bxu w s)).cell? ⟨w.heap.size, 0, none⟩ = some (.string s) :=
  kcell (below_gb (Ab.aw_gb _)) (by unfold bxu; exact acell _ (by simp [go_sem]))
theorem bxu_size (w : World) (s : ByteArray) : (bxu w s).heap.size = w.heap.size + 2 := by simp [bxu]
/-- what Unpack answers -/
def upE (s : ByteArray) : Int := if 65536 < s.size then 3 else if s.size = 6 then (if prt s 4 = 0 then 12 else 0) else if s.size = 18 then (if prt s 16 = 0 then 12 else 0) else 11
def upF (s : ByteArray) : Int := if upE s = 0 then (if s.size = 6 then 4 else 6) else 0
def upI (s : ByteArray) : ByteArray := if upE s = 0 then s.extract 0 (s.size - 2) else ⟨#[]⟩
def upP (s : ByteArray) : Int := if upE s = 0 then prt s (s.size - 2) else 0

theorem up_bad {s : ByteArray} {k : Int} (h : upE s = k) (hk : k ≠ 0) : upF s = 0 ∧ upI s = ⟨#[]⟩ ∧ upP s = 0 := by
  have h0 : ¬ upE s = 0 := by rw [h]; exact hk
  exact ⟨if_neg h0, if_neg h0, if_neg h0⟩
theorem up_good {s : ByteArray} (h : upE s = 0) : upF s = (if s.size = 6 then 4 else 6) ∧ upI s = s.extract 0 (s.size - 2) ∧ upP s = prt s (s.size - 2) := ⟨if_pos h, if_pos h, if_pos h⟩

set_option maxRecDepth 100000 in
set_option maxHeartbeats 800000 in
theorem UnpH (s : ByteArray) (w : World) :
    Calls Try.prog 34 #[.func (Fn.func 35) #[] #[.pointer (some ⟨w.heap.size, 0, none⟩)]] (bxu w s) fun e w' => e = .returned (.tuple #[.agg #[.int .i64 (upF s), .string (upI s), .int .i64 (upP s)], .int .i64 (upE s)]) ∧ (bxu w s).grownBy w' none := by
  have k0 := bxu_k w s
  have kl : w.heap.size < (Ab.aw (bxu w s)).heap.size := by rw [Ab.aw_size, bxu_size]; omega
  have bad : ∀ k, upE s = k → k ≠ 0 → (Calls Try.prog 35 #[.pointer (some ⟨w.heap.size, 0, none⟩)] (Ab.aw (bxu w s)) fun e w' => e = .panicked [{ v := .iface 24 (.int .i64 k), recovered := false }] ∧ Below (Ab.aw (bxu w s)).heap.size (Ab.aw (bxu w s)) w') → Calls Try.prog 34 #[.func (Fn.func 35) #[] #[.pointer (some ⟨w.heap.size, 0, none⟩)]] (bxu w s) fun e w' => e = .returned (.tuple #[.agg #[.int .i64 (upF s), .string (upI s), .int .i64 (upP s)], .int .i64 (upE s)]) ∧ (bxu w s).grownBy w' none := by
    intro k hk h0 H
    obtain ⟨h1, h2, h3⟩ := up_bad hk h0
    rw [h1, h2, h3, hk]
    exact (Ab.att_no 35 _ k (bxu w s) none (fun _ => True) (sta_true _) (fun _ _ _ => trivial) (fun _ h => by cases h) enterUnpack (H.mono fun e w' hh => ⟨hh.1, trivial, gb_below hh.2 _⟩)).mono fun e w' hh => ⟨hh.1, hh.2.2⟩
  have good : ∀ f k, upE s = 0 → upF s = f → s.size = k + 2 → (Calls Try.prog 35 #[.pointer (some ⟨w.heap.size, 0, none⟩)] (Ab.aw (bxu w s)) fun e w' => e = .returned (.agg #[.int .i64 f, .string (s.extract 0 k), .int .i64 (prt s k)]) ∧ Below (Ab.aw (bxu w s)).heap.size (Ab.aw (bxu w s)) w') → Calls Try.prog 34 #[.func (Fn.func 35) #[] #[.pointer (some ⟨w.heap.size, 0, none⟩)]] (bxu w s) fun e w' => e = .returned (.tuple #[.agg #[.int .i64 (upF s), .string (upI s), .int .i64 (upP s)], .int .i64 (upE s)]) ∧ (bxu w s).grownBy w' none := by
    intro f k h0 hf hk H
    obtain ⟨h1, h2, h3⟩ := up_good h0
    rw [hf, h2, h3, h0, show s.size - 2 = k by omega]
    exact (Ab.att_ex 35 _ (bxu w s) none (fun a b c _ => a = f ∧ b = s.extract 0 k ∧ c = prt s k) (fun _ _ _ _ _ h _ _ => h) (fun _ h => by cases h) enterUnpack (H.mono fun e w' hh => ⟨_, _, _, hh.1, ⟨rfl, rfl, rfl⟩, gb_below hh.2 _⟩)).mono fun e w' ⟨a, b, c, he, ⟨ha, hb, hc⟩, hg⟩ => by subst ha hb hc; exact ⟨he, hg⟩
  by_cases hl : 65536 < s.size
  · exact bad 3 (if_pos hl) (by omega) (Unp_long s _ _ k0 hl)
  by_cases h6 : s.size = 6
  · by_cases hp : prt s 4 = 0
    · exact bad 12 (by unfold upE; rw [if_neg hl, if_pos h6, if_pos hp]) (by omega) (Unp_6no s _ _ k0 kl h6 hp)
    · have h0 : upE s = 0 := by unfold upE; rw [if_neg hl, if_pos h6, if_neg hp]
      exact good 4 4 h0 (by rw [(up_good h0).1, if_pos h6]) (by omega) (Unp_6ok s _ _ k0 kl h6 hp)
  by_cases h18 : s.size = 18
  · by_cases hp : prt s 16 = 0
    · exact bad 12 (by unfold upE; rw [if_neg hl, if_neg h6, if_pos h18, if_pos hp]) (by omega) (Unp_18no s _ _ k0 kl h18 hp)
    · have h0 : upE s = 0 := by unfold upE; rw [if_neg hl, if_neg h6, if_pos h18, if_neg hp]
      exact good 6 16 h0 (by rw [(up_good h0).1, if_neg h6]) (by omega) (Unp_18ok s _ _ k0 kl h18 hp)
  · exact bad 11 (by unfold upE; rw [if_neg hl, if_neg h6, if_neg h18]) (by omega) (Unp_other s _ _ k0 kl (by omega) h6 h18)

set_option maxRecDepth 100000 in
set_option maxHeartbeats 800000 in
theorem Unpack_any (s : ByteArray) (w : World) :
    Calls Try.prog 17 #[.string s] w fun e w' => e = .returned (.tuple #[.agg #[.int .i64 (upF s), .string (upI s), .int .i64 (upP s)], .int .i64 (upE s)]) ∧ Below w.heap.size w w' := by
  have hmf : ∀ (fn : Fn) (first cap : Array Value) (w : World), (Instr.makeFunc fn first cap).run Try.prog w = .ok (.func fn first cap) w := fun _ _ _ _ => rfl
  have H := Lib.hid (UnpH s w)
  generalize upF s = F at H ⊢
  generalize upI s = I at H ⊢
  generalize upP s = P at H ⊢
  generalize upE s = E at H ⊢
  have HW := Lib.hid (show Below w.heap.size w (bxu w s) from ((Below.refl _ _).alloc (Nat.le_refl _) _).alloc (by simp) _)
  have HK := Lib.hid (show (bxu w s).heap[w.heap.size + 1]? = some (.cells #[.int .i64 0, .string ⟨#[]⟩, .int .i64 0] 34) from by unfold bxu; have := World.alloc_heap_new (w.alloc (.cells #[.string s] 9)) (.cells #[.int .i64 0, .string ⟨#[]⟩, .int .i64 0] 34); rwa [World.size_alloc] at this)
  have HS := Lib.hid (bxu_size w s)
  have HU := Lib.hid (show (w.alloc (.cells #[.string s] 9)).alloc (.cells #[.int .i64 0, .string ⟨#[]⟩, .int .i64 0] 34) = bxu w s from rfl)
  generalize bxu w s = W at H HW HK HS HU
  go_enter Try.func17, Try.ntmps17
  go_wp2_with fail
  rw [HU.out]
  refine H.out.mono ?_
  rintro e w4 ⟨rfl, hg⟩
  have hb4 := below_gb hg
  have hs := HS.out
  have kr4 := (hb4.block (w.heap.size + 1) (by omega)).trans HK.out
  have hB4 := blw HW.out hb4
  have c00 : w4.cell? ⟨w.heap.size + 1, 0, none⟩ = some (.int .i64 0) := by simp [World.cell?, kr4]
  have f00 : w4.frozen? ⟨w.heap.size + 1, 0, none⟩ = false := by simp [World.frozen?, kr4]
  have c01 : w4.cell? ⟨w.heap.size + 1, 1, none⟩ = some (.string ⟨#[]⟩) := by simp [World.cell?, kr4]
  have f01 : w4.frozen? ⟨w.heap.size + 1, 1, none⟩ = false := by simp [World.frozen?, kr4]
  have c02 : w4.cell? ⟨w.heap.size + 1, 2, none⟩ = some (.int .i64 0) := by simp [World.cell?, kr4]
  have f02 : w4.frozen? ⟨w.heap.size + 1, 2, none⟩ = false := by simp [World.frozen?, kr4]
  go_wp2
  have hG : Below w.heap.size w (((w4.setCell ⟨w.heap.size + 1, 0, none⟩ (.int .i64 F)).setCell ⟨w.heap.size + 1, 1, none⟩ (.string I)).setCell ⟨w.heap.size + 1, 2, none⟩ (.int .i64 P)) := below_gb (gb_new (gb_new (gb_new (gb_below hB4 none) _ _ _ (by omega)) _ _ _ (by omega)) _ _ _ (by omega))
  have hq := run_loadVar_row (P := Try.prog) _ (w.heap.size + 1) _ 34 _ _ _ (set3 _ _ _ _ _ (.int .i64 F) (.string I) (.int .i64 P) _ kr4) Try.underlying34 rfl (by kernel_rfl)
  refine bodyPost_ret (v := .tuple #[.agg #[.int .i64 F, .string I, .int .i64 P], .int .i64 E]) ?_ rfl ⟨rfl, hG⟩
  rw [results_cell_tmp rfl]
  change ((loadVar 34 ⟨w.heap.size + 1, 0, none⟩).run Try.prog _).andThen (fun v w₂ => Result.ok (Value.tuple #[v, Value.int IntKind.i64 E]) w₂) = _
  rw [hq]
  rfl
end Go.Proofs.Ythlkpbpcfkgljaa.Ac
