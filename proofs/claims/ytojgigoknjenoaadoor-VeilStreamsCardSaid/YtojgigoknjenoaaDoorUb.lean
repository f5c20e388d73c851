/-
  Streams: the iterator of a key's parts, which never ends by itself.
-/
import Derived.Test.YtojgigoknjenoaaDoorUa
import Derived.Test.YtojgigoknjenoaaDoorRf
import Derived.Test.YtojgigoknjenoaaDoorSx
import Derived.RangeFuncBox
import Derived.Shelf.Abstract
import Derived.Shelf.RegionOpen
import Derived.OwnWalkIn
import Derived.TacticsInMore
import Derived.LoopNIn
import Derived.LoopIn
import Derived.Stop.RegionWithIn
namespace Go.Proofs.YtojgigoknjenoaaDoor.Hi
open Go Go.RowKit Go.Shelf Go.Proofs.YtojgigoknjenoaaDoor.Hh Go.Proofs.YtojgigoknjenoaaDoor.Sx
attribute [local go_sem] Oper.semAt_some

theorem keeps_none {W W' : World} (hg : W.grownBy W' none) : KeepsOthers W W' := KeepsOthers.of_grownBy hg (fun j o' e _ => by cases e)
theorem cat3 (s t u : ByteArray) : cat [s, t, u] = s.data.toList ++ (t.data.toList ++ u.data.toList) := by simp [cat]
theorem tab_gb {w w' : World} (h : Tab w) (hg : w.grownBy w' none) : Tab w' := h.below (below_gb hg)

theorem stream_in (n : Nat) (s : ByteArray) (f : Int) (w : World) :
    CallsIn Fence.wide n Tryd.prog 20 #[.string s, .int .i64 f] w fun r w' => r = .returned (.func (.func 25) #[] #[.pointer (some ⟨w.heap.size + 1, 0, none⟩), .pointer (some ⟨w.heap.size, 0, none⟩)]) ∧ w' = (w.alloc (.cells #[.string s] 9)).alloc (.cells #[.int .i64 f] 3) := by
  refine callsIn_of_wp Tryd.func20 rfl trivial ?_ rfl
  simp only [Tryd.ntmps20, List.size_toArray, List.length_cons, List.length_nil, Nat.reduceAdd, Nat.reduceSub, Array.replicate_succ, Array.replicate_zero, List.push_toArray, List.append_toArray, List.nil_append, List.cons_append]
  gi_wp2
  go_ret
  exact ⟨rfl, rfl⟩

set_option maxRecDepth 100000 in
set_option maxHeartbeats 4000000 in
theorem stream1_in (n l Bf Bs K0 K1 F : Nat) (s : ByteArray) (hn : 2 ≤ n) (hF : F / 32 = K0) (hF6 : F ≤ 65536) (hK1 : K1 ≤ 5000) (hs : s.size ≤ 3000) (J : Nat → World → Prop) (Jx Bx : Code → World → Prop) (B : World → Prop)
    (hc : ∀ k W, J k W → W.cell? ⟨Bf, 0, none⟩ = some (.int .i64 (F : Int)) ∧ W.cell? ⟨Bs, 0, none⟩ = some (.string s) ∧ Tab W ∧ k < K1)
    (hg : ∀ k W W', J k W → W.grownBy W' none → J k W')
    (hB : ∀ W W', B W → KeepsOthers W W' → B W')
    (hY : ∀ k W1, K0 ≤ k → J k W1 → B W1 → YieldAt Fence.wide (n - 1) Tryd.prog l #[.int .i64 ((k : Int) * 32), .string (pt s k)] W1 fun e W' => (e = .returned (.bool true) ∧ J (k + 1) W' ∧ B W') ∨ (e = .returned (.bool false) ∧ ∃ c, Jx c W' ∧ Bx c W'))
    (W : World) (hJ : J K0 W) (hBW : B W) :
    CallsIn Fence.wide n Tryd.prog 25 #[.func (.yield l) #[] #[], .pointer (some ⟨Bf, 0, none⟩), .pointer (some ⟨Bs, 0, none⟩)] W fun e W' => (∃ v, e = .returned v) ∧ ∃ c, Jx c W' ∧ Bx c W' := by
  refine callsIn_of_wp Tryd.func25 rfl trivial ?_ rfl
  simp only [Tryd.ntmps25, List.size_toArray, List.length_cons, List.length_nil, Nat.reduceAdd, Nat.reduceSub, Array.replicate_succ, Array.replicate_zero, List.push_toArray, List.append_toArray, List.nil_append, List.cons_append]
  have HY := Lib.hid hY
  have HJ := Lib.hid hJ
  have HBW := Lib.hid hBW
  have HBB := Lib.hid hB
  have HC := Lib.hid hc
  have HGr := Lib.hid hg
  have c0 := (hc _ _ hJ).1
  have hq : (F : Int) / 32 = (K0 : Int) := by omega
  clear hY hJ hBW hB hc hg hF
  gi_wp2
  gi_loopw [4] (fun i wr => ∃ k : Nat, K0 ≤ k ∧ i = .int .i64 k ∧ Hid (J k wr) ∧ Hid (B wr)) (fun i _ => K1 - (intOf i).toNat)
  case atStart => exact ⟨K0, Nat.le_refl _, rfl, HJ, HBW⟩
  case round =>
    obtain ⟨k, hk, rfl, HJk, HBk⟩ := hrel
    have hk1 := (HC.out _ _ HJk.out).2.2.2
    have cs := (HC.out _ _ HJk.out).2.1
    have HT := Lib.hid (HC.out _ _ HJk.out).2.2.1
    have hk5 : k < 5000 := by omega
    have HI : Hid (∀ w, Tab w → CallsIn Fence.wide (n - 1) Tryd.prog 27 #[.int .i64 (k : Int)] w fun e w' => e = .returned (.string (dec k)) ∧ Below w.heap.size w w') := Lib.hid (fun w ht => callsIn_wide.2 (Itoa_any k (by omega) w ht))
    have HO : Hid (∀ w : World, CallsIn Fence.wide (n - 1) Tryd.prog 26 #[.slice (some ⟨w.heap.size, 0, none⟩) 3 3] (w.alloc (.cells #[.string s, .string ⟨#[47]⟩, .string (dec k)] 9)) fun e w' => e = .returned (.string (pt s k)) ∧ w.grownBy w' none) := Lib.hid (fun w => callsIn_wide.2 (by
      have hz := dec_size k (by omega)
      have := of_any w.heap.size (w.alloc (.cells #[.string s, .string ⟨#[47]⟩, .string (dec k)] 9)) [s, slash, dec k] (by simp) (by rw [cat3, List.length_append, List.length_append, len_data, len_data, len_data]; show s.size + (1 + (dec k).size) ≤ maxLen; unfold maxLen; omega) (strs_new w [s, slash, dec k] _) (by simp)
      refine this.mono fun e w' h => ⟨?_, gb_trans (gb_alloc _ _ _) (gb_below h.2 none)⟩
      rw [h.1, cat3]; rfl))
    obtain ⟨d, hd⟩ : ∃ d, dec k = d := ⟨_, rfl⟩
    obtain ⟨p, hp⟩ : ∃ p, pt s k = p := ⟨_, rfl⟩
    simp only [hd, hp] at HI HO
    have HP := Lib.hid hp
    clear hd hp
    gi_wp2
    have hw : IntKind.i64.wrap ((k : Int) * 32) = (k : Int) * 32 := by rw [IntKind.wrap_i64]; omega
    have ht1 := Lib.hid (tab_gb HT.out (gb_drew1 wr none))
    gi_region_with (first
      | (refine ⟨trivial, fun _ => by omega, ?_⟩; (with_reducible refine (HI.out _ ht1.out).mono ?_); rintro r wI ⟨rfl, hbI⟩; have gI := gb_trans (gb_drew1 wr none) (gb_below hbI none); have csI := gb_cell gI cs (by simp); have HJI := Lib.hid (HGr.out _ _ _ HJk.out gI); have HBI := Lib.hid (HBB.out _ _ HBk.out (keeps_none gI)); clear gI hbI)
      | (refine ⟨trivial, fun _ => by omega, ?_⟩; (with_reducible refine (HO.out _).mono ?_); rintro r wO ⟨rfl, gO⟩; have HJO := Lib.hid (HGr.out _ _ _ HJI.out gO); have HBO := Lib.hid (HBB.out _ _ HBI.out (keeps_none gO)); clear gO; obtain ⟨fn, tmps, assign, body, hy, hR⟩ := HY.out k wO hk HJO.out HBO.out; rw [HP.out] at hy; have hR2 := hR.mono (R' := fun e W' => ∃ b, e = .returned (.bool b) ∧ (b = true ∧ J (k + 1) W' ∧ B W' ∨ b = false ∧ ∃ c, Jx c W' ∧ Bx c W')) (by
          rintro e W' (⟨rfl, h1, h2⟩ | ⟨rfl, h1⟩)
          · exact ⟨true, rfl, .inl ⟨rfl, h1, h2⟩⟩
          · exact ⟨false, rfl, .inr ⟨rfl, h1⟩⟩); clear hR; have HR2 := Lib.hid hR2; clear hR2)
      | (refine ⟨fun _ => by omega, ?_⟩; (with_reducible refine HR2.out.mono ?_); rintro r W3 ⟨b, rfl, HH⟩; have HHH := Lib.hid HH; clear HH))
    all_goals
      cases b
      · have hx : ∃ c, Jx c W3 ∧ Bx c W3 := by
          rcases HHH.out with ⟨h, _⟩ | ⟨_, h⟩
          · cases h
          · exact h
        gi_wp2
        go_end0
        exact ⟨⟨_, rfl⟩, hx⟩
      · have hx : J (k + 1) W3 ∧ B W3 := by
          rcases HHH.out with ⟨_, h⟩ | ⟨h, _⟩
          · exact h
          · cases h
        have HX1 := Lib.hid hx.1
        have HX2 := Lib.hid hx.2
        clear hx
        gi_wp2
        exact ⟨⟨k + 1, by omega, by go_num, HX1, HX2⟩, by simp [intOf]; omega⟩
end Go.Proofs.YtojgigoknjenoaaDoor.Hi
