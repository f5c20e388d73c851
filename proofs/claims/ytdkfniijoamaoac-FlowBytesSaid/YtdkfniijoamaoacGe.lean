/-
  Encode: the method; decode of bytes that are right.
-/
import Derived.Test.YtdkfniijoamaoacGd
namespace Go.Proofs.Ytdkfniijoamaoac.Ga
open Go Go.RowKit Go.Proofs.Ytdkfniijoamaoac.Hz Go.Proofs.Ytdkfniijoamaoac.Ob

theorem enterEncode (args : Array Value) (w : World) : (callFunc 19 args).run Try.prog w = .ok (.enter 19 args) w := by kernel_rfl

set_option maxHeartbeats 800000 in
theorem Encode_yes (p : Seg) (w : World) (h : p.ok) :
    Calls Try.prog 7 #[.agg p.cells] w fun e w' => e = .returned (.tuple #[.string p.enc, .int .i64 0]) ∧ Below w.heap.size w w' := by
  have hmf : ∀ (fn : Fn) (first cap : Array Value) (w : World), (Instr.makeFunc fn first cap).run Try.prog w = .ok (.func fn first cap) w := fun _ _ _ _ => rfl
  have hF := (EncodeF_yes w.heap.size p (Fb.aw (w.alloc (.cells p.cells 23))) h 23 (by
    unfold Fb.aw
    exact ((World.grownBy_alloc _ _ none).block _ (by simp; omega) (by simp)).trans (((World.grownBy_alloc _ _ none).block _ (by simp) (by simp)).trans (heap_alloc_new _ _)))).mono (R' := fun e w' => e = .returned (.string p.enc) ∧ Below (Fb.aw (w.alloc (.cells p.cells 23))).heap.size (Fb.aw (w.alloc (.cells p.cells 23))) w') (by rintro e w' ⟨s, rfl, rfl, hb⟩; exact ⟨rfl, hb⟩)
  have HA := Lib.hid (Fb.attempt_ret 19 #[.pointer (some ⟨w.heap.size, 0, none⟩)] p.enc (w.alloc (.cells p.cells 23)) enterEncode hF)
  clear hF h
  obtain ⟨E, hE⟩ : ∃ E, p.enc = E := ⟨_, rfl⟩
  rw [hE] at HA ⊢
  clear hE
  obtain ⟨kind, conn, seq, ack, win, marks, body, time, late⟩ := p
  unfold Seg.cells at HA ⊢
  go_enter Try.func7, Try.ntmps7
  go_wp2_with fail
  refine HA.out.mono ?_
  rintro e w1 ⟨rfl, hb⟩
  go_wp2
  go_ret2
  exact ⟨rfl, below_alloc _ hb⟩
end Go.Proofs.Ytdkfniijoamaoac.Ga
