/-
  A control with its rings; base, queueing at any fill.
-/
import Derived.Test.YthjhbceepkoifaaFc
import Derived.Deep.RegionWith
import Derived.RegionTactic
namespace Go.Proofs.Ythjhbceepkoifaa.Fd
open Go Go.RowKit Go.Proofs.Ythjhbceepkoifaa.Ec Go.Proofs.Ythjhbceepkoifaa.Ee Go.Proofs.Ythjhbceepkoifaa.Rg Go.Proofs.Ythjhbceepkoifaa.Fa Go.Proofs.Ythjhbceepkoifaa.Fb Go.Proofs.Ythjhbceepkoifaa.Fc

theorem below_alloc {W w' : World} (o : Obj) (hb : Below (W.alloc o).heap.size (W.alloc o) w') : Below W.heap.size W w' :=
  ((Below.refl _ _).alloc (Nat.le_refl _) o).trans (hb.mono (by simp))
theorem blw {w w1 w2 : World} (h : Below w.heap.size w w1) (k : Below w1.heap.size w1 w2) : Below w.heap.size w w2 := h.trans (k.mono h.size)

/-- block c is a control whose rings hold these -/
structure Rings (w : World) (c : Nat) (now : Int) (hv : Bool) (at' target limit : Int) (bs : List (Int × Int)) (zs : List Int) (ml fl : Value) : Prop where
  ctl : Ctl w c now hv at' target limit ml fl
  rm : Row w 2 ml bs.length (bcs bs)
  rf : Row w 1 fl zs.length (zs.map (Value.int .i64))
  lm : bs.length ≤ 10
  lf : zs.length ≤ 4
  mc : ml.ownBlock ≠ some c
  fc : fl.ownBlock ≠ some c
  mf : ∀ k, ml.ownBlock = some k → fl.ownBlock ≠ some k

theorem row_ints {w : World} {g off cap : Nat} {zs : List Int} {n : Nat} (hn : zs.length = n) (h : Row w 1 (.slice (some ⟨g, off, none⟩) n cap) n (zs.map (Value.int .i64))) : ∀ j, j < n → w.cell? ⟨g, off + j, none⟩ = some (.int .i64 (zs[j]?.getD 0)) := fun j hj => by
  rcases h.val with ⟨h0, _⟩ | ⟨g', off', cap', e, h1, h2, h3, h4, h5⟩
  · cases h0
  simp only [Value.slice.injEq, Option.some.injEq, Addr.mk.injEq] at e
  obtain ⟨⟨rfl, rfl, _⟩, _, rfl⟩ := e
  rw [h4 j (.int .i64 (zs[j]?.getD 0)) (by rw [List.getElem?_map, List.getElem?_eq_getElem (by omega)]; rfl)]
theorem row_bases {w : World} {g off cap : Nat} {bs : List (Int × Int)} {n : Nat} (hn : bs.length = n) (h : Row w 2 (.slice (some ⟨g, off, none⟩) n cap) n (bcs bs)) : ∀ j, j < n → w.cell? ⟨g, off + j * 2, none⟩ = some (.int .i64 (bs[j]?.getD (0, 0)).1) ∧ w.cell? ⟨g, off + j * 2 + 1, none⟩ = some (.int .i64 (bs[j]?.getD (0, 0)).2) := fun j hj => by
  rcases h.val with ⟨h0, _⟩ | ⟨g', off', cap', e, h1, h2, h3, h4, h5⟩
  · cases h0
  simp only [Value.slice.injEq, Option.some.injEq, Addr.mk.injEq] at e
  obtain ⟨⟨rfl, rfl, _⟩, _, rfl⟩ := e
  have hb : bs[j]? = some (bs[j]?.getD (0, 0)) := by rw [List.getElem?_eq_getElem (by omega)]; rfl
  exact ⟨h4 _ _ (bcs_at0 bs j _ hb), by have := h4 _ _ (bcs_at1 bs j _ hb); rwa [← Nat.add_assoc] at this⟩

section
variable {w : World} {c : Nat} {now : Int} {hv : Bool} {at' target limit : Int} {bs : List (Int × Int)} {zs : List Int} {ml fl : Value}
theorem Rings.below {w' : World} (h : Rings w c now hv at' target limit bs zs ml fl) (hb : Below w.heap.size w w') : Rings w' c now hv at' target limit bs zs ml fl :=
  ⟨h.ctl.kept (gb_below hb none) (by simp), h.rm.kept (gb_below hb none) (by simp), h.rf.kept (gb_below hb none) (by simp), h.lm, h.lf, h.mc, h.fc, h.mf⟩

set_option maxRecDepth 100000 in
set_option maxHeartbeats 1000000 in
theorem base_any (h : Rings w c now hv at' target limit bs zs ml fl) (hne : bs ≠ []) :
    Calls Try.prog 55 #[.pointer (some ⟨c, 0, none⟩)] w fun e w' => e = .returned (.int .i64 ((lstb bs).getD (0, 0)).2) ∧ Below w.heap.size w w' := by
  obtain ⟨n, hn⟩ : ∃ n, bs.length = n + 1 := by cases bs with | nil => exact absurd rfl hne | cons a r => exact ⟨r.length, rfl⟩
  have hrow := h.rm
  rw [hn] at hrow
  obtain ⟨g, off, cap, rfl, _, hg⟩ := hrow.form
  have hc : c < w.heap.size := h.ctl.lt
  have hlm := h.lm
  have hcs := row_bases hn hrow
  have hA := (Below.refl w.heap.size w).alloc (Nat.le_refl _) (.cells #[.pointer (some ⟨c, 5, none⟩)] 95)
  have hL := (callsIn_wide (n := 3)).1 (leastb_any 3 (by omega) w.heap.size c 5 g off (n + 1) cap bs hn (by omega) (w.alloc (.cells #[.pointer (some ⟨c, 5, none⟩)] 95)) (by simp) (by simp; omega) (by simp; omega) (by simp [go_sem]) ((hA.cell (p := ⟨c, 6, none⟩) hc).trans h.ctl.c6) (fun j hj => (hA.cell (p := ⟨g, off + j * 2, none⟩) hg).trans (hcs j hj).1) (fun j hj => (hA.cell (p := ⟨g, off + j * 2 + 1, none⟩) hg).trans (hcs j hj).2))
  obtain ⟨z, hz⟩ : ∃ z, (lstb bs).getD (0, 0) = z := ⟨_, rfl⟩
  rw [hz] at hL ⊢
  have hfield : ∀ w, (Instr.field 81 (.agg #[.int .i64 z.1, .int .i64 z.2]) 1).run Try.prog w = .ok (.int .i64 z.2) w := fun _ => by kernel_rfl
  have HL := Lib.hid hL
  clear hL hA
  go_enter Try.func55, Try.ntmps55
  go_wp2_with (first | (go_at_call 65; refine HL.out.mono ?_; rintro e w1 ⟨rfl, hb1⟩) | go_in)
  go_ret
  exact ⟨rfl, below_alloc _ hb1⟩

/-- the queueing delay -/
def qd (bs : List (Int × Int)) (zs : List Int) : Int := min 10000 (((lst zs).getD 0 - ((lstb bs).getD (0, 0)).2) % 4294967296)

set_option maxRecDepth 100000 in
set_option maxHeartbeats 1000000 in
theorem queueing_any (h : Rings w c now hv at' target limit bs zs ml fl) (hne : bs ≠ []) (hnz : zs ≠ []) :
    Calls Try.prog 50 #[.pointer (some ⟨c, 0, none⟩)] w fun e w' => e = .returned (.int .i64 (qd bs zs)) ∧ Below w.heap.size w w' := by
  obtain ⟨n, hn⟩ : ∃ n, zs.length = n + 1 := by cases zs with | nil => exact absurd rfl hnz | cons a r => exact ⟨r.length, rfl⟩
  have hrow := h.rf
  rw [hn] at hrow
  obtain ⟨g, off, cap, rfl, _, hg⟩ := hrow.form
  have hc : c < w.heap.size := h.ctl.lt
  have hlf := h.lf
  have hcs := row_ints hn hrow
  have hA := (Below.refl w.heap.size w).alloc (Nat.le_refl _) (.cells #[.pointer (some ⟨c, 7, none⟩)] 85)
  have hL := (callsIn_wide (n := 3)).1 (least_any 3 (by omega) w.heap.size c 7 g off (n + 1) cap zs hn (by omega) (w.alloc (.cells #[.pointer (some ⟨c, 7, none⟩)] 85)) (by simp) (by simp; omega) (by simp; omega) (by simp [go_sem]) ((hA.cell (p := ⟨c, 8, none⟩) hc).trans h.ctl.c8) (fun j hj => (hA.cell (p := ⟨g, off + j, none⟩) hg).trans (hcs j hj)))
  have HL := Lib.hid hL
  have hA1 := fun (w1 : World) (hb : Below (w.alloc (.cells #[.pointer (some ⟨c, 7, none⟩)] 85)).heap.size (w.alloc (.cells #[.pointer (some ⟨c, 7, none⟩)] 85)) w1) => base_any (h.below (below_alloc _ hb)) hne
  have HA1 := Lib.hid hA1
  clear hL hA hA1 hcs
  unfold qd
  obtain ⟨x, hx⟩ : ∃ x, (lst zs).getD 0 = x := ⟨_, rfl⟩
  obtain ⟨y, hy⟩ : ∃ y, ((lstb bs).getD (0, 0)).2 = y := ⟨_, rfl⟩
  rw [hx, hy]
  have hw : IntKind.i64.wrap (x - y) % 4294967296 = (x - y) % 4294967296 := by rw [IntKind.wrap_i64]; omega
  have hand := and32 (IntKind.i64.wrap (x - y))
  rw [hw] at hand
  have hand' : bits .and .i64 (wrap64 (x - y)) 4294967295 = (x - y) % 4294967296 := by
    have e : wrap64 (x - y) = IntKind.i64.wrap (x - y) := by first | rfl | (rw [IntKind.wrap_i64]; unfold wrap64; rfl) | (rw [IntKind.wrap_i64]; unfold wrap64; omega)
    rw [e]; exact hand
  go_enter Try.func50, Try.ntmps50
  go_wp2_with (first
    | (go_at_call 63; refine HL.out.mono ?_; rintro e w1 ⟨rfl, hb1⟩)
    | (go_at_call 55; have hb2 := below_alloc _ hb1; refine (HA1.out _ hb1).mono ?_; rintro e w2 ⟨rfl, hb3⟩)
    | go_in)
  all_goals
    go_ret
    refine ⟨?_, blw hb2 hb3⟩
    first
      | (show Ending.returned (Value.int .i64 ((x - y) % 4294967296)) = _; congr 2; omega)
      | (show Ending.returned (Value.int .i64 10000) = _; congr 2; omega)
end
end Go.Proofs.Ythjhbceepkoifaa.Fd
