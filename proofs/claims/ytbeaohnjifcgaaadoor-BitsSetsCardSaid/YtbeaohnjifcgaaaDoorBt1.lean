/-
  Fields of bits: the closure of join, way 1. (made by mk_bt.py)
-/
import Derived.Test.YtbeaohnjifcgaaaDoorBt
namespace Go.Proofs.YtbeaohnjifcgaaaDoor.Bh
open Go Go.RowKit Go.Shelf Go.Proofs.YtbeaohnjifcgaaaDoor.Sx Go.Proofs.YtbeaohnjifcgaaaDoor.Na Go.Proofs.YtbeaohnjifcgaaaDoor.Ba

set_option maxRecDepth 100000 in
set_option maxHeartbeats 4000000 in
theorem join1_1 (N m : Nat) (p q : ByteArray) (hm : (N + 7) / 8 = m) (hN : N ≤ 4096) (hp : p.size = m) (hq : q.size = m) (hpv : ∀ i, N ≤ i → i < 8 * m → bt p i = false) (hqv : ∀ i, N ≤ i → i < 8 * m → bt q i = false) (b cp cq cf : Nat) (w0 w : World)
    (hcp : w0.cell? ⟨cp, 0, none⟩ = some (.string p)) (hcq : w0.cell? ⟨cq, 0, none⟩ = some (.string q)) (hcf : w0.cell? ⟨cf, 0, none⟩ = some (.func (Fn.func 109) #[] #[])) (hb : BG w b m fun _ => 0) (hg : w0.grownBy w none) (hbz : w0.heap.size ≤ b) :
    Calls Tryd.prog 108 #[.slice (some ⟨b, 0, none⟩) m m, .pointer (some ⟨cf, 0, none⟩), .pointer (some ⟨cp, 0, none⟩), .pointer (some ⟨cq, 0, none⟩)] w fun e w' => e = .returned (.tuple #[]) ∧ BG w' b m (bN (lim N fun i => jb 1 (bt p i) (bt q i))) ∧ w0.grownBy w' none := by
  have HB := Lib.hid hb
  have HG := Lib.hid hg
  have HCP := Lib.hid hcp
  have HCQ := Lib.hid hcq
  have HCF := Lib.hid hcf
  have HZ := Lib.hid hbz
  have HSZ := Lib.hid hp
  have HSQ := Lib.hid hq
  have hm5 : m ≤ 512 := by omega
  obtain ⟨v, hv⟩ : ∃ v, bN (lim N fun i => jb 1 (bt p i) (bt q i)) = v := ⟨_, rfl⟩
  have HV : Hid (∀ k, k < m → opb 1 (by_ p k) (by_ q k) = v k) := Lib.hid (fun k hk => by rw [opb_byte 1 N m k p q hk hpv hqv, hv])
  have HE : Hid (∀ k, k = m → ∀ j, j < m → toK v k j = v j) := Lib.hid (fun k e j hj => by unfold toK; rw [if_pos (by omega)])
  rw [hv]
  have hss : (p.size : Int) = (m : Int) := by omega
  have hst : (q.size : Int) = (m : Int) := by omega
  clear hb hg hcp hcq hcf hbz hm hv hp hq hpv hqv
  go_enter Tryd.func108, Tryd.ntmps108
  go_wp2_with fail
  go_loopw [5, 8] (fun _ i wr => ∃ k : Nat, k ≤ m ∧ i = .int .i64 k ∧ Hid (BG wr b m (toK v k)) ∧ Hid (w0.grownBy wr none)) (fun _ i _ => m - (intOf i).toNat)
  case atStart => exact ⟨0, Nat.zero_le _, rfl, Lib.hid (by rw [toK_zero]; exact HB.out), HG⟩
  case round =>
    obtain ⟨k, hk, rfl, HBk, HGk⟩ := hrel
    by_cases hlt : k < m
    · have hlt' : (k : Int) < (m : Int) := by omega
      have hlt2 : (k : Int) < (p.size : Int) := by omega
      have hlt3 : (k : Int) < (q.size : Int) := by omega
      have cp0 := gb_cell HGk.out HCP.out (by simp)
      have cq0 := gb_cell HGk.out HCQ.out (by simp)
      have cf0 := gb_cell HGk.out HCF.out (by simp)
      have c0 := HBk.out.cell k hlt
      have f0 := HBk.out.free k
      have hb1 := by_at p k (by have := HSZ.out; omega)
      have hb2 := by_lt p k
      have hb3 := by_at q k (by have := HSQ.out; omega)
      have hb4 := by_lt q k
      have HS := Lib.hid (HBk.out.set k (v k) hlt)
      rw [toK_succ] at HS
      have HGS : Hid (∀ v, w0.grownBy (wr.setCell ⟨b, k, none⟩ v) none) := Lib.hid (fun v => gb_new HGk.out b k v HZ.out)
      have HO : Hid (∀ w, Calls Tryd.prog 109 #[.int .u8 (by_ p k : Int), .int .u8 (by_ q k : Int)] w fun e w' => e = .returned (.int .u8 (v k)) ∧ w = w') := Lib.hid (fun w => by have := j1_any _ _ hb2 hb4 w; rwa [HV.out k hlt] at this)
      obtain ⟨y, hy⟩ : ∃ y, v k = y := ⟨_, rfl⟩
      rw [hy] at HS
      simp only [hy] at HO
      obtain ⟨x, hx⟩ : ∃ x, by_ p k = x := ⟨_, rfl⟩
      obtain ⟨z, hz⟩ : ∃ z, by_ q k = z := ⟨_, rfl⟩
      rw [hx] at hb1 hb2
      rw [hz] at hb3 hb4
      simp only [hx, hz] at HO
      have HSD : Hid (BG (wr.setCell ⟨b, k, none⟩ (.int .u8 (y : Int))).drew b m (toK v (k + 1))) := Lib.hid (BG.kept (r := none) HS.out (gb_drew1 _ none) (by simp))
      have HGD : Hid (w0.grownBy (wr.setCell ⟨b, k, none⟩ (.int .u8 (y : Int))).drew none) := Lib.hid (gb_trans (HGS.out _) (gb_drew1 _ _))
      clear hy hz hx HS HGS
      go_wp2_with fail
      go_region_with (go_at_call 109; refine (HO.out _).mono ?_; rintro e w2 ⟨rfl, rfl⟩)
      all_goals
        go_wp2_with fail
        exact ⟨⟨k + 1, by omega, by go_num, HSD, HGD⟩, by simp [intOf]; omega⟩
    · obtain rfl : k = m := by omega
      have HBB : Hid (BG wr b k v) := Lib.hid (HBk.out.congr (HE.out k rfl))
      have HGG := Lib.hid HGk.out
      go_wp2_with fail
      go_end0
      exact ⟨rfl, HBB.out, HGG.out⟩
end Go.Proofs.YtbeaohnjifcgaaaDoor.Bh
