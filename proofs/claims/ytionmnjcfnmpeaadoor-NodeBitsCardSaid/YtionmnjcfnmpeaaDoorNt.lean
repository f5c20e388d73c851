/-
  node: Middle's function.
-/
import Derived.Test.YtionmnjcfnmpeaaDoorNq
import Derived.Test.YtionmnjcfnmpeaaDoorNi
import Derived.Test.YtionmnjcfnmpeaaDoorNl
import Derived.Test.YtionmnjcfnmpeaaDoorHg
namespace Go.Proofs.YtionmnjcfnmpeaaDoor.Nq
open Go Go.RowKit Go.Shelf Go.Proofs.YtionmnjcfnmpeaaDoor.Hz Go.Proofs.YtionmnjcfnmpeaaDoor.Na Go.Proofs.YtionmnjcfnmpeaaDoor.Nb Go.Proofs.YtionmnjcfnmpeaaDoor.Nf
open Go.Proofs.YtionmnjcfnmpeaaDoor.Ng (and8)
open Go.Proofs.YtionmnjcfnmpeaaDoor.Nj (or8)

/-- bytes lie at the head of a block -/
def Cs (w : World) (g : Nat) (xs : List Int) : Prop := (∀ i, i < xs.length → w.cell? ⟨g, i, none⟩ = some (.int .u8 (xs.getD i 0))) ∧ ∀ i, i < xs.length → w.frozen? ⟨g, i, none⟩ = false
theorem Cs.set {w : World} {g : Nat} {xs : List Int} (h : Cs w g xs) (k : Nat) (hk : k < xs.length) (v : Int) : Cs (w.setCell ⟨g, k, none⟩ (.int .u8 v)) g (xs.set k v) := by
  refine ⟨fun i hi => ?_, fun i hi => (World.frozen?_setCell _ _ _ _).trans (h.2 i (by rwa [List.length_set] at hi))⟩
  rw [List.length_set] at hi
  by_cases e : i = k
  · subst e
    rw [World.cell?_setCell_same _ _ _ (h.1 i hi), List.getD, List.getElem?_set_self hi]
    rfl
  · have hne : (⟨g, k, none⟩ : Addr) ≠ ⟨g, i, none⟩ := fun q => e (by injection q with _ q2; exact q2.symm)
    rw [World.cell?_setCell_other (w := w) (v := .int .u8 v) (h := hne), h.1 i hi]
    rw [List.getD, List.getD, List.getElem?_set_ne (fun q => e q.symm)]
theorem Cs.conv {w : World} {g : Nat} {xs : List Int} (H : Cs w g xs) (l cap : Nat) (hl : xs.length = l) :
    (convert 70 9 (.slice (some ⟨g, 0, none⟩) l cap)).run Tryd.prog w = .ok (.string (strOfNums xs)) w :=
  run_convert_bytes_arg (P := Tryd.prog) _ 70 5 Tryd.underlying70 Tryd.underlying5 g 0 l cap xs hl (fun i hi => by rw [Nat.zero_add]; exact H.1 i (by omega)) 9 Tryd.underlying9
theorem orhi (x c : Nat) (hx : x < 128) (hc : c ≤ 1) : x ||| (c * 128) = x + c * 128 := by
  have := Nat.two_pow_add_eq_or_of_lt (i := 7) (b := x) hx c
  rw [Nat.or_comm, show c * 128 = 2 ^ 7 * c by omega, ← this]
  omega
def mid (a b : ByteArray) : ByteArray := idn ((nb a + nb b) / 2)
theorem nb_def (s : ByteArray) : nb s = low s 20 := rfl
theorem car_top (a b : ByteArray) : car a b 0 20 = crB (nb a + nb b) 0 := by
  have h1 := car_le a b 0 (by omega) 20
  have e : car a b 0 20 = (low a 20 + low b 20) / 256 ^ 20 := by unfold car; rw [Nat.add_zero]
  rw [e] at h1 ⊢
  rw [nb_def a, nb_def b]
  unfold crB
  rw [Nat.sub_zero]
  exact (Nat.mod_eq_of_lt (by omega)).symm

set_option maxRecDepth 100000 in
set_option maxHeartbeats 1600000 in
theorem MiddleF_yes (pa pb : Nat) (a b : ByteArray) (w : World) (hv : (vd a && vd b) = true) (ca : w.cell? ⟨pa, 0, none⟩ = some (.string a)) (cb : w.cell? ⟨pb, 0, none⟩ = some (.string b)) :
    Calls Tryd.prog 67 #[.pointer (some ⟨pa, 0, none⟩), .pointer (some ⟨pb, 0, none⟩)] w fun e W' => e = .returned (.string (mid a b)) ∧ Below w.heap.size w W' := by
  have HAsk := Lib.hid (ask2_yes a b 9 w hv)
  rw [Bool.and_eq_true] at hv
  have hadd := fun w => add_any a b 0 w (vd_yes hv.1) (vd_yes hv.2) (by omega)
  rw [car_top] at hadd
  have la : pa < w.heap.size := World.block_lt_of_cell? w _ ca
  have lb : pb < w.heap.size := World.block_lt_of_cell? w _ cb
  have hm : mid a b = strOfNums (il ((nb a + nb b) / 2)) := rfl
  obtain ⟨n, hn⟩ : ∃ n, nb a + nb b = n := ⟨_, rfl⟩
  rw [hn] at hm
  have hadd2 : ∀ w, Calls Tryd.prog 66 #[.string a, .string b, .int .i64 0] w fun e w' => e = .returned (.tuple #[.string (idn n), .int .i64 (crB n 0 : Int)]) ∧ Below w.heap.size w w' := fun w => by
    have := hadd w
    rw [show nb a + nb b + 0 = n from (Nat.add_zero _).trans hn] at this
    rw [hn] at this
    exact this
  have HADD := Lib.hid hadd2
  have HM := Lib.hid hm
  obtain ⟨M, hM⟩ : ∃ M, mid a b = M := ⟨_, rfl⟩
  rw [hM] at HM ⊢
  have hI : ∀ i, i < 20 → (by_ (idn n) i : Int) = (il n).getD i 0 := fun i h20 => by
    rw [by_idn n i h20, il_at n i h20]
  have hI2 := il_len n
  have HMS := Lib.hid (fun k hk => midL_set n k hk)
  have HMA := Lib.hid (fun k hk => midL_at n k hk)
  have HML := Lib.hid (fun k hk => midL_len n k hk)
  have HMZ := Lib.hid (midL_zero n)
  have HMD := Lib.hid (midL_done n)
  have HCR := Lib.hid (fun k hk => crB_succ n k hk)
  have HIN := Lib.hid hI
  have hisz := idn_size n
  obtain ⟨I, hIe⟩ : ∃ I, idn n = I := ⟨_, rfl⟩
  simp only [hIe] at HADD HIN hisz
  have HISZ := Lib.hid hisz
  clear hv hadd hadd2 hm hn hM hI hI2 hIe hisz
  go_enter Tryd.func67, Tryd.ntmps67
  go_wp2_with fail
  refine HAsk.out.mono ?_
  rintro e w1 ⟨rfl, rfl⟩
  go_wp2_with fail
  refine (HADD.out _).mono ?_
  rintro e w2 ⟨rfl, hb2⟩
  go_wp2_with fail
  obtain ⟨w3, cap, hrun, hb3, hsz3, hcap, hcell, hfree⟩ := Hh.conv_bytes w2 I
  rw [hrun, HISZ.out]
  have HB3 := Lib.hid (blw (below_alloc _ hb2) hb3)
  have hlw2 : w.heap.size ≤ w2.heap.size := (below_alloc _ hb2).size
  have HCs : Hid (Cs w3 w2.heap.size (midL n 0)) := Lib.hid (by
    rw [HMZ.out]
    refine ⟨fun i hi => ?_, fun i hi => hfree i (by rw [HISZ.out]; rwa [il_len] at hi)⟩
    have h20 : i < I.size := by rw [HISZ.out]; rwa [il_len] at hi
    rw [hcell i h20, by_at I i h20, HIN.out i (by rwa [HISZ.out] at h20)])
  obtain ⟨g, hg⟩ : ∃ g, w2.heap.size = g := ⟨_, rfl⟩
  rw [hg] at HCs hlw2 ⊢
  clear hcell hfree hrun hb3 hsz3 hb2 hcap hg
  go_wp2_with fail
  go_loopw [22, 4] (fun i c wr => ∃ k : Nat, k ≤ 20 ∧ i = .int .i64 (k : Int) ∧ c = .int .i64 (crB n k : Int) ∧ Hid (Cs wr g (midL n k)) ∧ Hid (Below w.heap.size w wr)) (fun i _ _ => 20 - (intOf i).toNat)
  case atStart => exact ⟨0, Nat.zero_le _, rfl, rfl, HCs, HB3⟩
  case round =>
    clear HCs HB3
    obtain ⟨k, hk, rfl, rfl, HC, HBL⟩ := hrel
    by_cases hlt : k < 20
    · have hc := HC.out.1 k (by rw [HML.out k hk]; exact hlt)
      have hf := HC.out.2 k (by rw [HML.out k hk]; exact hlt)
      rw [HMA.out k hlt] at hc
      have hst := HMS.out k hlt
      have hcr := HCR.out k hlt
      have hS := HC.out.set k (by rw [HML.out k hk]; exact hlt) ((n / 256 ^ (19 - k) % 256 / 2 + crB n k * 128 : Nat) : Int)
      rw [hst] at hS
      have hcle : crB n k ≤ 1 := by unfold crB; omega
      obtain ⟨x, hx⟩ : ∃ x, n / 256 ^ (19 - k) % 256 = x := ⟨_, rfl⟩
      have hx256 : x < 256 := by rw [← hx]; exact Nat.mod_lt _ (by omega)
      obtain ⟨c, hce⟩ : ∃ c, crB n k = c := ⟨_, rfl⟩
      rw [hx] at hc hS hcr
      rw [hce] at hS hcle ⊢
      have HS := Lib.hid hS
      have HCR2 := Lib.hid hcr
      have hor := or8 (x / 2) (c * 128) (by omega) (by omega)
      rw [orhi _ _ (by omega) hcle] at hor
      have han := and8 x 1 hx256 (by omega)
      rw [Nat.and_one_is_mod] at han
      have han2 : wrap64 (bits .and .u8 (x : Int) 1) = ((x % 2 : Nat) : Int) := by
        rw [show (1 : Int) = ((1 : Nat) : Int) from rfl, han]
        unfold wrap64
        omega
      have HAN := Lib.hid han2
      have HOR0 : Hid (bits .or .u8 ((x : Int) / 2) ((c * 128 : Nat) : Int) = ((x / 2 + c * 128 : Nat) : Int)) := Lib.hid (by rw [← hor]; congr 1)
      have HBL2 := Lib.hid (HBL.out.setCell (p := ⟨g, k, none⟩) hlw2 (.int .u8 ((x / 2 + c * 128 : Nat) : Int)))
      clear hS hcr hst hx hce hor han han2
      obtain rfl | rfl : c = 0 ∨ c = 1 := by omega
      · have HOR : Hid (bits .or .u8 ((x : Int) / 2) 0 = ((x / 2 + 0 * 128 : Nat) : Int)) := HOR0
        clear HOR0
        go_wp2_with fail
        rw [HOR.out, HAN.out]
        exact ⟨⟨k + 1, by omega, by go_num, by rw [HCR2.out], HS, HBL2⟩, by simp [intOf]; omega⟩
      · have HOR : Hid (bits .or .u8 ((x : Int) / 2) 128 = ((x / 2 + 1 * 128 : Nat) : Int)) := HOR0
        clear HOR0
        go_wp2_with fail
        rw [HOR.out, HAN.out]
        exact ⟨⟨k + 1, by omega, by go_num, by rw [HCR2.out], HS, HBL2⟩, by simp [intOf]; omega⟩
    · obtain rfl : k = 20 := by omega
      have hcc := HC.out
      rw [HMD.out] at hcc
      have hcv := hcc.conv 20 cap (il_len _)
      rw [← HM.out] at hcv
      clear hcc
      go_wp2_with fail
      go_ret
      exact ⟨rfl, HBL.out⟩
end Go.Proofs.YtionmnjcfnmpeaaDoor.Nq
