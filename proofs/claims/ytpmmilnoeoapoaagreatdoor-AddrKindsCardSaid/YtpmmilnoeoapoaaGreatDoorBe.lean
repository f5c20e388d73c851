/-
  Addresses: the kinds: the closures; kind; Kind.
-/
import Derived.Test.YtpmmilnoeoapoaaGreatDoorBd
import Derived.Test.YtpmmilnoeoapoaaGreatDoorBb
import Derived.Deep.QuietTactic
import Derived.BigQuiet
import Derived.LoopTactic
import Derived.Deep.MidRow
set_option linter.unusedVariables false
namespace Go.Proofs.YtpmmilnoeoapoaaGreatDoor.Bd
open Go Go.RowKit Go.Proofs.YtpmmilnoeoapoaaGreatDoor.Hz Go.Proofs.YtpmmilnoeoapoaaGreatDoor.Ac Go.Proofs.YtpmmilnoeoapoaaGreatDoor.Na

theorem drop_head (p : UInt8 → Bool) : ∀ m : List UInt8, m.dropWhile p = [] ∧ (∀ x ∈ m, p x = true) ∨ ∃ h t, m.dropWhile p = h :: t ∧ p h = false ∧ h ∈ m
  | [] => .inl ⟨rfl, fun x hx => by cases hx⟩
  | a :: m => by
    by_cases ha : p a = true
    · rw [List.dropWhile_cons_of_pos ha]
      rcases drop_head p m with ⟨h1, h2⟩ | ⟨h, t, h1, h2, h3⟩
      · exact .inl ⟨h1, fun x hx => by
          rcases List.mem_cons.1 hx with rfl | hx
          · exact ha
          · exact h2 x hx⟩
      · exact .inr ⟨h, t, h1, h2, List.mem_cons_of_mem _ h3⟩
    · rw [List.dropWhile_cons_of_neg ha]
      exact .inr ⟨a, m, rfl, by simpa using ha, List.mem_cons_self⟩
theorem trim_nil (l : List UInt8) (c : UInt8) : Lib.trimB l c = [] ↔ ∀ x ∈ l, x = c := by
  unfold Lib.trimB Lib.trimLeftB Lib.trimRightB
  rcases drop_head (· == c) l.reverse with ⟨h1, h2⟩ | ⟨h, t, h1, h2, h3⟩
  · rw [h1]
    simp at h2
    simp
    exact h2
  · rw [h1]
    constructor
    · intro h4
      rcases drop_head (· == c) (h :: t).reverse with ⟨_, h5⟩ | ⟨a, b, h5, _, _⟩
      · have := h5 h (by simp)
        rw [h2] at this; cases this
      · rw [h5] at h4; cases h4
    · intro h4
      have := h4 h (by simpa using h3)
      rw [this] at h2
      simp at h2
/-- the text without the zeros about it -/
def tr (s : ByteArray) : ByteArray := ⟨(Lib.trimB s.data.toList 0).toArray⟩
theorem tr_empty (s : ByteArray) : (tr s).toList.isEmpty = decide (az s) := by
  rw [Bool.eq_iff_iff, ByteArray.toList_eq]
  unfold tr
  simp only [List.isEmpty_iff, decide_eq_true_eq]
  rw [trim_nil]
  unfold az by_
  constructor
  · intro h j hj
    have hj' : j < s.data.toList.length := by rw [Na.len_data]; exact hj
    rw [List.getD, List.getElem?_eq_getElem hj']
    have := h _ (List.getElem_mem hj')
    simp [this]
  · intro h x hx
    obtain ⟨j, hj, rfl⟩ := List.mem_iff_getElem.1 hx
    have := h j (by rw [← Na.len_data]; exact hj)
    rw [List.getD, List.getElem?_eq_getElem hj] at this
    exact UInt8.toNat_inj.1 this
theorem Trim_any (s : ByteArray) (w : World) (hs : s.size ≤ 9223372036854775807) : Calls Tryz.prog 110 #[.string s, .string ⟨#[0]⟩] w fun e w' => e = .returned (.string (tr s)) ∧ Below w.heap.size w w' :=
  (Any.strings_Trim_one Tryz.laysTrim s 0 (by decide) w hs).mono fun e w' ⟨he, hw⟩ => ⟨he, by rcases hw with rfl | rfl <;> first | exact Below.refl _ _ | exact (Below.refl _ _).drew⟩

/-- a valid address's IP -/
def okI (f : Int) (ip : ByteArray) : Prop := (f = 4 ∧ ip.size = 4) ∨ (f = 6 ∧ ip.size = 16)
set_option maxRecDepth 100000 in
set_option maxHeartbeats 1000000 in
theorem ks1 (f : Int) (ip : ByteArray) (h : okI f ip) (w : World) : Calls Tryz.prog 109 #[fam f, .string ip] w fun e w' => e = .returned (.bool (decide (az ip ∨ noP f ip))) ∧ Below w.heap.size w w' := by
  have hz : ip.size ≤ 16 := by unfold okI at h; omega
  have HT := Lib.hid (fun w => Trim_any ip w (by omega))
  have hE := tr_empty ip
  by_cases ha : az ip
  · rw [decide_eq_true ha] at hE
    rw [decide_eq_true (show az ip ∨ noP f ip from .inl ha)]
    generalize tr ip = T at HT hE
    clear h
    generalize fam f = F
    go_enter Tryz.func109, Tryz.ntmps109
    go_wp2_with fail
    refine (HT.out _).mono ?_
    rintro e w1 ⟨rfl, hb⟩
    go_wp2
    go_ret
    exact ⟨rfl, hb⟩
  · rw [decide_eq_false ha] at hE
    rw [show decide (az ip ∨ noP f ip) = decide (noP f ip) from decide_eq_decide.2 (by simp [ha])]
    generalize tr ip = T at HT hE
    rcases h with ⟨rfl, h⟩ | ⟨rfl, h⟩
    · rw [show fam 4 = .iface 108 (.agg #[]) from if_pos rfl]
      have HM := Lib.hid (fun w => none4 ip w h)
      have hm := mno4
      go_enter Tryz.func109, Tryz.ntmps109
      go_wp2_with fail
      refine (HT.out _).mono ?_
      rintro e w1 ⟨rfl, hb⟩
      go_wp2_with fail
      refine (HM.out _).mono ?_
      rintro e w2 ⟨rfl, hb2⟩
      have hb' := blw hb hb2
      go_wp2
      go_ret
      exact ⟨rfl, hb'⟩
    · rw [show fam 6 = .iface 109 (.agg #[]) from if_neg (by decide)]
      have HM := Lib.hid (fun w => none6 ip w h)
      have hm := mno6
      go_enter Tryz.func109, Tryz.ntmps109
      go_wp2_with fail
      refine (HT.out _).mono ?_
      rintro e w1 ⟨rfl, hb⟩
      go_wp2_with fail
      refine (HM.out _).mono ?_
      rintro e w2 ⟨rfl, hb2⟩
      have hb' := blw hb hb2
      go_wp2
      go_ret
      exact ⟨rfl, hb'⟩

set_option maxRecDepth 100000 in
set_option maxHeartbeats 1000000 in
theorem ks2 (f : Int) (ip : ByteArray) (h : okI f ip) (w : World) : Calls Tryz.prog 111 #[fam f, .string ip] w fun e w' => e = .returned (.bool (decide (owP f ip))) ∧ Below w.heap.size w w' := by
  rcases h with ⟨rfl, h⟩ | ⟨rfl, h⟩
  · rw [show fam 4 = .iface 108 (.agg #[]) from if_pos rfl]
    have HM := Lib.hid (fun w => own4 ip w h)
    have hm := mow4
    go_enter Tryz.func111, Tryz.ntmps111
    go_wp2_with fail
    refine (HM.out _).mono ?_
    rintro e w1 ⟨rfl, hb⟩
    go_wp2
    go_ret
    exact ⟨rfl, hb⟩
  · rw [show fam 6 = .iface 109 (.agg #[]) from if_neg (by decide)]
    have HM := Lib.hid (fun w => own6 ip w h)
    have hm := mow6
    go_enter Tryz.func111, Tryz.ntmps111
    go_wp2_with fail
    refine (HM.out _).mono ?_
    rintro e w1 ⟨rfl, hb⟩
    go_wp2
    go_ret
    exact ⟨rfl, hb⟩

set_option maxRecDepth 100000 in
set_option maxHeartbeats 1000000 in
theorem ks3 (f : Int) (ip : ByteArray) (h : okI f ip) (w : World) : Calls Tryz.prog 112 #[fam f, .string ip] w fun e w' => e = .returned (.bool (decide (neP f ip))) ∧ Below w.heap.size w w' := by
  rcases h with ⟨rfl, h⟩ | ⟨rfl, h⟩
  · rw [show fam 4 = .iface 108 (.agg #[]) from if_pos rfl]
    have HM := Lib.hid (fun w => near4 ip w h)
    have hm := mne4
    go_enter Tryz.func112, Tryz.ntmps112
    go_wp2_with fail
    refine (HM.out _).mono ?_
    rintro e w1 ⟨rfl, hb⟩
    go_wp2
    go_ret
    exact ⟨rfl, hb⟩
  · rw [show fam 6 = .iface 109 (.agg #[]) from if_neg (by decide)]
    have HM := Lib.hid (fun w => near6 ip w h)
    have hm := mne6
    go_enter Tryz.func112, Tryz.ntmps112
    go_wp2_with fail
    refine (HM.out _).mono ?_
    rintro e w1 ⟨rfl, hb⟩
    go_wp2
    go_ret
    exact ⟨rfl, hb⟩

theorem ks4 (F : Value) (ip : ByteArray) (w : World) : Calls Tryz.prog 113 #[F, .string ip] w fun e w' => e = .returned (.bool true) ∧ Below w.heap.size w w' := by
  go_enter Tryz.func113, Tryz.ntmps113
  go_wp2
  go_ret
  exact ⟨rfl, Below.refl _ _⟩
/-- the table of kinds -/
abbrev ktab : Value := .agg #[.int .i64 1, .func (Fn.func 109) #[] #[], .int .i64 2, .func (Fn.func 111) #[] #[], .int .i64 3, .func (Fn.func 112) #[] #[], .int .i64 4, .func (Fn.func 113) #[] #[]]
theorem below_cells {B : Nat} {a : World} (b : Nat) (hb : B ≤ b) : ∀ (vs : List Value) (o : Nat) (w : World), Below B a w → Below B a (w.setCells b o vs)
  | [], _, _, h => h
  | v :: vs, o, _, h => below_cells b hb vs (o + 1) _ (h.setCell hb v)
theorem fin_load (v : World) (b : Nat) (d : TypeDesc) (vs : Array Value) (ht : v.there b 0 8) (hl : vs.size = 8) (hu : Tryz.prog.underlying 100 = some d) (hd : d.isRow = true) (hi : (Tryz.prog.info? 100).map (·.size) = some 8) :
    (loadVar 100 ⟨b, 0, none⟩).run Tryz.prog (v.setCells b 0 vs.toList) = .ok (.agg vs) (v.setCells b 0 vs.toList) := by
  have := run_loadVar_mid (P := Tryz.prog) _ b 0 100 _ d (World.rangeAt_setCells_same v b 0 vs.toList (by rw [Array.length_toList, hl]; exact ht)) hu hd (by rw [Array.length_toList, hl]; exact hi)
  simpa using this
theorem fin_ret (v : World) (b : Nat) (tmps vs : Array Value) (hp : tmps.getD 0 undef = .pointer (some ⟨b, 0, none⟩)) (ht : v.there b 0 8) (hl : vs.size = 8) :
    (results Tryz.f89 tmps).run Tryz.prog (v.setCells b 0 vs.toList) = .ok (.agg vs) (v.setCells b 0 vs.toList) := by
  have h := fin_load v b _ vs ht hl Tryz.underlying100 rfl (by kernel_rfl)
  have hp' : tmps[0]?.getD undef = .pointer (some ⟨b, 0, none⟩) := by simpa using hp
  simp [results, Tryz.results89, hp', asAddr, h]
abbrev kcs : Array Value := #[.int .i64 1, .func (Fn.func 109) #[] #[], .int .i64 2, .func (Fn.func 111) #[] #[], .int .i64 3, .func (Fn.func 112) #[] #[], .int .i64 4, .func (Fn.func 113) #[] #[]]
set_option maxRecDepth 100000 in
set_option maxHeartbeats 1000000 in
theorem kinds_any (w : World) : Calls Tryz.prog 89 #[] w fun e w' => e = .returned ktab ∧ Below w.heap.size w w' := by
  have ht : (w.alloc (.cells #[.int .i64 0, .nilFunc, .int .i64 0, .nilFunc, .int .i64 0, .nilFunc, .int .i64 0, .nilFunc] 100)).there w.heap.size 0 8 := fun j hj => by
    have : j = 0 ∨ j = 1 ∨ j = 2 ∨ j = 3 ∨ j = 4 ∨ j = 5 ∨ j = 6 ∨ j = 7 := by omega
    rcases this with rfl | rfl | rfl | rfl | rfl | rfl | rfl | rfl <;> simp [go_sem]
  have HB := Lib.hid (below_cells (a := w) w.heap.size (Nat.le_refl _) kcs.toList 0 _ ((Below.refl _ _).alloc (Nat.le_refl _) (.cells #[.int .i64 0, .nilFunc, .int .i64 0, .nilFunc, .int .i64 0, .nilFunc, .int .i64 0, .nilFunc] 100)))
  go_enter Tryz.func89, Tryz.ntmps89
  go_wp2_with (((refine wpList_store_mid (rest := []) rfl 100 (.tmp 0) (.tmp 5) rfl w.heap.size 0 ?cc ?hx ?hy ?ht ?hi ?h1 ?hh); case hy => exact rfl); (case hx => exact rfl); (case ht => exact ht); (case hi => kernel_rfl); (case h1 => simp [Value.oneCell']))
  exact bodyPost_ret (fin_ret _ w.heap.size _ kcs (by rfl) ht rfl) rfl ⟨rfl, HB.out⟩
end Go.Proofs.YtpmmilnoeoapoaaGreatDoor.Bd
