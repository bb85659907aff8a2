/-
  Stores that are good, as plain data; small tests and sums of sizes.
-/
import Derived.Test.YtipgffikmnebnaaStore
import Derived.Test.YtipgffikmnebnaaName
import Derived.Test.YtipgffikmnebnaaLess
import Derived.Test.YtipgffikmnebnaaQuiet
namespace Go.Proofs.Ytipgffikmnebnaa
open Go.ChangeShapes Go.WideShapes Go.ChangeAt Go.RowKit

set_option maxRecDepth 100000
set_option linter.unusedVariables false
set_option linter.unusedSimpArgs false

theorem ret_boolG {a b : Bool} (h : a = b) : Ending.returned (.bool a) = .returned (.bool b) := by rw [h]
theorem ret_intG {a b : Int} (h : a = b) : Ending.returned (.int .i64 a) = .returned (.int .i64 b) := by rw [h]
theorem all_more {P : Nat → Prop} {k : Nat} (h : ∀ j, j < k → P j) (hk : P k) : ∀ j, j < k + 1 → P j := fun j hj => by
  by_cases e : j = k
  · subst e; exact hk
  · exact h j (by omega)
theorem name_pos {s : ByteArray} (h : nameB s = true) : 1 ≤ s.size := ((nameB_iff s).1 h).1
abbrev ResP (ck : Int) (r : ResidentD) : Prop := nameB r.1 = true ∧ (1 ≤ r.2.1 ∧ r.2.1 ≤ 100000) ∧ (0 ≤ r.2.2.1 ∧ r.2.2.1 ≤ 1000) ∧ (0 ≤ r.2.2.2 ∧ r.2.2.2 ≤ ck)
def alikeB (l : List ResidentD) (u : Int) : Bool := decide (u ≠ 0) && l.any fun q => q.2.2.2 == u
def beforeB (l : List ResidentD) (j : Nat) (s : ByteArray) : Bool := match j with
  | 0 => true
  | j' + 1 => match l[j']? with
    | none => true
    | some q => Op.bytesLess q.1.toList s.toList
def rowB (ck : Int) (l : List ResidentD) (j : Nat) : Bool := match l[j]? with
  | none => true
  | some d => decide (ResP ck d) && beforeB l j d.1 && !alikeB (l.take j) d.2.2.2
def sizesL (l : List ResidentD) : Int := (l.map fun r => r.2.1).sum
def storeB (c : StoreD) : Bool := decide (1 ≤ c.1 ∧ c.1 ≤ 100000) && decide (0 ≤ c.2.1 ∧ c.2.1 ≤ 100000) && decide (c.2.2.length ≤ 30) && (List.range c.2.2.length).all (rowB c.2.1 c.2.2) && decide (sizesL c.2.2 ≤ c.1)
theorem row_eq {ck : Int} {l : List ResidentD} {j : Nat} {d : ResidentD} (h : l[j]? = some d) : rowB ck l j = (decide (ResP ck d) && beforeB l j d.1 && !alikeB (l.take j) d.2.2.2) := by
  unfold rowB
  rw [h]
theorem store_no1 {c : StoreD} (h : ¬ (1 ≤ c.1 ∧ c.1 ≤ 100000)) : storeB c = false := by
  unfold storeB
  rw [decide_eq_false h]
  rfl
theorem store_no2 {c : StoreD} (h : ¬ (0 ≤ c.2.1 ∧ c.2.1 ≤ 100000)) : storeB c = false := by
  unfold storeB
  rw [decide_eq_false h]
  simp
theorem store_no3 {c : StoreD} (h : ¬ c.2.2.length ≤ 30) : storeB c = false := by
  unfold storeB
  rw [decide_eq_false h]
  simp
theorem store_no4 {c : StoreD} {j : Nat} (hj : j < c.2.2.length) (h : rowB c.2.1 c.2.2 j = false) : storeB c = false := by
  unfold storeB
  have : (List.range c.2.2.length).all (rowB c.2.1 c.2.2) = false := by
    rw [List.all_eq_false]
    exact ⟨j, List.mem_range.2 hj, by simp [h]⟩
  rw [this]
  simp
theorem store_no5 {c : StoreD} (h : ¬ sizesL c.2.2 ≤ c.1) : storeB c = false := by
  unfold storeB
  rw [decide_eq_false h]
  simp
theorem store_yes {c : StoreD} (h1 : 1 ≤ c.1 ∧ c.1 ≤ 100000) (h2 : 0 ≤ c.2.1 ∧ c.2.1 ≤ 100000) (h3 : c.2.2.length ≤ 30) (h4 : ∀ j, j < c.2.2.length → rowB c.2.1 c.2.2 j = true) (h5 : sizesL c.2.2 ≤ c.1) : storeB c = true := by
  unfold storeB
  rw [decide_eq_true h1, decide_eq_true h2, decide_eq_true h3, decide_eq_true h5]
  simp only [Bool.true_and, Bool.and_true]
  rw [List.all_eq_true]
  exact fun j hj => h4 j (List.mem_range.1 hj)
theorem store_iff {c : StoreD} : storeB c = true ↔ (1 ≤ c.1 ∧ c.1 ≤ 100000) ∧ (0 ≤ c.2.1 ∧ c.2.1 ≤ 100000) ∧ c.2.2.length ≤ 30 ∧ (∀ j, j < c.2.2.length → rowB c.2.1 c.2.2 j = true) ∧ sizesL c.2.2 ≤ c.1 := by
  constructor
  · intro h
    unfold storeB at h
    simp only [Bool.and_eq_true, decide_eq_true_eq, List.all_eq_true] at h
    obtain ⟨⟨⟨⟨a1, a2⟩, a3⟩, a4⟩, a5⟩ := h
    exact ⟨a1, a2, a3, fun j hj => a4 j (List.mem_range.2 hj), a5⟩
  · rintro ⟨a1, a2, a3, a4, a5⟩
    exact store_yes a1 a2 a3 a4 a5
theorem before_first {l : List ResidentD} {j : Nat} {s : ByteArray} (h : j = 0) : beforeB l j s = true := by subst h; rfl
theorem before_next {l : List ResidentD} {j j' : Nat} {s : ByteArray} {q : ResidentD} (h : j = j' + 1) (hq : l[j']? = some q) : beforeB l j s = Op.bytesLess q.1.toList s.toList := by
  subst h
  simp only [beforeB, hq]
/-- Against the name ahead of it, where that of none is the empty one. -/
theorem before_last {ck : Int} {l : List ResidentD} {k : Nat} {d : ResidentD} {s : ByteArray} (hp : l[k]? = some d) (hn : nameB d.1 = true) (h0 : k = 0 → s = ⟨#[]⟩) (hq : ∀ q, 0 < k → l[k - 1]? = some q → s = q.1) :
    beforeB l k d.1 = true ↔ Op.bytesLess d.1.toList s.toList = false ∧ (d.1.toList == s.toList) = false := by
  by_cases e : k = 0
  · have hs := h0 e
    subst hs
    have h1 : (⟨#[]⟩ : ByteArray).toList = [] := by rw [ByteArray.toList_eq]
    have h2 : Op.bytesLess d.1.toList (⟨#[]⟩ : ByteArray).toList = false := by rw [h1]; cases d.1.toList <;> rfl
    have h3 : (d.1.toList == (⟨#[]⟩ : ByteArray).toList) = false := by
      rw [beq_eq_false_iff_ne]
      intro e2
      have := toList_inj e2
      have h1 := name_pos hn
      rw [this] at h1
      simp [ByteArray.size] at h1
    exact ⟨fun _ => ⟨h2, h3⟩, fun _ => before_first e⟩
  · have hk : k < l.length := (List.getElem?_eq_some_iff.1 hp).1
    obtain ⟨q, hqq⟩ : ∃ q, l[k - 1]? = some q := ⟨_, List.getElem?_eq_getElem (by omega)⟩
    have hs := hq q (by omega) hqq
    subst hs
    rw [before_next (show k = k - 1 + 1 by omega) hqq]
    constructor
    · intro h
      refine ⟨bl_asym _ _ h, ?_⟩
      rw [beq_eq_false_iff_ne]
      intro e2
      rw [e2, bl_irr] at h
      cases h
    · rintro ⟨h1, h2⟩
      exact bl_tri _ _ h1 (by rwa [beq_eq_false_iff_ne] at h2)

theorem sInG (x lo hi : Int) (w : World) : Calls Try.prog 74 #[.int .i64 x, .int .i64 lo, .int .i64 hi] w fun e w' => e = .returned (.bool (decide (lo ≤ x ∧ x ≤ hi))) ∧ w' = w := by
  go_enter Try.func74, Try.ntmps74
  go_wp2
  all_goals
    go_ret
    exact ⟨ret_bool (by first | (rw [Bool.eq_iff_iff]; simp; omega) | (simp; omega)), rfl⟩

theorem ibudget (x : Int) (w : World) : Calls Try.prog 92 #[.int .i64 x] w fun e w' => e = .returned (.bool (decide (1 ≤ x ∧ x ≤ 100000))) ∧ w' = w := by
  go_enter Try.func92, Try.ntmps92
  go_wp2
  all_goals
    go_ret
    exact ⟨ret_bool (by first | (rw [Bool.eq_iff_iff]; simp; omega) | (simp; omega)), rfl⟩

theorem itime (x : Int) (w : World) : Calls Try.prog 93 #[.int .i64 x] w fun e w' => e = .returned (.bool (decide (0 ≤ x ∧ x ≤ 100000))) ∧ w' = w := by
  go_enter Try.func93, Try.ntmps93
  go_wp2
  all_goals
    go_ret
    exact ⟨ret_bool (by first | (rw [Bool.eq_iff_iff]; simp; omega) | (simp; omega)), rfl⟩

set_option maxHeartbeats 4000000 in
theorem ires (f0 : ByteArray) (f1 f2 f3 : Int) (ck : Int) (w : World) (hs : f0.size ≤ 1048576) : Calls Try.prog 94 #[.agg #[.string f0, .int .i64 f1, .int .i64 f2, .int .i64 f3], .int .i64 ck] w fun e w' => e = .returned (.bool (decide (ResP ck (f0, f1, f2, f3)))) ∧ Kept w w' := by
  obtain ⟨R, hR⟩ : ∃ R : Bool, decide (ResP ck (f0, f1, f2, f3)) = R := ⟨_, rfl⟩
  rw [hR]
  have HR : Hid (decide (ResP ck (f0, f1, f2, f3)) = R) := hR
  clear hR
  cases q0 : nameB f0 with
  | false =>
    have hF : R = false := by rw [← HR.out]; exact decide_eq_false (fun hh => by have := hh.1; dsimp only at this; rw [q0] at this; cases this)
    subst hF
    go_enter Try.func94, Try.ntmps94
    repeat (first | (go_at_call 134; refine (iname _ _ hs).mono ?_; rintro e w3 ⟨rfl, hw3⟩; rw [hw3]; clear hw3 w3; rw [q0]; dsimp only) | go_values | go_skip | go_guarded | go_step | go_upon)
    go_ret
    exact ⟨rfl, (But.refl _ _ _).alloc _⟩
  | true =>
    rcases (Decidable.em (1 ≤ f1 ∧ f1 ≤ 100000)).symm with h0 | h0
    · have d0 : decide (1 ≤ f1 ∧ f1 ≤ 100000) = false := decide_eq_false h0
      have hF : R = false := by rw [← HR.out]; exact decide_eq_false (fun hh => h0 (by simp only [ResP] at hh; omega))
      subst hF
      have HX : Hid _ := h0
      clear h0
      go_enter Try.func94, Try.ntmps94
      repeat (first | (go_at_call 134; refine (iname _ _ hs).mono ?_; rintro e w3 ⟨rfl, hw3⟩; rw [hw3]; clear hw3 w3; rw [q0]; dsimp only) | (go_at_call 92; refine (ibudget _ _).mono ?_; rintro e w3 ⟨rfl, hw3⟩; rw [hw3]; clear hw3 w3; rw [d0]; dsimp only) | go_values | go_skip | go_guarded | go_step | go_upon)
      go_ret
      exact ⟨rfl, (But.refl _ _ _).alloc _⟩
    have d0 : decide (1 ≤ f1 ∧ f1 ≤ 100000) = true := decide_eq_true h0
    rcases (Decidable.em (0 ≤ f2)).symm with h1 | h1
    · have d1 : decide (0 ≤ f2) = false := decide_eq_false h1
      have hF : R = false := by rw [← HR.out]; exact decide_eq_false (fun hh => h1 (by simp only [ResP] at hh; omega))
      subst hF
      have HX : Hid _ := h1
      clear h1
      go_enter Try.func94, Try.ntmps94
      repeat (first | (go_at_call 134; refine (iname _ _ hs).mono ?_; rintro e w3 ⟨rfl, hw3⟩; rw [hw3]; clear hw3 w3; rw [q0]; dsimp only) | (go_at_call 92; refine (ibudget _ _).mono ?_; rintro e w3 ⟨rfl, hw3⟩; rw [hw3]; clear hw3 w3; rw [d0]; dsimp only) | go_values | go_skip | go_guarded | go_step | go_upon)
      go_ret
      exact ⟨rfl, (But.refl _ _ _).alloc _⟩
    have d1 : decide (0 ≤ f2) = true := decide_eq_true h1
    rcases (Decidable.em (f2 ≤ 1000)).symm with h2 | h2
    · have d2 : decide (f2 ≤ 1000) = false := decide_eq_false h2
      have hF : R = false := by rw [← HR.out]; exact decide_eq_false (fun hh => h2 (by simp only [ResP] at hh; omega))
      subst hF
      have HX : Hid _ := h2
      clear h2
      go_enter Try.func94, Try.ntmps94
      repeat (first | (go_at_call 134; refine (iname _ _ hs).mono ?_; rintro e w3 ⟨rfl, hw3⟩; rw [hw3]; clear hw3 w3; rw [q0]; dsimp only) | (go_at_call 92; refine (ibudget _ _).mono ?_; rintro e w3 ⟨rfl, hw3⟩; rw [hw3]; clear hw3 w3; rw [d0]; dsimp only) | go_values | go_skip | go_guarded | go_step | go_upon)
      go_ret
      exact ⟨rfl, (But.refl _ _ _).alloc _⟩
    have d2 : decide (f2 ≤ 1000) = true := decide_eq_true h2
    rcases (Decidable.em (0 ≤ f3)).symm with h3 | h3
    · have d3 : decide (0 ≤ f3) = false := decide_eq_false h3
      have hF : R = false := by rw [← HR.out]; exact decide_eq_false (fun hh => h3 (by simp only [ResP] at hh; omega))
      subst hF
      have HX : Hid _ := h3
      clear h3
      go_enter Try.func94, Try.ntmps94
      repeat (first | (go_at_call 134; refine (iname _ _ hs).mono ?_; rintro e w3 ⟨rfl, hw3⟩; rw [hw3]; clear hw3 w3; rw [q0]; dsimp only) | (go_at_call 92; refine (ibudget _ _).mono ?_; rintro e w3 ⟨rfl, hw3⟩; rw [hw3]; clear hw3 w3; rw [d0]; dsimp only) | go_values | go_skip | go_guarded | go_step | go_upon)
      go_ret
      exact ⟨rfl, (But.refl _ _ _).alloc _⟩
    have d3 : decide (0 ≤ f3) = true := decide_eq_true h3
    rcases (Decidable.em (f3 ≤ ck)).symm with h4 | h4
    · have d4 : decide (f3 ≤ ck) = false := decide_eq_false h4
      have hF : R = false := by rw [← HR.out]; exact decide_eq_false (fun hh => h4 (by simp only [ResP] at hh; omega))
      subst hF
      have HX : Hid _ := h4
      clear h4
      go_enter Try.func94, Try.ntmps94
      repeat (first | (go_at_call 134; refine (iname _ _ hs).mono ?_; rintro e w3 ⟨rfl, hw3⟩; rw [hw3]; clear hw3 w3; rw [q0]; dsimp only) | (go_at_call 92; refine (ibudget _ _).mono ?_; rintro e w3 ⟨rfl, hw3⟩; rw [hw3]; clear hw3 w3; rw [d0]; dsimp only) | go_values | go_skip | go_guarded | go_step | go_upon)
      go_ret
      exact ⟨rfl, (But.refl _ _ _).alloc _⟩
    have d4 : decide (f3 ≤ ck) = true := decide_eq_true h4
    have hT : R = true := by rw [← HR.out]; exact decide_eq_true ⟨q0, h0, ⟨h1, h2⟩, h3, h4⟩
    subst hT
    go_enter Try.func94, Try.ntmps94
    repeat (first | (go_at_call 134; refine (iname _ _ hs).mono ?_; rintro e w3 ⟨rfl, hw3⟩; rw [hw3]; clear hw3 w3; rw [q0]; dsimp only) | (go_at_call 92; refine (ibudget _ _).mono ?_; rintro e w3 ⟨rfl, hw3⟩; rw [hw3]; clear hw3 w3; rw [d0]; dsimp only) | go_values | go_skip | go_guarded | go_step | go_upon)
    go_ret
    exact ⟨rfl, (But.refl _ _ _).alloc _⟩

set_option maxHeartbeats 4000000 in
theorem isizes (l : List ResidentD) (v : Value) (w : World) (hr : ResidentAt w v l) (hn : l.length ≤ 30) (hz : ∀ r ∈ l, 1 ≤ r.2.1 ∧ r.2.1 ≤ 100000) :
    Calls Try.prog 96 #[v] w fun e w' => e = .returned (.int .i64 (sizesL l)) ∧ Kept w w' := by
  obtain ⟨ao, cap, hfm⟩ := row_nil hr
  subst hfm
  have HZ : Hid (∀ r ∈ l, 1 ≤ r.2.1 ∧ r.2.1 ≤ 100000) := hz
  clear hz
  go_enter Try.func96, Try.ntmps96
  go_wp2
  go_loopw [3, 8] (fun s i wr => ∃ (k : Nat) (m : Int), k ≤ l.length ∧ i = .int .i64 k ∧ s = .int .i64 m ∧ Hid (sizesL (l.take k) = m) ∧ (0 ≤ m ∧ m ≤ 100000 * k) ∧ Kept w wr) (fun s i _ => l.length - (intOf i).toNat)
  case atStart => exact ⟨0, 0, by omega, rfl, rfl, by show _ = _; simp [sizesL], by omega, But.refl _ _ _⟩
  case round =>
    obtain ⟨k, m, hk, rfl, rfl, HB, hm, hkp⟩ := hrel
    by_cases hlt : k < l.length
    · obtain ⟨p, hp⟩ : ∃ p, l[k]? = some p := ⟨_, List.getElem?_eq_getElem hlt⟩
      obtain ⟨g, o, cap1, ee, c0, c1, c2, c3⟩ := resident_get (hr.kept hkp) hp
      cases ee
      have hp2 := HZ.out p (List.mem_of_getElem? hp)
      have HK : Hid (Kept w wr) := hkp
      have HP : Hid (l[k]? = some p) := hp
      obtain ⟨y0, y1, y2, y3⟩ := p
      dsimp only at c0 c1 c2 c3 hp2
      clear hkp hp hr
      go_wp2
      refine ⟨⟨k + 1, _, hlt, by go_num, rfl, ?_, by omega, HK.out.alloc _⟩, by simp [intOf]; omega⟩
      show sizesL _ = _
      rw [take_snoc HP.out]
      have := HB.out
      simp only [sizesL, List.map_append, List.sum_append] at this ⊢
      rw [this]
      simp
    · have hke : k = l.length := by omega
      subst hke
      have hm2 := HB.out
      rw [List.take_length] at hm2
      have HM : Hid (sizesL l = m) := hm2
      clear hm2 HB
      go_wp2
      go_ret
      exact ⟨ret_intG HM.out.symm, hkp⟩

set_option maxHeartbeats 4000000 in
theorem ssizes (c : StoreD) (v : Value) (w : World) (hv : StoreAt w v c) (hn : c.2.2.length ≤ 30) (hz : ∀ r ∈ c.2.2, 1 ≤ r.2.1 ∧ r.2.1 ≤ 100000) :
    Calls Try.prog 75 #[v] w fun e w' => e = .returned (.int .i64 (sizesL c.2.2)) ∧ Kept w w' := by
  obtain ⟨ao, cap, hfm⟩ := hv.form
  subst hfm
  have hr := hv.row
  have HZ : Hid (∀ r ∈ c.2.2, 1 ≤ r.2.1 ∧ r.2.1 ≤ 100000) := hz
  clear hz
  go_enter Try.func75, Try.ntmps75
  go_wp2
  go_loopw [3, 9] (fun s i wr => ∃ (k : Nat) (m : Int), k ≤ c.2.2.length ∧ i = .int .i64 k ∧ s = .int .i64 m ∧ Hid (sizesL (c.2.2.take k) = m) ∧ (0 ≤ m ∧ m ≤ 100000 * k) ∧ Kept w wr) (fun s i _ => c.2.2.length - (intOf i).toNat)
  case atStart => exact ⟨0, 0, by omega, rfl, rfl, by show _ = _; simp [sizesL], by omega, (But.refl _ _ _).alloc _⟩
  case round =>
    obtain ⟨k, m, hk, rfl, rfl, HB, hm, hkp⟩ := hrel
    by_cases hlt : k < c.2.2.length
    · obtain ⟨p, hp⟩ : ∃ p, c.2.2[k]? = some p := ⟨_, List.getElem?_eq_getElem hlt⟩
      obtain ⟨g, o, cap1, ee, c0, c1, c2, c3⟩ := resident_get (hr.kept hkp) hp
      cases ee
      have hp2 := HZ.out p (List.mem_of_getElem? hp)
      have HK : Hid (Kept w wr) := hkp
      have HP : Hid (c.2.2[k]? = some p) := hp
      obtain ⟨y0, y1, y2, y3⟩ := p
      dsimp only at c0 c1 c2 c3 hp2
      clear hkp hp hr
      go_wp2
      refine ⟨⟨k + 1, _, hlt, by go_num, rfl, ?_, by omega, HK.out.alloc _⟩, by simp [intOf]; omega⟩
      show sizesL _ = _
      rw [take_snoc HP.out]
      have := HB.out
      simp only [sizesL, List.map_append, List.sum_append] at this ⊢
      rw [this]
      simp
    · have hke : k = c.2.2.length := by omega
      subst hke
      have hm2 := HB.out
      rw [List.take_length] at hm2
      have HM : Hid (sizesL c.2.2 = m) := hm2
      clear hm2 HB
      go_wp2
      go_ret
      exact ⟨ret_intG HM.out.symm, hkp⟩

end Go.Proofs.Ytipgffikmnebnaa
