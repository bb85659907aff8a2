/-
  What good rules and fields are.
-/
import Derived.Test.YtopakblckajdmaaRows
import Derived.Test.YtopakblckajdmaaRulesF
import Derived.Test.YtopakblckajdmaaFieldF
import Derived.Handy
namespace Go.Proofs.Ytopakblckajdmaa
open Go.ChangeShapes Go.WideShapes Go.ChangeAt Go.RowKit

noncomputable def dec (P : Prop) : Bool := @decide P (Classical.propDecidable P)
theorem dec_yes {P : Prop} (h : P) : dec P = true := by unfold dec; exact @decide_eq_true P (Classical.propDecidable P) h
theorem dec_no {P : Prop} (h : ¬ P) : dec P = false := by unfold dec; exact @decide_eq_false P (Classical.propDecidable P) h
theorem of_dec {P : Prop} (h : dec P = true) : P := by unfold dec at h; exact @of_decide_eq_true P (Classical.propDecidable P) h
theorem of_dec_no {P : Prop} (h : dec P = false) : ¬ P := by unfold dec at h; exact @of_decide_eq_false P (Classical.propDecidable P) h
theorem dec_and (P Q : Prop) : dec (P ∧ Q) = (dec P && dec Q) := by
  by_cases h1 : P <;> by_cases h2 : Q
  · rw [dec_yes h1, dec_yes h2, dec_yes ⟨h1, h2⟩]; rfl
  · rw [dec_yes h1, dec_no h2, dec_no (fun h => h2 h.2)]; rfl
  · rw [dec_no h1, dec_no (fun h => h1 h.1)]; rfl
  · rw [dec_no h1, dec_no (fun h => h1 h.1)]; rfl
/-- One of a list of rising sorts. -/
def SortAt (s : Int) (l : List Int) (i : Nat) : Prop := ∀ p, l[i]? = some p → 0 ≤ p ∧ p < s ∧ ∀ q, i ≠ 0 → l[i - 1]? = some q → q < p
def RiseP (s : Int) (l : List Int) : Prop := ∀ i, i < l.length → SortAt s l i
def ListsP (s : Int) (fs : List (List Int)) : Prop := (fs.length : Int) = s ∧ ∀ i, i < fs.length → ∀ l, fs[i]? = some l → RiseP s l
def RulesP (c : RulesD) : Prop := (1 ≤ c.1 ∧ c.1 ≤ 6) ∧ ListsP c.1 c.2.1 ∧ ListsP c.1 c.2.2
def TilesP (s : Int) (l : List Int) : Prop := ∀ i, i < l.length → ∀ p, l[i]? = some p → -1 ≤ p ∧ p < s
def FieldP (s : Int) (c : FieldD) : Prop := (1 ≤ c.1 ∧ c.1 ≤ 6) ∧ (1 ≤ c.2.1 ∧ c.2.1 ≤ 6) ∧ (c.2.2.length : Int) = c.1 * c.2.1 ∧ TilesP s c.2.2
theorem mul_in {x y m k : Int} (h1 : 1 ≤ x) (h2 : x ≤ m) (h3 : 1 ≤ y) (h4 : y ≤ k) : 1 ≤ x * y ∧ x * y ≤ m * k := by
  have e1 : 1 * 1 ≤ x * y := Int.mul_le_mul h1 h3 (by omega) (by omega)
  have e2 : x * y ≤ m * k := Int.mul_le_mul h2 h4 (by omega) (by omega)
  omega

set_option maxRecDepth 100000
set_option linter.unusedVariables false
theorem ret_bool {a b : Bool} (h : a = b) : Ending.returned (.bool a) = .returned (.bool b) := by rw [h]

theorem sIn (x lo hi : Int) (w : World) : Calls Try.prog 52 #[.int .i64 x, .int .i64 lo, .int .i64 hi] w fun e w' => e = .returned (.bool (decide (lo ≤ x ∧ x ≤ hi))) ∧ w' = w := by
  go_enter Try.func52, Try.ntmps52
  go_wp2
  all_goals
    go_ret
    exact ⟨ret_bool (by first | (rw [Bool.eq_iff_iff]; simp; omega) | (simp; omega)), rfl⟩

theorem iedge (x : Int) (w : World) : Calls Try.prog 76 #[.int .i64 x] w fun e w' => e = .returned (.bool (decide (1 ≤ x ∧ x ≤ 6))) ∧ w' = w := by
  go_enter Try.func76, Try.ntmps76
  go_wp2
  all_goals
    go_ret
    exact ⟨ret_bool (by first | (rw [Bool.eq_iff_iff]; simp; omega) | (simp; omega)), rfl⟩

theorem isort (x s : Int) (w : World) : Calls Try.prog 64 #[.int .i64 x, .int .i64 s] w fun e w' => e = .returned (.bool (decide (0 ≤ x ∧ x < s))) ∧ w' = w := by
  go_enter Try.func64, Try.ntmps64
  go_wp2
  all_goals
    go_ret
    exact ⟨ret_bool (by first | (rw [Bool.eq_iff_iff]; simp; omega) | (simp; omega)), rfl⟩

set_option maxHeartbeats 4000000 in
theorem irise (s : Int) (l : List Int) (ao : Option Addr) (cap : Nat) (w : World) (hv : NumAt w (.slice ao l.length cap) l) (hn : l.length ≤ 9000000000000000000) :
    Calls Try.prog 75 #[.slice ao l.length cap, .int .i64 s] w fun e w' => e = .returned (.bool (dec (RiseP s l))) ∧ Kept w w' := by
  go_enter Try.func75, Try.ntmps75
  go_wp2
  go_loopw [5, 10] (fun la i wr => ∃ (k : Nat) (y : Int), k ≤ l.length ∧ i = .int .i64 k ∧ la = .int .i64 y ∧ Hid (-1 ≤ y ∧ (k = 0 → y = -1) ∧ (k ≠ 0 → l[k - 1]? = some y) ∧ ∀ j, j < k → SortAt s l j) ∧ Kept w wr) (fun la i _ => l.length - (intOf i).toNat)
  case atStart => exact ⟨0, -1, by omega, rfl, rfl, ⟨by omega, fun _ => rfl, fun h => absurd rfl h, fun j hj => by omega⟩, But.refl _ _ _⟩
  case round =>
    obtain ⟨k, y, hk, rfl, rfl, HB, hkp⟩ := hrel
    by_cases hlt : k < l.length
    · obtain ⟨p, hp⟩ : ∃ p, l[k]? = some p := ⟨_, List.getElem?_eq_getElem hlt⟩
      obtain ⟨g, o, cap1, ee, c0⟩ := num_get (hv.kept hkp) hp
      cases ee
      have HK : Hid _ := hkp
      have HP : Hid (l[k]? = some p) := hp
      clear hkp hp hv
      by_cases h1 : p ≤ y
      · repeat (first | go_values | go_skip | go_guarded | go_step | go_upon)
        go_ret
        refine ⟨ret_bool (dec_no fun h => ?_).symm, HK.out⟩
        obtain ⟨b1, b2, b3, b4⟩ := HB.out
        obtain ⟨z1, z2, z3⟩ := h k hlt p HP.out
        by_cases hk0 : k = 0
        · have := b2 hk0; omega
        · have := z3 y hk0 (b3 hk0); omega
      · by_cases h2 : s ≤ p
        · repeat (first | go_values | go_skip | go_guarded | go_step | go_upon)
          go_ret
          refine ⟨ret_bool (dec_no fun h => ?_).symm, HK.out⟩
          obtain ⟨z1, z2, z3⟩ := h k hlt p HP.out
          omega
        · repeat (first | go_values | go_skip | go_guarded | go_step | go_upon)
          refine ⟨⟨k + 1, p, hlt, by go_num, rfl, ?_, HK.out⟩, by simp [intOf]; omega⟩
          obtain ⟨b1, b2, b3, b4⟩ := HB.out
          refine ⟨by omega, by omega, fun _ => HP.out, fun j hj => ?_⟩
          by_cases hjk : j = k
          · subst hjk
            intro p' hp'
            rw [HP.out] at hp'
            cases hp'
            refine ⟨by omega, by omega, fun q hq hq' => ?_⟩
            rw [b3 hq] at hq'
            cases hq'
            omega
          · exact b4 j (by omega)
    · have hke : k = l.length := by omega
      subst hke
      have HKP : Hid _ := hkp
      clear hkp
      go_wp2
      go_ret
      exact ⟨ret_bool (dec_yes HB.out.2.2.2).symm, HKP.out⟩

set_option maxHeartbeats 4000000 in
theorem ilists (s : Int) (fs : List (List Int)) (ao : Option Addr) (cap : Nat) (w : World) (hv : LLAt w (.slice ao fs.length cap) fs) (hn : fs.length ≤ 9000000000000000000) (hm : ∀ p ∈ fs, p.length ≤ 9000000000000000000) :
    Calls Try.prog 54 #[.slice ao fs.length cap, .int .i64 s] w fun e w' => e = .returned (.bool (dec (ListsP s fs))) ∧ Kept w w' := by
  by_cases hs : (fs.length : Int) = s
  · have d0 : decide (¬ (fs.length : Int) = s) = false := by simp; omega
    subst hs
    go_enter Try.func54, Try.ntmps54
    go_wp2
    clear d0
    go_loopw [13] (fun i wr => ∃ k : Nat, k ≤ fs.length ∧ i = .int .i64 k ∧ Hid (∀ j, j < k → ∀ l, fs[j]? = some l → RiseP fs.length l) ∧ Kept w wr) (fun i _ => fs.length - (intOf i).toNat)
    case atStart => exact ⟨0, by omega, rfl, fun j hj => by omega, But.refl _ _ _⟩
    case round =>
      obtain ⟨k, hk, rfl, HB, hkp⟩ := hrel
      by_cases hlt : k < fs.length
      · obtain ⟨p, hp⟩ : ∃ p, fs[k]? = some p := ⟨_, List.getElem?_eq_getElem hlt⟩
        obtain ⟨g, o, cap1, u, ee, c0, ha⟩ := lL_get (hv.kept hkp) hp
        cases ee
        obtain ⟨a3, c3, hsl⟩ := row_nil ha
        subst hsl
        have hpl := hm p (List.mem_of_getElem? hp)
        have HK : Hid _ := hkp
        have HP : Hid (fs[k]? = some p) := hp
        have HA : Hid (NumAt wr (.slice a3 p.length c3) p) := ha
        clear hkp hp hv ha
        cases q : dec (RiseP (fs.length : Int) p) with
        | false =>
          repeat (first | (go_at_call 75; refine (irise (fs.length : Int) p _ _ _ HA.out hpl).mono ?_; rintro e u1 ⟨rfl, k1⟩; rw [q]; dsimp only) | go_values | go_skip | go_guarded | go_step | go_upon)
          go_ret
          exact ⟨ret_bool (dec_no fun h => of_dec_no q (h.2 k hlt p HP.out)).symm, HK.out.trans k1⟩
        | true =>
          repeat (first | (go_at_call 75; refine (irise (fs.length : Int) p _ _ _ HA.out hpl).mono ?_; rintro e u1 ⟨rfl, k1⟩; rw [q]; dsimp only) | go_values | go_skip | go_guarded | go_step | go_upon)
          refine ⟨⟨k + 1, hlt, by go_num, ?_, HK.out.trans k1⟩, by simp [intOf]; omega⟩
          intro j hj l hl
          by_cases hjk : j = k
          · subst hjk
            rw [HP.out] at hl
            cases hl
            exact of_dec q
          · exact HB.out j (by omega) l hl
      · have hke : k = fs.length := by omega
        subst hke
        have HKP : Hid _ := hkp
        clear hkp
        go_wp2
        go_ret
        exact ⟨ret_bool (dec_yes ⟨rfl, HB.out⟩).symm, HKP.out⟩
  · have d0 : decide (¬ (fs.length : Int) = s) = true := by simp; omega
    rw [dec_no (fun h => hs h.1)]
    go_enter Try.func54, Try.ntmps54
    go_wp2
    go_ret
    exact ⟨rfl, But.refl _ _ _⟩

set_option maxHeartbeats 4000000 in
theorem iare (s : Int) (l : List Int) (ao : Option Addr) (cap : Nat) (w : World) (hv : NumAt w (.slice ao l.length cap) l) (hs : 0 ≤ s) (hn : l.length ≤ 9000000000000000000) :
    Calls Try.prog 67 #[.slice ao l.length cap, .int .i64 s] w fun e w' => e = .returned (.bool (dec (TilesP s l))) ∧ Kept w w' := by
  go_enter Try.func67, Try.ntmps67
  go_wp2
  go_loopw [9] (fun i wr => ∃ k : Nat, k ≤ l.length ∧ i = .int .i64 k ∧ Hid (∀ j, j < k → ∀ p, l[j]? = some p → -1 ≤ p ∧ p < s) ∧ Kept w wr) (fun i _ => l.length - (intOf i).toNat)
  case atStart => exact ⟨0, by omega, rfl, fun j hj => by omega, But.refl _ _ _⟩
  case round =>
    obtain ⟨k, hk, rfl, HB, hkp⟩ := hrel
    by_cases hlt : k < l.length
    · obtain ⟨p, hp⟩ : ∃ p, l[k]? = some p := ⟨_, List.getElem?_eq_getElem hlt⟩
      obtain ⟨g, o, cap1, ee, c0⟩ := num_get (hv.kept hkp) hp
      cases ee
      have HK : Hid _ := hkp
      have HP : Hid (l[k]? = some p) := hp
      clear hkp hp hv
      by_cases h1 : p = -1
      · subst h1
        repeat (first | go_values | go_skip | go_guarded | go_step | go_upon)
        refine ⟨⟨k + 1, hlt, by go_num, ?_, HK.out⟩, by simp [intOf]; omega⟩
        intro j hj l2 hl
        by_cases hjk : j = k
        · subst hjk
          rw [HP.out] at hl
          cases hl
          omega
        · exact HB.out j (by omega) l2 hl
      · have h1' : (p == -1) = false := by simpa using h1
        cases q : decide (0 ≤ p ∧ p < s) with
        | false =>
          repeat (first | (go_at_call 64; refine (isort _ _ _).mono ?_; rintro e u1 ⟨rfl, rfl⟩; rw [q]; dsimp only) | go_values | go_skip | go_guarded | go_step | go_upon)
          go_ret
          refine ⟨ret_bool (dec_no fun h => ?_).symm, HK.out⟩
          have := h k hlt p HP.out
          have := of_decide_eq_false q
          omega
        | true =>
          repeat (first | (go_at_call 64; refine (isort _ _ _).mono ?_; rintro e u1 ⟨rfl, rfl⟩; rw [q]; dsimp only) | go_values | go_skip | go_guarded | go_step | go_upon)
          refine ⟨⟨k + 1, hlt, by go_num, ?_, HK.out⟩, by simp [intOf]; omega⟩
          intro j hj l2 hl
          by_cases hjk : j = k
          · subst hjk
            rw [HP.out] at hl
            cases hl
            have := of_decide_eq_true q
            omega
          · exact HB.out j (by omega) l2 hl
    · have hke : k = l.length := by omega
      subst hke
      have HKP : Hid _ := hkp
      clear hkp
      go_wp2
      go_ret
      exact ⟨ret_bool (dec_yes HB.out).symm, HKP.out⟩

end Go.Proofs.Ytopakblckajdmaa
