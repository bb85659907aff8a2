/-
  What could stand at a place.
-/
import Derived.Test.YtopakblckajdmaaGoodFi14
namespace Go.Proofs.Ytopakblckajdmaa
open Go.ChangeShapes Go.WideShapes Go.ChangeAt Go.RowKit

/-- The tile of a column and a row, m where there is no such place. -/
def tileA (f : FieldD) (x y m : Int) : Int := if 0 ≤ x ∧ x < f.1 ∧ 0 ≤ y ∧ y < f.2.1 then f.2.2.getD (y * f.1 + x).toNat 0 else m
/-- b may stand behind a. -/
def Fol (fs : List (List Int)) (a b : Int) : Prop := a = -1 ∨ b = -1 ∨ b ∈ fs.getD a.toNat []
def FitQ (r : RulesD) (f : FieldD) (x y t : Int) : Prop :=
  Fol r.2.1 (tileA f (x - 1) y (-1)) t ∧ Fol r.2.1 t (tileA f (x + 1) y (-1)) ∧ Fol r.2.2 (tileA f x (y - 1) (-1)) t ∧ Fol r.2.2 t (tileA f x (y + 1) (-1))
/-- t could stand at a place. -/
def FitP (r : RulesD) (f : FieldD) (n t : Int) : Prop := FitQ r f (n % f.1) (n / f.1) t
theorem tile_out {f : FieldD} {x y m : Int} (h : ¬ (0 ≤ x ∧ x < f.1 ∧ 0 ≤ y ∧ y < f.2.1)) : tileA f x y m = m := by unfold tileA; rw [if_neg h]
theorem tile_in {f : FieldD} {s x y : Int} (hF : FieldP s f) (h : 0 ≤ x ∧ x < f.1 ∧ 0 ≤ y ∧ y < f.2.1) :
    ∃ (i : Nat) (p : Int), y * f.1 + x = (i : Int) ∧ i < f.2.2.length ∧ f.2.2[i]? = some p ∧ (∀ m, tileA f x y m = p) ∧ -1 ≤ p ∧ p < s := by
  obtain ⟨h1, h2, h3, h4⟩ := hF
  have e1 : 0 ≤ y * f.1 := Int.mul_nonneg h.2.2.1 (by omega)
  have e2 : (y + 1) * f.1 ≤ f.2.1 * f.1 := Int.mul_le_mul_of_nonneg_right (by omega) (by omega)
  rw [Int.add_mul, Int.one_mul, Int.mul_comm f.2.1] at e2
  have hl : (y * f.1 + x).toNat < f.2.2.length := by omega
  have hp := h4 _ hl _ (List.getElem?_eq_getElem hl)
  refine ⟨(y * f.1 + x).toNat, f.2.2[(y * f.1 + x).toNat], by omega, hl, List.getElem?_eq_getElem hl, fun m => ?_, hp.1, hp.2⟩
  unfold tileA
  rw [if_pos h, List.getD_eq_getElem?_getD, List.getElem?_eq_getElem hl]
  rfl
theorem tile_bd {f : FieldD} {s : Int} (hF : FieldP s f) (x y : Int) (hs : 0 ≤ s) : -1 ≤ tileA f x y (-1) ∧ tileA f x y (-1) < s := by
  by_cases h : 0 ≤ x ∧ x < f.1 ∧ 0 ≤ y ∧ y < f.2.1
  · obtain ⟨i, p, -, -, -, e, h1, h2⟩ := tile_in hF h
    rw [e]
    exact ⟨h1, h2⟩
  · rw [tile_out h]
    omega
/-- A place's column and row. -/
theorem place_xy {f : FieldD} {s n : Int} (hF : FieldP s f) (h0 : 0 ≤ n) (h1 : n < f.2.2.length) : 0 ≤ n % f.1 ∧ n % f.1 < f.1 ∧ 0 ≤ n / f.1 ∧ n / f.1 < f.2.1 ∧ n / f.1 * f.1 + n % f.1 = n := by
  obtain ⟨g1, g2, g3, g4⟩ := hF
  have e0 : n / f.1 * f.1 + n % f.1 = n := by rw [Int.mul_comm]; exact Int.mul_ediv_add_emod n f.1
  refine ⟨Int.emod_nonneg _ (by omega), Int.emod_lt_of_pos _ (by omega), Int.ediv_nonneg h0 (by omega), ?_, e0⟩
  refine Int.ediv_lt_of_lt_mul (by omega) ?_
  rw [Int.mul_comm, ← g3]
  exact h1
theorem list_in {s : Int} {fs : List (List Int)} (h : ListsP s fs) {a : Int} (h0 : 0 ≤ a) (h1 : a < s) : ∃ (k : Nat) (l : List Int), a = (k : Int) ∧ fs[k]? = some l ∧ k < fs.length ∧ fs.getD a.toNat [] = l := by
  have hl : a.toNat < fs.length := by have := h.1; omega
  exact ⟨a.toNat, fs[a.toNat], by omega, List.getElem?_eq_getElem hl, hl, by rw [List.getD_eq_getElem?_getD, List.getElem?_eq_getElem hl]; rfl⟩
theorem rise_len {s : Int} {l : List Int} (h : RiseP s l) (hs : s ≤ 6) : l.length ≤ 6 := by
  have hi : ∀ i : Nat, ∀ p : Int, l[i]? = some p → (i : Int) ≤ p := by
    intro i
    induction i with
    | zero => intro p hp; exact (h 0 (List.getElem?_eq_some_iff.1 hp).1 p hp).1
    | succ i ih =>
      intro p hp
      have hl := (List.getElem?_eq_some_iff.1 hp).1
      have hq : l[i]? = some l[i] := List.getElem?_eq_getElem (by omega)
      have h1 := ih _ hq
      have h2 := (h (i + 1) hl p hp).2.2 _ (by omega) hq
      omega
  by_cases hz : l.length = 0
  · omega
  · have hq : l[l.length - 1]? = some (l[l.length - 1]'(by omega)) := List.getElem?_eq_getElem (by omega)
    have h1 := hi _ _ hq
    have h2 := (h _ (by omega) _ hq).2.1
    omega

set_option maxRecDepth 100000
set_option linter.unusedVariables false
theorem no_mem {l : List Int} {n : Int} (h : ∀ j : Nat, j < l.length → l[j]? ≠ some n) : n ∉ l := fun hm => by
  obtain ⟨i, hi⟩ := List.mem_iff_getElem?.1 hm
  exact h i (List.getElem?_eq_some_iff.1 hi).1 hi

set_option maxHeartbeats 4000000 in
theorem sin (l : List Int) (n : Int) (ao : Option Addr) (cap : Nat) (w : World) (hv : NumAt w (.slice ao l.length cap) l) (hn : l.length ≤ 9000000000000000000) :
    Calls Try.prog 74 #[.slice ao l.length cap, .int .i64 n] w fun e w' => e = .returned (.bool (dec (n ∈ l))) ∧ w' = w := by
  go_enter Try.func74, Try.ntmps74
  go_wp2
  go_loopw [9] (fun i wr => ∃ k : Nat, k ≤ l.length ∧ i = .int .i64 k ∧ Hid (∀ j : Nat, j < k → l[j]? ≠ some n) ∧ w = wr) (fun i _ => l.length - (intOf i).toNat)
  case atStart => exact ⟨0, by omega, rfl, fun j hj => by omega, rfl⟩
  case round =>
    obtain ⟨k, hk, rfl, HB, rfl⟩ := hrel
    by_cases hlt : k < l.length
    · obtain ⟨p, hp⟩ : ∃ p : Int, l[k]? = some p := ⟨_, List.getElem?_eq_getElem hlt⟩
      obtain ⟨g, o, cap1, ee, c0⟩ := num_get hv hp
      cases ee
      have HP : Hid (l[k]? = some p) := hp
      clear hp hv
      by_cases h1 : n = p
      · subst h1
        repeat (first | go_values | go_skip | go_guarded | go_step | go_upon)
        go_ret
        exact ⟨ret_bool (dec_yes (List.mem_of_getElem? HP.out)).symm, rfl⟩
      · have h1' : (p == n) = false := by simp; omega
        have h1'' : (n == p) = false := by simp; omega
        repeat (first | go_values | go_skip | go_guarded | go_step | go_upon)
        refine ⟨⟨k + 1, hlt, by go_num, ?_, by first | rfl | trivial⟩, by simp [intOf]; omega⟩
        intro j hj
        by_cases hjk : j = k
        · subst hjk
          rw [HP.out]
          intro he
          cases he
          exact h1 rfl
        · exact HB.out j (by omega)
    · have hke : k = l.length := by omega
      subst hke
      go_wp2
      go_ret
      exact ⟨ret_bool (dec_no (no_mem HB.out)).symm, rfl⟩

set_option maxHeartbeats 4000000 in
theorem iidx (l : List Int) (n : Int) (ao : Option Addr) (cap : Nat) (w : World) (hv : NumAt w (.slice ao l.length cap) l) (hn : l.length ≤ 9000000000000000000) :
    Calls Try.prog 84 #[.slice ao l.length cap, .int .i64 n] w fun e w' => ∃ i : Int, e = .returned (.int .i64 i) ∧ (0 ≤ i ↔ n ∈ l) ∧ w' = w := by
  go_enter Try.func84, Try.ntmps84
  go_wp2
  go_loopw [8] (fun i wr => ∃ k : Nat, k ≤ l.length ∧ i = .int .i64 k ∧ Hid (∀ j : Nat, j < k → l[j]? ≠ some n) ∧ w = wr) (fun i _ => l.length - (intOf i).toNat)
  case atStart => exact ⟨0, by omega, rfl, fun j hj => by omega, rfl⟩
  case round =>
    obtain ⟨k, hk, rfl, HB, rfl⟩ := hrel
    by_cases hlt : k < l.length
    · obtain ⟨p, hp⟩ : ∃ p : Int, l[k]? = some p := ⟨_, List.getElem?_eq_getElem hlt⟩
      obtain ⟨g, o, cap1, ee, c0⟩ := num_get hv hp
      cases ee
      have HP : Hid (l[k]? = some p) := hp
      clear hp hv
      by_cases h1 : n = p
      · subst h1
        repeat (first | go_values | go_skip | go_guarded | go_step | go_upon)
        go_ret
        exact ⟨_, rfl, ⟨fun _ => List.mem_of_getElem? HP.out, fun _ => by omega⟩, rfl⟩
      · have h1' : (p == n) = false := by simp; omega
        have h1'' : (n == p) = false := by simp; omega
        repeat (first | go_values | go_skip | go_guarded | go_step | go_upon)
        refine ⟨⟨k + 1, hlt, by go_num, ?_, by first | rfl | trivial⟩, by simp [intOf]; omega⟩
        intro j hj
        by_cases hjk : j = k
        · subst hjk
          rw [HP.out]
          intro he
          cases he
          exact h1 rfl
        · exact HB.out j (by omega)
    · have hke : k = l.length := by omega
      subst hke
      go_wp2
      go_ret
      exact ⟨_, rfl, ⟨fun h => by omega, fun h => absurd h (no_mem HB.out)⟩, rfl⟩

theorem icon (l : List Int) (n : Int) (ao : Option Addr) (cap : Nat) (w : World) (hv : NumAt w (.slice ao l.length cap) l) (hn : l.length ≤ 9000000000000000000) :
    Calls Try.prog 82 #[.slice ao l.length cap, .int .i64 n] w fun e w' => e = .returned (.bool (dec (n ∈ l))) ∧ w' = w := by
  go_enter Try.func82, Try.ntmps82
  repeat (first | go_values | go_skip | go_guarded | go_step | go_upon)
  go_at_call 84
  refine (iidx l n _ _ _ hv hn).mono ?_
  rintro e w1 ⟨i, rfl, hi, rfl⟩
  have HI : Hid (0 ≤ i ↔ n ∈ l) := hi
  clear hi
  dsimp only
  repeat (first | go_values | go_skip | go_guarded | go_step | go_upon)
  go_ret
  refine ⟨ret_bool ?_, rfl⟩
  by_cases h : n ∈ l
  · rw [dec_yes h]; simp; exact HI.out.2 h
  · rw [dec_no h]; simp; exact Int.not_le.1 fun x => h (HI.out.1 x)

end Go.Proofs.Ytopakblckajdmaa
