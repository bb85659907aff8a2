/-
  Room is shared to the unit; free of the program.
-/
import Derived.Test.YtaofilinejanjaaRoomP18
namespace Go.Proofs.Ytaofilinejanjaa
open Go.ChangeShapes Go.WideShapes Go.ChangeAt Go.RowKit

set_option maxRecDepth 100000
set_option linter.unusedVariables false

theorem sum_set : ∀ (l : List Int) (k : Nat) (x y : Int), l[k]? = some x → (l.set k y).sum = l.sum - x + y
  | [], k, x, y, h => by simp at h
  | a :: l, 0, x, y, h => by
    simp at h
    subst h
    simp
    omega
  | a :: l, k + 1, x, y, h => by
    have := sum_set l k x y (by simpa using h)
    simp only [List.set_cons_succ, List.sum_cons, this]
    omega
theorem bump_sum {l : List Int} {i : Int} (h : 0 ≤ i ∧ i < (l.length : Int)) : (bump l i).sum = l.sum + 1 := by
  obtain ⟨x, hx⟩ : ∃ x, l[i.toNat]? = some x := ⟨_, List.getElem?_eq_getElem (by omega)⟩
  unfold bump
  rw [sum_set l i.toNat x _ hx, hx]
  simp
  omega
theorem bumpL_sum : ∀ (is l : List Int), (∀ i ∈ is, 0 ≤ i ∧ i < (l.length : Int)) → (bumpL l is).sum = l.sum + (is.length : Int)
  | [], l, _ => by simp [bumpL]
  | i :: is, l, h => by
    show (bumpL (bump l i) is).sum = _
    rw [bumpL_sum is (bump l i) (fun j hj => by rw [bump_len]; exact h j (List.mem_cons_of_mem _ hj)), bump_sum (h i (List.mem_cons_self ..)), List.length_cons]
    omega
theorem bas_sum (left gs : Int) : ∀ (least grow : List Int), grow.length = least.length → (basL left gs least grow).sum = least.sum + (shrL left gs grow).sum
  | [], [], _ => by simp [basL, shrL]
  | [], _ :: _, h => by simp at h
  | _ :: _, [], h => by simp at h
  | a :: l, p :: g, h => by
    have := bas_sum left gs l g (by simpa using h)
    simp only [basL, shrL, List.zipWith_cons_cons, List.map_cons, List.sum_cons] at *
    omega
theorem shA_sum {room : Int} {least grow : List Int} (h : RoomOk room least grow) : (0 < grow.sum ∧ least.sum < room → (shA room least grow).sum = room) ∧ (grow.sum = 0 ∨ room ≤ least.sum → shA room least grow = least) := by
  refine ⟨fun hc => ?_, fun hc => if_pos (by omega)⟩
  have hl := h.2.2.1
  have hn : 0 < grow.length := by
    cases grow with
    | nil => simp at hc
    | cons a l => simp
  have ho := over_bd (room - least.sum) grow hc.1 hn
  unfold shA
  rw [if_neg (by omega), bumpL_sum, bas_sum _ _ _ _ hl, List.length_take, ordD_len]
  · omega
  · intro i hi
    rw [bas_len hl, ← hl]
    exact pl_rng _ i ((ordD_perm _ _).mem_iff.1 (List.mem_of_mem_take hi))
theorem bump_ge {l : List Int} {i : Int} {k : Nat} {x y : Int} (h1 : l[k]? = some x) (h2 : (bump l i)[k]? = some y) : x ≤ y := by
  unfold bump at h2
  rw [List.getElem?_set] at h2
  split at h2
  · rename_i e
    split at h2
    · simp only [Option.some.injEq] at h2
      rw [e, h1] at h2
      simp at h2
      omega
    · cases h2
  · rw [h1] at h2
    cases h2
    exact Int.le_refl _
theorem bumpL_ge : ∀ (is : List Int) {l : List Int} {k : Nat} {x y : Int}, l[k]? = some x → (bumpL l is)[k]? = some y → x ≤ y
  | [], l, k, x, y, h1, h2 => by
    have h2 : l[k]? = some y := h2
    rw [h1] at h2
    cases h2
    exact Int.le_refl _
  | i :: is, l, k, x, y, h1, h2 => by
    have hk := (List.getElem?_eq_some_iff.1 h1).1
    obtain ⟨z, hz⟩ : ∃ z, (bump l i)[k]? = some z := ⟨_, List.getElem?_eq_getElem (by rw [bump_len]; exact hk)⟩
    have a := bump_ge h1 hz
    have b := bumpL_ge is (l := bump l i) hz h2
    omega
theorem shA_ge {room : Int} {least grow : List Int} (h : RoomOk room least grow) {k : Nat} {a s : Int} (h1 : least[k]? = some a) (h2 : (shA room least grow)[k]? = some s) : a ≤ s := by
  unfold shA at h2
  split at h2
  · rw [h1] at h2
    cases h2
    exact Int.le_refl _
  · rename_i hc
    have hk := (List.getElem?_eq_some_iff.1 h1).1
    obtain ⟨p, hp⟩ : ∃ p, grow[k]? = some p := ⟨_, List.getElem?_eq_getElem (by rw [h.2.2.1]; exact hk)⟩
    have hb := bas_get (left := room - least.sum) (gs := grow.sum) h1 hp
    have hg := bumpL_ge _ hb h2
    have hp2 := h.2.2.2.2 p (List.mem_of_getElem? hp)
    have hs := sum_bd (l := grow) (B := 1000) grow.length h.2.2.2.2 rfl
    have := Int.ediv_nonneg (Int.mul_nonneg (show 0 ≤ room - least.sum by omega) hp2.1) hs.1
    omega

end Go.Proofs.Ytaofilinejanjaa
