/-
  Quads of a layer, free of the program.
-/
import Derived.Test.YtnfkgnbhdhpnmaaQuad
namespace Go.Proofs.Ytnfkgnbhdhpnmaa
open Go.ChangeShapes Go.WideShapes Go.ChangeAt Go.RowKit

set_option linter.unusedVariables false
/-- The kinds of a layer's faces that lie in no quad yet. -/
abbrev Grid := Nat → Nat → Int
def runW (G : Grid) (u v : Nat) (k : Int) : Nat → Nat → Nat
  | 0, w => w
  | f + 1, w => if G (u + w) v = k then runW G u v k f (w + 1) else w
def rowB (G : Grid) (u y : Nat) (k : Int) (w : Nat) : Bool := (List.range w).all (fun i => G (u + i) y == k)
def runH (G : Grid) (u v : Nat) (k : Int) (w : Nat) : Nat → Nat → Nat
  | 0, h => h
  | f + 1, h => if rowB G u (v + h) k w = true then runH G u v k w f (h + 1) else h
/-- How wide and how high the quad is that begins at a face. -/
def wOf (G : Grid) (u v : Nat) : Nat := runW G u v (G u v) 8 1
def hOf (G : Grid) (u v : Nat) : Nat := runH G u v (G u v) (wOf G u v) 8 1
def cutG (G : Grid) (u v w h : Nat) : Grid := fun x y => if (u ≤ x ∧ x < u + w) ∧ (v ≤ y ∧ y < v + h) then 0 else G x y
def Bd (us vs : Nat) (G : Grid) : Prop := ∀ x y, (us ≤ x ∨ vs ≤ y) → G x y = 0
theorem Bd.cut {us vs : Nat} {G : Grid} (h : Bd us vs G) (u v w hh : Nat) : Bd us vs (cutG G u v w hh) := fun x y hx => by
  unfold cutG
  split
  · rfl
  · exact h x y hx
theorem rowB_iff {G : Grid} {u y : Nat} {k : Int} {w : Nat} : rowB G u y k w = true ↔ ∀ i, i < w → G (u + i) y = k := by
  unfold rowB
  rw [List.all_eq_true]
  constructor
  · intro h i hi
    simpa using h i (List.mem_range.2 hi)
  · intro h i hi
    simpa using h i (List.mem_range.1 hi)
theorem runW_eq {G : Grid} {u v : Nat} {k : Int} {w : Nat} (hs : G (u + w) v ≠ k) : ∀ (f w0 : Nat), w0 ≤ w → w ≤ w0 + f → (∀ i, w0 ≤ i → i < w → G (u + i) v = k) → runW G u v k f w0 = w
  | 0, w0, h1, h2, _ => by unfold runW; omega
  | f + 1, w0, h1, h2, h => by
    unfold runW
    by_cases e : w0 = w
    · subst e; rw [if_neg hs]
    · rw [if_pos (h w0 (Nat.le_refl _) (by omega))]
      exact runW_eq hs f (w0 + 1) (by omega) (by omega) (fun i hi => h i (by omega))
theorem runH_eq {G : Grid} {u v : Nat} {k : Int} {w h : Nat} (hs : rowB G u (v + h) k w = false) : ∀ (f h0 : Nat), h0 ≤ h → h ≤ h0 + f → (∀ i, h0 ≤ i → i < h → rowB G u (v + i) k w = true) → runH G u v k w f h0 = h
  | 0, h0, h1, h2, _ => by unfold runH; omega
  | f + 1, h0, h1, h2, hh => by
    unfold runH
    by_cases e : h0 = h
    · subst e; rw [hs]; rfl
    · rw [if_pos (hh h0 (Nat.le_refl _) (by omega))]
      exact runH_eq hs f (h0 + 1) (by omega) (by omega) (fun i hi => hh i (by omega))
theorem wOf_eq {G : Grid} {u v w : Nat} (h1 : 1 ≤ w) (h2 : w ≤ 8) (h : ∀ i, i < w → G (u + i) v = G u v) (hs : G (u + w) v ≠ G u v) : wOf G u v = w := runW_eq hs 8 1 h1 (by omega) (fun i _ hi => h i hi)
theorem hOf_eq {G : Grid} {u v h : Nat} (h1 : 1 ≤ h) (h2 : h ≤ 8) (hh : ∀ i, 1 ≤ i → i < h → rowB G u (v + i) (G u v) (wOf G u v) = true) (hs : rowB G u (v + h) (G u v) (wOf G u v) = false) : hOf G u v = h := runH_eq hs 8 1 h1 (by omega) hh
/-- The quads of a layer, and what is left, when the first faces have been looked at. -/
def quadAt (way at_ : Nat) (G : Grid) (u v : Nat) : QuadD := ((way : Int), (at_ : Int), (u : Int), (v : Int), (wOf G u v : Int), (hOf G u v : Int), G u v)
def layQ (way at_ us : Nat) (G0 : Grid) : Nat → Grid × List QuadD
  | 0 => (G0, [])
  | k + 1 => if (layQ way at_ us G0 k).1 (k % us) (k / us) = 0 then layQ way at_ us G0 k else (cutG (layQ way at_ us G0 k).1 (k % us) (k / us) (wOf (layQ way at_ us G0 k).1 (k % us) (k / us)) (hOf (layQ way at_ us G0 k).1 (k % us) (k / us)), (layQ way at_ us G0 k).2 ++ [quadAt way at_ (layQ way at_ us G0 k).1 (k % us) (k / us)])
theorem layQ_no {way at_ us : Nat} {G0 : Grid} {k : Nat} (h : (layQ way at_ us G0 k).1 (k % us) (k / us) = 0) : layQ way at_ us G0 (k + 1) = layQ way at_ us G0 k := by
  conv => lhs; unfold layQ
  rw [if_pos h]
theorem layQ_yes {way at_ us : Nat} {G0 : Grid} {k : Nat} (h : (layQ way at_ us G0 k).1 (k % us) (k / us) ≠ 0) : layQ way at_ us G0 (k + 1) = (cutG (layQ way at_ us G0 k).1 (k % us) (k / us) (wOf (layQ way at_ us G0 k).1 (k % us) (k / us)) (hOf (layQ way at_ us G0 k).1 (k % us) (k / us)), (layQ way at_ us G0 k).2 ++ [quadAt way at_ (layQ way at_ us G0 k).1 (k % us) (k / us)]) := by
  conv => lhs; unfold layQ
  rw [if_neg h]
theorem layQ_bd {way at_ us vs : Nat} {G0 : Grid} (h : Bd us vs G0) : ∀ k, Bd us vs (layQ way at_ us G0 k).1
  | 0 => h
  | k + 1 => by
    by_cases e : (layQ way at_ us G0 k).1 (k % us) (k / us) = 0
    · rw [layQ_no e]; exact layQ_bd h k
    · rw [layQ_yes e]; exact (layQ_bd h k).cut _ _ _ _
theorem layQ_len {way at_ us : Nat} {G0 : Grid} : ∀ k, (layQ way at_ us G0 k).2.length ≤ k
  | 0 => Nat.le_refl _
  | k + 1 => by
    have := layQ_len (way := way) (at_ := at_) (us := us) (G0 := G0) k
    by_cases e : (layQ way at_ us G0 k).1 (k % us) (k / us) = 0
    · rw [layQ_no e]; omega
    · rw [layQ_yes e]; simp; omega
/-- A grid as a row. -/
def gridL (us vs : Nat) (G : Grid) : List Int := (List.range (us * vs)).map (fun k => G (k % us) (k / us))
theorem gridL_len (us vs : Nat) (G : Grid) : (gridL us vs G).length = us * vs := by simp [gridL]
theorem gridL_get {us vs : Nat} {G : Grid} {k : Nat} (h : k < us * vs) : (gridL us vs G)[k]? = some (G (k % us) (k / us)) := by simp [gridL, h]
theorem gridL_at {us vs : Nat} {G : Grid} {u v : Nat} (hu : u < us) (hv : v < vs) : (gridL us vs G)[v * us + u]? = some (G u v) ∧ v * us + u < us * vs := by
  have h1 : v * us + u < us * vs := by
    have : (v + 1) * us ≤ vs * us := Nat.mul_le_mul_right us hv
    rw [Nat.add_mul, Nat.mul_comm vs us] at this
    omega
  have hp : 0 < us := by omega
  refine ⟨?_, h1⟩
  rw [gridL_get h1, Nat.add_comm, Nat.add_mul_mod_self_right, Nat.mod_eq_of_lt hu, Nat.add_mul_div_right _ _ hp, Nat.div_eq_of_lt hu, Nat.zero_add]
theorem gridL_ext {us vs : Nat} {G H : Grid} (h : ∀ x y, x < us → y < vs → G x y = H x y) : gridL us vs G = gridL us vs H := by
  unfold gridL
  apply List.map_congr_left
  intro k hk
  have hk := List.mem_range.1 hk
  have hp : 0 < us := by
    rcases Nat.eq_zero_or_pos us with e | e
    · subst e; simp at hk
    · exact e
  exact h _ _ (Nat.mod_lt _ hp) (Nat.div_lt_of_lt_mul hk)
theorem gridL_set {us vs : Nat} {G : Grid} {u v : Nat} {x : Int} (hu : u < us) (hv : v < vs) : (gridL us vs G).set (v * us + u) x = gridL us vs (fun a b => if a = u ∧ b = v then x else G a b) := by
  have h1 := (gridL_at (G := G) hu hv).2
  apply List.ext_getElem?
  intro i
  rw [List.getElem?_set]
  by_cases hi : i < us * vs
  · rw [gridL_get hi, gridL_get hi, gridL_len]
    have hp : 0 < us := by omega
    by_cases e : v * us + u = i
    · subst e
      rw [if_pos rfl, if_pos h1]
      have e1 : (v * us + u) % us = u := by rw [Nat.add_comm, Nat.add_mul_mod_self_right, Nat.mod_eq_of_lt hu]
      have e2 : (v * us + u) / us = v := by rw [Nat.add_comm, Nat.add_mul_div_right _ _ hp, Nat.div_eq_of_lt hu, Nat.zero_add]
      rw [e1, e2, if_pos ⟨rfl, rfl⟩]
    · rw [if_neg e, if_neg]
      rintro ⟨e1, e2⟩
      apply e
      rw [← e1, ← e2, Nat.mul_comm]
      exact Nat.div_add_mod i us
  · rw [List.getElem?_eq_none (by rw [gridL_len]; omega), List.getElem?_eq_none (by rw [gridL_len]; omega), if_neg (by omega)]

end Go.Proofs.Ytnfkgnbhdhpnmaa
