/-
  Fillings, free of the program.
-/
import Derived.Test.YtopakblckajdmaaMayI14
namespace Go.Proofs.Ytopakblckajdmaa
open Go.ChangeShapes Go.WideShapes Go.ChangeAt Go.RowKit

set_option maxRecDepth 100000
set_option linter.unusedVariables false
/-- The least sort above o that could stand at a place. -/
noncomputable def nextT (r : RulesD) (f : FieldD) (n o : Int) : Option Nat := (List.range r.1.toNat).find? (fun t => decide (o < (t : Int)) && fitB r f n t)
theorem next_some {r : RulesD} {f : FieldD} {n o : Int} {t : Nat} (h1 : (t : Int) < r.1) (h2 : o < (t : Int)) (h3 : fitB r f n t = true) (h4 : ∀ j : Nat, j < t → o < (j : Int) → fitB r f n j = false) : nextT r f n o = some t := by
  unfold nextT
  rw [List.find?_range_eq_some]
  refine ⟨by simp [h2, h3], by simp; omega, fun j hj => ?_⟩
  by_cases ho : o < (j : Int)
  · simp [h4 j hj ho]
  · simp [ho]
theorem next_none {r : RulesD} {f : FieldD} {n o : Int} (h : ∀ j : Nat, (j : Int) < r.1 → o < (j : Int) → fitB r f n j = false) : nextT r f n o = none := by
  unfold nextT
  rw [List.find?_eq_none]
  intro j hj
  have hj' := List.mem_range.1 hj
  by_cases ho : o < (j : Int)
  · simp [h j (by omega) ho]
  · simp [ho]
theorem next_lt {r : RulesD} {f : FieldD} {n o : Int} {t : Nat} (h : nextT r f n o = some t) : (t : Int) < r.1 ∧ o < (t : Int) := by
  unfold nextT at h
  rw [List.find?_range_eq_some] at h
  have h1 := List.mem_range.1 h.2.1
  have h2 := h.1
  simp at h2
  exact ⟨by omega, h2.1⟩
theorem cut_mem {p : Nat → Bool} {k t : Nat} : (t : Int) ∈ cutL p k ↔ t < k ∧ p t = true := by
  unfold cutL
  rw [List.mem_map]
  constructor
  · rintro ⟨c, hc, e⟩
    have : c = t := by omega
    subst this
    have := List.mem_filter.1 hc
    exact ⟨List.mem_range.1 this.1, this.2⟩
  · rintro ⟨h1, h2⟩
    exact ⟨t, List.mem_filter.2 ⟨List.mem_range.2 h1, h2⟩, rfl⟩
theorem cut_sorted (p : Nat → Bool) (k : Nat) : (cutL p k).Pairwise (fun a b => a < b) := by
  unfold cutL
  rw [List.pairwise_map]
  exact (List.pairwise_lt_range.filter p).imp fun h => by omega
theorem cut_nat {p : Nat → Bool} {k : Nat} {x : Int} (h : x ∈ cutL p k) : ∃ t : Nat, x = (t : Int) ∧ t < k ∧ p t = true := by
  unfold cutL at h
  obtain ⟨c, hc, e⟩ := List.mem_map.1 h
  have := List.mem_filter.1 hc
  exact ⟨c, e.symm, List.mem_range.1 this.1, this.2⟩
/-- What stands at a place itself does not matter for what could stand there. -/
theorem tile_set {W H : Int} {l : List Int} {i : Nat} {v x y m : Int} (h : (y * W + x).toNat ≠ i) : tileA (W, H, l.set i v) x y m = tileA (W, H, l) x y m := by
  unfold tileA
  simp only [List.getD_eq_getElem?_getD]
  rw [List.getElem?_set_ne (Ne.symm h)]
theorem fit_self {r : RulesD} {W H : Int} {l : List Int} {s v t : Int} {i : Nat} (hF : FieldP s (W, H, l)) (hi : i < l.length) : FitP r (W, H, l.set i v) i t ↔ FitP r (W, H, l) i t := by
  have hxy := place_xy hF (n := (i : Int)) (by omega) (by simpa using hi)
  have hW := hF.1
  dsimp only at hxy hW
  obtain ⟨x, hx⟩ : ∃ x, (i : Int) % W = x := ⟨_, rfl⟩
  obtain ⟨y, hy⟩ : ∃ y, (i : Int) / W = y := ⟨_, rfl⟩
  rw [hx, hy] at hxy
  unfold FitP FitQ
  dsimp only
  rw [hx, hy]
  have e1 : (y + 1) * W = y * W + W := by rw [Int.add_mul, Int.one_mul]
  have e2 : (y - 1) * W = y * W - W := by rw [Int.sub_mul, Int.one_mul]
  have hyw : 0 ≤ y * W := Int.mul_nonneg (by omega) (by omega)
  have a1 : tileA (W, H, l.set i v) (x - 1) y (-1) = tileA (W, H, l) (x - 1) y (-1) := by
    by_cases h0 : 0 ≤ x - 1
    · exact tile_set (by omega)
    · rw [tile_out (by dsimp only; omega), tile_out (by dsimp only; omega)]
  have a2 : tileA (W, H, l.set i v) (x + 1) y (-1) = tileA (W, H, l) (x + 1) y (-1) := tile_set (by omega)
  have a3 : tileA (W, H, l.set i v) x (y - 1) (-1) = tileA (W, H, l) x (y - 1) (-1) := by
    by_cases h0 : 0 ≤ y - 1
    · have : 0 ≤ (y - 1) * W := Int.mul_nonneg h0 (by omega)
      exact tile_set (by omega)
    · rw [tile_out (by dsimp only; omega), tile_out (by dsimp only; omega)]
  have a4 : tileA (W, H, l.set i v) x (y + 1) (-1) = tileA (W, H, l) x (y + 1) (-1) := by
    have : 0 ≤ y * W := Int.mul_nonneg (by omega) (by omega)
    exact tile_set (by omega)
  rw [a1, a2, a3, a4]
theorem fitB_self {r : RulesD} {W H : Int} {l : List Int} {s v : Int} {i : Nat} (hF : FieldP s (W, H, l)) (hi : i < l.length) (t : Nat) : fitB r (W, H, l.set i v) i t = fitB r (W, H, l) i t := by
  unfold fitB
  by_cases h : FitP r (W, H, l) i t
  · rw [dec_yes h, dec_yes ((fit_self hF hi).2 h)]
  · rw [dec_no h, dec_no (fun x => h ((fit_self hF hi).1 x))]
theorem field_set {s W H v : Int} {l : List Int} {i : Nat} (hF : FieldP s (W, H, l)) (hv : -1 ≤ v ∧ v < s) : FieldP s (W, H, l.set i v) := by
  obtain ⟨h1, h2, h3, h4⟩ := hF
  refine ⟨h1, h2, by simpa using h3, fun j hj p hp => ?_⟩
  dsimp only at hp hj
  rcases get_set hp with ⟨_, rfl⟩ | ⟨_, hp⟩
  · exact hv
  · exact h4 j (List.getElem?_eq_some_iff.1 hp).1 p hp
/-- The open places of a field. -/
def openB (l : List Int) (i : Nat) : Bool := decide (l.getD i 0 = -1)
def openL (l : List Int) : List Int := cutL (openB l) l.length
theorem open_at {l : List Int} {k : Nat} (h : k < (openL l).length) : ∃ i : Nat, (openL l)[k]? = some (i : Int) ∧ i < l.length := by
  obtain ⟨t, e, h1, _⟩ := cut_nat (List.getElem_mem h)
  exact ⟨t, by rw [List.getElem?_eq_getElem h]; exact congrArg some e, h1⟩
/-- The filling, step by step: tiles, how many are laid now, how many were tried. -/
noncomputable def fillN (r : RulesD) (W H : Int) (op : List Int) : Nat → List Int → Nat → Nat → Bool × List Int × Nat
  | 0, _, _, tr => (false, [], tr)
  | m + 1, l, k, tr =>
    if k < op.length then
      match nextT r (W, H, l) (op.getD k 0) (l.getD (op.getD k 0).toNat 0) with
      | none => if k = 0 then (false, [], tr) else fillN r W H op m (l.set (op.getD k 0).toNat (-1)) (k - 1) tr
      | some t => if tr = 5000 then (false, [], tr) else fillN r W H op m (l.set (op.getD k 0).toNat t) (k + 1) (tr + 1)
    else (true, l, tr)
/-- What the filling is from here on. -/
noncomputable def fillR (r : RulesD) (W H : Int) (op l : List Int) (k tr : Nat) : Bool × List Int × Nat := fillN r W H op (2 * (5000 - tr) + k + 1) l k tr
section
variable {r : RulesD} {W H : Int} {op l : List Int} {k tr i : Nat} {o : Int}
theorem fillR_end (h : ¬ k < op.length) : fillR r W H op l k tr = (true, l, tr) := by unfold fillR fillN; rw [if_neg h]
theorem fillR_stuck (h : k < op.length) (hi : op[k]? = some (i : Int)) (ho : l[i]? = some o) (hx : nextT r (W, H, l) i o = none) (h0 : k = 0) : fillR r W H op l k tr = (false, [], tr) := by
  have e1 : op.getD k 0 = (i : Int) := by rw [List.getD_eq_getElem?_getD, hi]; rfl
  have e2 : l.getD i 0 = o := by rw [List.getD_eq_getElem?_getD, ho]; rfl
  unfold fillR fillN
  rw [if_pos h, e1, Int.toNat_natCast, e2, hx]
  dsimp only
  rw [if_pos h0]
theorem fillR_back (h : k < op.length) (hi : op[k]? = some (i : Int)) (ho : l[i]? = some o) (hx : nextT r (W, H, l) i o = none) (h0 : k ≠ 0) : fillR r W H op l k tr = fillR r W H op (l.set i (-1)) (k - 1) tr := by
  have e1 : op.getD k 0 = (i : Int) := by rw [List.getD_eq_getElem?_getD, hi]; rfl
  have e2 : l.getD i 0 = o := by rw [List.getD_eq_getElem?_getD, ho]; rfl
  conv => lhs; unfold fillR fillN
  rw [if_pos h, e1, Int.toNat_natCast, e2, hx]
  dsimp only
  rw [if_neg h0]
  unfold fillR
  rw [show 2 * (5000 - tr) + (k - 1) + 1 = 2 * (5000 - tr) + k by omega]
theorem fillR_full {t : Nat} (h : k < op.length) (hi : op[k]? = some (i : Int)) (ho : l[i]? = some o) (hx : nextT r (W, H, l) i o = some t) (h0 : tr = 5000) : fillR r W H op l k tr = (false, [], tr) := by
  have e1 : op.getD k 0 = (i : Int) := by rw [List.getD_eq_getElem?_getD, hi]; rfl
  have e2 : l.getD i 0 = o := by rw [List.getD_eq_getElem?_getD, ho]; rfl
  unfold fillR fillN
  rw [if_pos h, e1, Int.toNat_natCast, e2, hx]
  dsimp only
  rw [if_pos h0]
theorem fillR_lay {t : Nat} (h : k < op.length) (hi : op[k]? = some (i : Int)) (ho : l[i]? = some o) (hx : nextT r (W, H, l) i o = some t) (h0 : tr < 5000) : fillR r W H op l k tr = fillR r W H op (l.set i t) (k + 1) (tr + 1) := by
  have e1 : op.getD k 0 = (i : Int) := by rw [List.getD_eq_getElem?_getD, hi]; rfl
  have e2 : l.getD i 0 = o := by rw [List.getD_eq_getElem?_getD, ho]; rfl
  conv => lhs; unfold fillR fillN
  rw [if_pos h, e1, Int.toNat_natCast, e2, hx]
  dsimp only
  rw [if_neg (by omega)]
  unfold fillR
  rw [show 2 * (5000 - (tr + 1)) + (k + 1) + 1 = 2 * (5000 - tr) + k by omega]
end
/-- What a filling comes to: found, the field, how many were tried. -/
abbrev FilledD := Bool × FieldD × Int
noncomputable def fillF (r : RulesD) (f : FieldD) : FilledD :=
  let x := fillR r f.1 f.2.1 (openL f.2.2) f.2.2 0 0
  if x.1 then (true, (f.1, f.2.1, x.2.1), (x.2.2 : Int)) else (false, (0, 0, []), (x.2.2 : Int))
noncomputable def fillA (r : RulesD) (f : FieldD) : FilledD × Bool :=
  if dec (GoodP r f) then (if dec (HoldsP r f) then (fillF r f, true) else ((false, (0, 0, []), 0), true)) else ((false, (0, 0, []), 0), false)
theorem fillN_len (r : RulesD) (W H : Int) (op : List Int) (m : Nat) (l : List Int) (k tr : Nat) : (fillN r W H op m l k tr).2.1.length ≤ l.length := by
  induction m generalizing l k tr with
  | zero => simp [fillN]
  | succ m ih =>
    unfold fillN
    split
    · split
      · split
        · simp
        · have := ih (l.set (op.getD k 0).toNat (-1)) (k - 1) tr
          simpa using this
      · next t _ =>
        split
        · simp
        · have := ih (l.set (op.getD k 0).toNat (t : Int)) (k + 1) (tr + 1)
          simpa using this
    · simp
theorem fillA_len (r : RulesD) (f : FieldD) (h : f.2.2.length ≤ 1048576) : (fillA r f).1.2.1.2.2.length ≤ 100000000 := by
  unfold fillA
  split
  · split
    · unfold fillF
      dsimp only
      split
      · have := fillN_len r f.1 f.2.1 (openL f.2.2) (2 * (5000 - 0) + 0 + 1) f.2.2 0 0
        show (fillR r f.1 f.2.1 (openL f.2.2) f.2.2 0 0).2.1.length ≤ _
        unfold fillR
        omega
      · simp
    · simp
  · simp

end Go.Proofs.Ytopakblckajdmaa
