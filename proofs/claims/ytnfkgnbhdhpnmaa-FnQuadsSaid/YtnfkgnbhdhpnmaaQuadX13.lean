/-
  The quads of one layer: together they cover as many faces as the layer has, no two of them meet. Free of the program.
-/
import Derived.Test.YtnfkgnbhdhpnmaaQuadP13
namespace Go.Proofs.Ytnfkgnbhdhpnmaa
open Go.ChangeShapes Go.WideShapes Go.ChangeAt Go.RowKit

def bitI (z : Int) : Nat := if z = 0 then 0 else 1
def rowC (G : Grid) (y : Nat) : Nat → Nat
  | 0 => 0
  | n + 1 => rowC G y n + bitI (G n y)
def gridC (G : Grid) (us : Nat) : Nat → Nat
  | 0 => 0
  | m + 1 => gridC G us m + rowC G m us
theorem rowC_out {G : Grid} {u v w h y : Nat} (hy : ¬ (v ≤ y ∧ y < v + h)) : ∀ n, rowC (cutG G u v w h) y n = rowC G y n
  | 0 => rfl
  | n + 1 => by
    show rowC (cutG G u v w h) y n + _ = rowC G y n + _
    rw [rowC_out hy n]
    unfold cutG
    rw [if_neg (fun h => hy h.2)]
theorem rowC_in {G : Grid} {u v w h y : Nat} (hy : v ≤ y ∧ y < v + h) (hG : ∀ i, i < w → G (u + i) y ≠ 0) : ∀ n, rowC (cutG G u v w h) y n + (min n (u + w) - min n u) = rowC G y n
  | 0 => by simp [rowC]
  | n + 1 => by
    have ih := rowC_in hy hG n
    show rowC (cutG G u v w h) y n + bitI (cutG G u v w h n y) + _ = rowC G y n + bitI (G n y)
    by_cases hn : u ≤ n ∧ n < u + w
    · have h1 : cutG G u v w h n y = 0 := by unfold cutG; rw [if_pos ⟨hn, hy⟩]
      have h2 : G n y ≠ 0 := by have := hG (n - u) (by omega); rwa [show u + (n - u) = n by omega] at this
      rw [h1]
      simp only [bitI, if_true, if_neg h2]
      omega
    · have h1 : cutG G u v w h n y = G n y := by unfold cutG; rw [if_neg (fun h => hn h.1)]
      rw [h1]
      omega
theorem gridC_cut {G : Grid} {u v w h us : Nat} (hw : u + w ≤ us) (hG : ∀ i j, i < w → j < h → G (u + i) (v + j) ≠ 0) : ∀ m, gridC (cutG G u v w h) us m + w * (min m (v + h) - min m v) = gridC G us m
  | 0 => by simp [gridC]
  | m + 1 => by
    have ih := gridC_cut (h := h) (v := v) hw hG m
    show gridC (cutG G u v w h) us m + rowC (cutG G u v w h) m us + _ = gridC G us m + rowC G m us
    by_cases hm : v ≤ m ∧ m < v + h
    · have h1 := rowC_in (w := w) (u := u) hm (fun i hi => by have := hG i (m - v) hi (by omega); rwa [show v + (m - v) = m by omega] at this) us
      have h2 : min us (u + w) - min us u = w := by omega
      have h3 : min (m + 1) (v + h) - min (m + 1) v = (min m (v + h) - min m v) + 1 := by omega
      rw [h2] at h1
      rw [h3, Nat.mul_succ]
      omega
    · have h1 := rowC_out (w := w) (u := u) (G := G) hm us
      have h3 : min (m + 1) (v + h) - min (m + 1) v = min m (v + h) - min m v := by omega
      rw [h1, h3]
      omega
theorem rowC_zero {G : Grid} {y : Nat} : ∀ n, (∀ x, x < n → G x y = 0) → rowC G y n = 0
  | 0, _ => rfl
  | n + 1, h => by
    show rowC G y n + _ = 0
    rw [rowC_zero n (fun x hx => h x (by omega)), h n (by omega)]
    rfl
theorem gridC_zero {G : Grid} {us : Nat} : ∀ m, (∀ x y, x < us → y < m → G x y = 0) → gridC G us m = 0
  | 0, _ => rfl
  | m + 1, h => by
    show gridC G us m + _ = 0
    rw [gridC_zero m (fun x y hx hy => h x y hx (by omega)), rowC_zero us (fun x hx => h x m hx (by omega))]
theorem runW_ok {G : Grid} {u v : Nat} {k : Int} : ∀ (f w0 : Nat), w0 ≤ runW G u v k f w0 ∧ ∀ i, w0 ≤ i → i < runW G u v k f w0 → G (u + i) v = k
  | 0, w0 => ⟨Nat.le_refl _, fun i h1 h2 => by simp only [runW] at h2; omega⟩
  | f + 1, w0 => by
    simp only [runW]
    split
    · next h =>
      obtain ⟨h1, h2⟩ := runW_ok (G := G) (u := u) (v := v) (k := k) f (w0 + 1)
      refine ⟨by omega, fun i hi hl => ?_⟩
      by_cases e : i = w0
      · subst e; simpa using h
      · exact h2 i (by omega) hl
    · exact ⟨Nat.le_refl _, fun i h1 h2 => by omega⟩
theorem runH_ok {G : Grid} {u v : Nat} {k : Int} {w : Nat} : ∀ (f h0 : Nat), h0 ≤ runH G u v k w f h0 ∧ ∀ j, h0 ≤ j → j < runH G u v k w f h0 → rowB G u (v + j) k w = true
  | 0, h0 => ⟨Nat.le_refl _, fun i h1 h2 => by simp only [runH] at h2; omega⟩
  | f + 1, h0 => by
    simp only [runH]
    split
    · next h =>
      obtain ⟨h1, h2⟩ := runH_ok (G := G) (u := u) (v := v) (k := k) (w := w) f (h0 + 1)
      refine ⟨by omega, fun i hi hl => ?_⟩
      by_cases e : i = h0
      · subst e; exact h
      · exact h2 i (by omega) hl
    · exact ⟨Nat.le_refl _, fun i h1 h2 => by omega⟩
/-- The rectangle that is cut out is of one kind, and lies in the grid. -/
theorem rect_ok {G : Grid} {us vs u v : Nat} (hB : Bd us vs G) (h0 : G u v ≠ 0) : 1 ≤ wOf G u v ∧ 1 ≤ hOf G u v ∧ u + wOf G u v ≤ us ∧ v + hOf G u v ≤ vs ∧ ∀ i j, i < wOf G u v → j < hOf G u v → G (u + i) (v + j) = G u v := by
  obtain ⟨w1, w2⟩ := runW_ok (G := G) (u := u) (v := v) (k := G u v) 8 1
  obtain ⟨h1, h2⟩ := runH_ok (G := G) (u := u) (v := v) (k := G u v) (w := wOf G u v) 8 1
  have hall : ∀ i j, i < wOf G u v → j < hOf G u v → G (u + i) (v + j) = G u v := by
    intro i j hi hj
    by_cases e : j = 0
    · subst e
      by_cases e2 : i = 0
      · subst e2; rfl
      · exact w2 i (by omega) hi
    · exact rowB_iff.1 (h2 j (by omega) hj) i hi
  have hin : ∀ x y, G x y ≠ 0 → x < us ∧ y < vs := by
    intro x y hx
    refine ⟨?_, ?_⟩
    · by_cases h : x < us
      · exact h
      · exact absurd (hB x y (.inl (by omega))) hx
    · by_cases h : y < vs
      · exact h
      · exact absurd (hB x y (.inr (by omega))) hx
  refine ⟨w1, h1, ?_, ?_, hall⟩
  · have hw : 1 ≤ wOf G u v := w1
    have hh : 1 ≤ hOf G u v := h1
    have := (hin (u + (wOf G u v - 1)) (v + 0) (by rw [hall _ _ (by omega) (by omega)]; exact h0)).1
    omega
  · have hw : 1 ≤ wOf G u v := w1
    have hh : 1 ≤ hOf G u v := h1
    have := (hin (u + 0) (v + (hOf G u v - 1)) (by rw [hall _ _ (by omega) (by omega)]; exact h0)).2
    omega
/-- What a quad covers. -/
def InQ (p : QuadD) (x y : Nat) : Prop := p.2.2.1 ≤ (x : Int) ∧ (x : Int) < p.2.2.1 + p.2.2.2.2.1 ∧ p.2.2.2.1 ≤ (y : Int) ∧ (y : Int) < p.2.2.2.1 + p.2.2.2.2.2.1
def Meet (o q : QuadD) : Prop := o.2.2.1 < q.2.2.1 + q.2.2.2.2.1 ∧ q.2.2.1 < o.2.2.1 + o.2.2.2.2.1 ∧ o.2.2.2.1 < q.2.2.2.1 + q.2.2.2.2.2.1 ∧ q.2.2.2.1 < o.2.2.2.1 + o.2.2.2.2.2.1
def areaN (q : List QuadD) : Nat := (q.map fun p => p.2.2.2.2.1.toNat * p.2.2.2.2.2.1.toNat).sum
theorem areaN_snoc (q : List QuadD) (p : QuadD) : areaN (q ++ [p]) = areaN q + p.2.2.2.2.1.toNat * p.2.2.2.2.2.1.toNat := by simp [areaN]
structure LayOk (way at_ us vs : Nat) (G0 : Grid) (k : Nat) (s : Grid × List QuadD) : Prop where
  area : gridC s.1 us vs + areaN s.2 = gridC G0 us vs
  gone : ∀ j, j < k → s.1 (j % us) (j / us) = 0
  same : ∀ x y, s.1 x y = 0 ∨ s.1 x y = G0 x y
  each : ∀ p ∈ s.2, p.1 = (way : Int) ∧ p.2.1 = (at_ : Int) ∧ 0 ≤ p.2.2.1 ∧ 0 ≤ p.2.2.2.1 ∧ 1 ≤ p.2.2.2.2.1 ∧ 1 ≤ p.2.2.2.2.2.1 ∧ p.2.2.1 + p.2.2.2.2.1 ≤ (us : Int) ∧ p.2.2.2.1 + p.2.2.2.2.2.1 ≤ (vs : Int) ∧ (∃ x y, p.2.2.2.2.2.2 = G0 x y ∧ G0 x y ≠ 0)
  clear : ∀ p ∈ s.2, ∀ x y, InQ p x y → s.1 x y = 0
  apart : s.2.Pairwise (fun o q => ¬ Meet o q)
theorem lay_ok {way at_ us vs : Nat} {G0 : Grid} (hB : Bd us vs G0) (hus : 0 < us) : ∀ k, k ≤ us * vs → LayOk way at_ us vs G0 k (layQ way at_ us G0 k)
  | 0, _ => ⟨by simp [layQ, areaN], fun j hj => by omega, fun x y => .inr rfl, fun p hp => (by cases hp), fun p hp => (by cases hp), List.Pairwise.nil⟩
  | k + 1, hk => by
    have L := lay_ok (way := way) (at_ := at_) hB hus k (by omega)
    have hBk := layQ_bd (way := way) (at_ := at_) hB k
    by_cases h0 : (layQ way at_ us G0 k).1 (k % us) (k / us) = 0
    · rw [layQ_no h0]
      refine ⟨L.area, fun j hj => ?_, L.same, L.each, L.clear, L.apart⟩
      by_cases e : j = k
      · subst e; exact h0
      · exact L.gone j (by omega)
    · rw [layQ_yes h0]
      generalize layQ way at_ us G0 k = s at L hBk h0
      obtain ⟨G, q⟩ := s
      dsimp only at L hBk h0 ⊢
      obtain ⟨hw, hh, huw, hvh, hall⟩ := rect_ok hBk h0
      generalize hu : k % us = u at *
      generalize hv : k / us = v at *
      have hne : ∀ i j, i < wOf G u v → j < hOf G u v → G (u + i) (v + j) ≠ 0 := fun i j hi hj => by rw [hall i j hi hj]; exact h0
      have hcut := gridC_cut huw hne vs
      rw [show min vs (v + hOf G u v) - min vs v = hOf G u v by omega] at hcut
      refine ⟨?_, ?_, ?_, ?_, ?_, ?_⟩
      · show gridC (cutG G u v (wOf G u v) (hOf G u v)) us vs + areaN (q ++ [quadAt way at_ G u v]) = _
        rw [areaN_snoc]
        show gridC (cutG G u v (wOf G u v) (hOf G u v)) us vs + (areaN q + ((wOf G u v : Nat) : Int).toNat * ((hOf G u v : Nat) : Int).toNat) = _
        rw [Int.toNat_natCast, Int.toNat_natCast]
        have := L.area
        dsimp only at this
        omega
      · intro j hj
        show cutG G u v (wOf G u v) (hOf G u v) (j % us) (j / us) = 0
        unfold cutG
        split
        · rfl
        · next hn =>
          by_cases e : j = k
          · subst e
            exact absurd ⟨⟨by omega, by omega⟩, ⟨by omega, by omega⟩⟩ hn
          · exact L.gone j (by omega)
      · intro x y
        show cutG G u v (wOf G u v) (hOf G u v) x y = 0 ∨ cutG G u v (wOf G u v) (hOf G u v) x y = G0 x y
        unfold cutG
        split
        · exact .inl rfl
        · exact L.same x y
      · intro p hp
        rcases List.mem_append.1 hp with h | h
        · exact L.each p h
        · rw [List.mem_singleton.1 h]
          refine ⟨rfl, rfl, ?_, ?_, ?_, ?_, ?_, ?_, u, v, ?_, ?_⟩
          · show (0 : Int) ≤ (u : Int); omega
          · show (0 : Int) ≤ (v : Int); omega
          · show (1 : Int) ≤ ((wOf G u v : Nat) : Int); omega
          · show (1 : Int) ≤ ((hOf G u v : Nat) : Int); omega
          · show (u : Int) + ((wOf G u v : Nat) : Int) ≤ (us : Int); omega
          · show (v : Int) + ((hOf G u v : Nat) : Int) ≤ (vs : Int); omega
          · exact (L.same u v).resolve_left h0
          · rw [← (L.same u v).resolve_left h0]; exact h0
      · intro p hp x y hi
        show cutG G u v (wOf G u v) (hOf G u v) x y = 0
        unfold cutG
        split
        · rfl
        · next hn =>
          rcases List.mem_append.1 hp with h | h
          · exact L.clear p h x y hi
          · rw [List.mem_singleton.1 h] at hi
            obtain ⟨i1, i2, i3, i4⟩ := hi
            simp only [quadAt] at i1 i2 i3 i4
            exact absurd ⟨⟨by omega, by omega⟩, ⟨by omega, by omega⟩⟩ hn
      · show (q ++ [quadAt way at_ G u v]).Pairwise _
        rw [List.pairwise_append]
        refine ⟨L.apart, List.pairwise_singleton _ _, fun o ho p hp hm => ?_⟩
        rw [List.mem_singleton.1 hp] at hm
        obtain ⟨m1, m2, m3, m4⟩ := hm
        obtain ⟨_, _, o1, o2, o3, o4, _, _, _⟩ := L.each o ho
        simp only [quadAt] at m1 m2 m3 m4
        obtain ⟨ou, hou⟩ : ∃ n : Nat, o.2.2.1 = (n : Int) := ⟨o.2.2.1.toNat, by omega⟩
        obtain ⟨ov, hov⟩ : ∃ n : Nat, o.2.2.2.1 = (n : Int) := ⟨o.2.2.2.1.toNat, by omega⟩
        have hz := L.clear o ho (max ou u) (max ov v) ⟨by omega, by omega, by omega, by omega⟩
        dsimp only at hz
        have hnz := hne (max ou u - u) (max ov v - v) (by omega) (by omega)
        rw [show u + (max ou u - u) = max ou u by omega, show v + (max ov v - v) = max ov v by omega] at hnz
        exact hnz hz
/-- The quads of a layer cover just its faces. -/
theorem lay_all {way at_ us vs : Nat} {G0 : Grid} (hB : Bd us vs G0) (hus : 0 < us) : areaN (layQ way at_ us G0 (us * vs)).2 = gridC G0 us vs := by
  have L := lay_ok (way := way) (at_ := at_) hB hus (us * vs) (Nat.le_refl _)
  have h0 : gridC (layQ way at_ us G0 (us * vs)).1 us vs = 0 := by
    refine gridC_zero vs (fun x y hx hy => ?_)
    have hlt : y * us + x < us * vs := by
      have h1 : y * us + us ≤ vs * us := by rw [← Nat.succ_mul]; exact Nat.mul_le_mul_right us hy
      rw [Nat.mul_comm us vs]; omega
    have := L.gone (y * us + x) hlt
    rw [Nat.mul_comm y us, Nat.mul_add_mod, Nat.mod_eq_of_lt hx, Nat.mul_add_div hus, Nat.div_eq_of_lt hx, Nat.add_zero] at this
    exact this
  have := L.area
  omega
end Go.Proofs.Ytnfkgnbhdhpnmaa
