/-
  Fillings that hold, free of the program.
-/
import Derived.Test.YtopakblckajdmaaFillM14
import Derived.Test.YtopakblckajdmaaSHolds14
namespace Go.Proofs.Ytopakblckajdmaa
open Go.ChangeShapes Go.WideShapes Go.ChangeAt Go.RowKit

set_option maxRecDepth 100000
set_option linter.unusedVariables false
theorem xy_of {W x y : Int} (h0 : 0 ≤ x) (h1 : x < W) : (y * W + x) % W = x ∧ (y * W + x) / W = y := by
  have e1 : (y * W + x) % W = x := by rw [Int.add_comm, Int.add_mul_emod_self_right]; exact Int.emod_eq_of_lt h0 h1
  refine ⟨e1, ?_⟩
  rw [Int.add_comm, Int.add_mul_ediv_right _ _ (by omega), Int.ediv_eq_zero_of_lt h0 h1, Int.zero_add]
theorem get_getD {l : List Int} {i : Nat} (h : i < l.length) : l[i]? = some (l.getD i 0) := by
  rw [List.getD_eq_getElem?_getD, List.getElem?_eq_getElem h]
  rfl
/-- The tile of a place, read by its number. -/
theorem tile_at {s W H x y m : Int} {l : List Int} (hF : FieldP s (W, H, l)) (h : 0 ≤ x ∧ x < W ∧ 0 ≤ y ∧ y < H) : tileA (W, H, l) x y m = l.getD (y * W + x).toNat 0 := by
  unfold tileA
  exact if_pos h
/-- What stands in l is open there, or stands in m too. -/
def Under (l m : List Int) (i : Nat) : Prop := ∀ j : Nat, j ≠ i → j < l.length → l.getD j 0 = -1 ∨ l.getD j 0 = m.getD j 0
theorem tile_under {s s' W H x y : Int} {l m : List Int} {i : Nat} (hF : FieldP s (W, H, l)) (hG : FieldP s' (W, H, m)) (hu : Under l m i) (hi : 0 ≤ x → x < W → 0 ≤ y → y < H → (y * W + x).toNat ≠ i) : tileA (W, H, l) x y (-1) = -1 ∨ tileA (W, H, l) x y (-1) = tileA (W, H, m) x y (-1) := by
  by_cases h : 0 ≤ x ∧ x < W ∧ 0 ≤ y ∧ y < H
  · obtain ⟨j, p, e, hj, -⟩ := tile_in hF (x := x) (y := y) h
    dsimp only at e hj
    rw [tile_at hF h, tile_at hG h]
    have hne := hi h.1 h.2.1 h.2.2.1 h.2.2.2
    rw [e, Int.toNat_natCast] at hne ⊢
    exact hu j hne hj
  · exact .inl (tile_out h)
theorem fol_left {fs : List (List Int)} {a b t : Int} (h : a = -1 ∨ a = b) (hf : Fol fs b t) : Fol fs a t := by
  rcases h with rfl | rfl
  · exact .inl rfl
  · exact hf
theorem fol_right {fs : List (List Int)} {a b t : Int} (h : a = -1 ∨ a = b) (hf : Fol fs t b) : Fol fs t a := by
  rcases h with rfl | rfl
  · exact .inr (.inl rfl)
  · exact hf
/-- The numbers of the places beside one are not its own. -/
theorem beside_ne {W x y : Int} {i : Nat} (hW : 1 ≤ W) (hx : 0 ≤ x) (hy : 0 ≤ y) (hi : y * W + x = (i : Int)) :
    (0 ≤ x - 1 → (y * W + (x - 1)).toNat ≠ i) ∧ (y * W + (x + 1)).toNat ≠ i ∧ (0 ≤ y - 1 → ((y - 1) * W + x).toNat ≠ i) ∧ ((y + 1) * W + x).toNat ≠ i := by
  have e1 : (y + 1) * W = y * W + W := by rw [Int.add_mul, Int.one_mul]
  have e2 : (y - 1) * W = y * W - W := by rw [Int.sub_mul, Int.one_mul]
  have e3 : 0 ≤ y * W := Int.mul_nonneg hy (by omega)
  refine ⟨fun h => by omega, by omega, fun h => ?_, by omega⟩
  have : 0 ≤ (y - 1) * W := Int.mul_nonneg h (by omega)
  omega
theorem fit_mono {r : RulesD} {s s' W H t : Int} {l m : List Int} {i : Nat} (hF : FieldP s (W, H, l)) (hG : FieldP s' (W, H, m)) (hl : i < l.length) (hu : Under l m i) (h : FitP r (W, H, m) i t) : FitP r (W, H, l) i t := by
  have hxy := place_xy hF (n := (i : Int)) (by omega) (by simpa using hl)
  have hW := hF.1
  dsimp only at hxy hW
  unfold FitP FitQ at h ⊢
  dsimp only at h ⊢
  obtain ⟨x, hx⟩ : ∃ x, (i : Int) % W = x := ⟨_, rfl⟩
  obtain ⟨y, hy⟩ : ∃ y, (i : Int) / W = y := ⟨_, rfl⟩
  rw [hx, hy] at hxy h ⊢
  obtain ⟨b1, b2, b3, b4⟩ := beside_ne (i := i) hW.1 hxy.1 hxy.2.2.1 hxy.2.2.2.2
  exact ⟨fol_left (tile_under hF hG hu (fun h1 _ _ _ => b1 h1)) h.1, fol_right (tile_under hF hG hu (fun _ _ _ _ => b2)) h.2.1, fol_left (tile_under hF hG hu (fun _ _ h1 _ => b3 h1)) h.2.2.1, fol_right (tile_under hF hG hu (fun _ _ _ _ => b4)) h.2.2.2⟩
theorem getD_set {l : List Int} {i j : Nat} {v : Int} (hi : i < l.length) : (l.set i v).getD j 0 = if i = j then v else l.getD j 0 := by
  rw [List.getD_eq_getElem?_getD, List.getD_eq_getElem?_getD, List.getElem?_set]
  split
  · simp_all
  · rfl
/-- A tile of tiles with one more laid: the new one, or what stood. -/
theorem tile_new {s s' W H x y t : Int} {l : List Int} {i : Nat} (hF : FieldP s (W, H, l)) (hG : FieldP s' (W, H, l.set i t)) (hi : i < l.length) : (0 ≤ x ∧ x < W ∧ 0 ≤ y ∧ y < H ∧ y * W + x = (i : Int) ∧ tileA (W, H, l.set i t) x y (-1) = t) ∨ tileA (W, H, l.set i t) x y (-1) = tileA (W, H, l) x y (-1) := by
  by_cases h : 0 ≤ x ∧ x < W ∧ 0 ≤ y ∧ y < H
  · obtain ⟨j, p, e, hj, -⟩ := tile_in hF (x := x) (y := y) h
    dsimp only at e hj
    rw [tile_at hG h, tile_at hF h, e, Int.toNat_natCast, getD_set hi]
    by_cases hij : i = j
    · subst hij
      exact .inl ⟨h.1, h.2.1, h.2.2.1, h.2.2.2, rfl, if_pos rfl⟩
    · exact .inr (if_neg hij)
  · exact .inr (by rw [tile_out h, tile_out h])
/-- A sort that fits, laid into tiles that hold: they hold. -/
theorem holds_set {r : RulesD} {s W H t : Int} {l : List Int} {i : Nat} (hF : FieldP s (W, H, l)) (ht : -1 ≤ t ∧ t < s) (hi : i < l.length) (hh : HoldsP r (W, H, l)) (hf : FitP r (W, H, l) i t) : HoldsP r (W, H, l.set i t) := by
  have hG := field_set (i := i) hF ht
  intro j hj p hp
  dsimp only at hj hp
  rw [List.length_set] at hj
  rcases get_set hp with ⟨rfl, rfl⟩ | ⟨hji, hp⟩
  · exact (fit_self hF hi).2 hf
  · have h0 := hh j hj p hp
    have hpj : l.getD j 0 = p := by rw [List.getD_eq_getElem?_getD, hp]; rfl
    have hxi := place_xy hF (n := (i : Int)) (by omega) (by simpa using hi)
    have hxj := place_xy hF (n := (j : Int)) (by omega) (by simpa using hj)
    have hW := hF.1
    dsimp only at hxi hxj hW
    unfold FitP FitQ at h0 hf ⊢
    dsimp only at h0 hf ⊢
    obtain ⟨x, hx⟩ : ∃ x, (j : Int) % W = x := ⟨_, rfl⟩
    obtain ⟨y, hy⟩ : ∃ y, (j : Int) / W = y := ⟨_, rfl⟩
    obtain ⟨a, ha⟩ : ∃ a, (i : Int) % W = a := ⟨_, rfl⟩
    obtain ⟨b, hb⟩ : ∃ b, (i : Int) / W = b := ⟨_, rfl⟩
    rw [hx, hy] at hxj h0 ⊢
    rw [ha, hb] at hxi hf
    -- what stands at j, read from a place beside i
    have hself : tileA (W, H, l) x y (-1) = p := by rw [tile_at hF ⟨hxj.1, hxj.2.1, hxj.2.2.1, hxj.2.2.2.1⟩, hxj.2.2.2.2, Int.toNat_natCast]; exact hpj
    have place : ∀ x' y' : Int, 0 ≤ x' → x' < W → y' * W + x' = (i : Int) → a = x' ∧ b = y' := fun x' y' h1 h2 h3 => by
      have := xy_of (y := y') h1 h2
      rw [h3, ha, hb] at this
      exact this
    refine ⟨?_, ?_, ?_, ?_⟩
    · rcases tile_new (x := x - 1) (y := y) hF hG hi with ⟨h1, h2, h3, h4, h5, h6⟩ | h6
      · obtain ⟨e1, e2⟩ := place _ _ h1 h2 h5
        rw [h6, ← hself]
        have h7 := hf.2.1
        rw [e1, e2, show x - 1 + 1 = x by omega] at h7
        exact h7
      · rw [h6]; exact h0.1
    · rcases tile_new (x := x + 1) (y := y) hF hG hi with ⟨h1, h2, h3, h4, h5, h6⟩ | h6
      · obtain ⟨e1, e2⟩ := place _ _ h1 h2 h5
        rw [h6, ← hself]
        have h7 := hf.1
        rw [e1, e2, show x + 1 - 1 = x by omega] at h7
        exact h7
      · rw [h6]; exact h0.2.1
    · rcases tile_new (x := x) (y := y - 1) hF hG hi with ⟨h1, h2, h3, h4, h5, h6⟩ | h6
      · obtain ⟨e1, e2⟩ := place _ _ h1 h2 h5
        rw [h6, ← hself]
        have h7 := hf.2.2.2
        rw [e1, e2, show y - 1 + 1 = y by omega] at h7
        exact h7
      · rw [h6]; exact h0.2.2.1
    · rcases tile_new (x := x) (y := y + 1) hF hG hi with ⟨h1, h2, h3, h4, h5, h6⟩ | h6
      · obtain ⟨e1, e2⟩ := place _ _ h1 h2 h5
        rw [h6, ← hself]
        have h7 := hf.2.2.1
        rw [e1, e2, show y + 1 - 1 = y by omega] at h7
        exact h7
      · rw [h6]; exact h0.2.2.2

end Go.Proofs.Ytopakblckajdmaa
