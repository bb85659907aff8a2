/-
  Taking the faces of a quad, in the program.
-/
import Derived.Test.YtnfkgnbhdhpnmaaIRow13
namespace Go.Proofs.Ytnfkgnbhdhpnmaa
open Go.ChangeShapes Go.WideShapes Go.ChangeAt Go.RowKit

set_option maxRecDepth 100000
set_option linter.unusedVariables false
/-- The flags of what is taken, as the cells of a variable. -/
def tkL (tk : Nat → Bool) : List Value := (List.range 64).map (fun i => .bool (tk i))
theorem tkL_len (tk : Nat → Bool) : (tkL tk).length = 64 := by simp [tkL]
theorem tkL_get {tk : Nat → Bool} {k : Nat} (h : k < 64) : (tkL tk)[k]? = some (.bool (tk k)) := by simp [tkL, h]
theorem tkL_ext {tk tk' : Nat → Bool} (h : ∀ i, i < 64 → tk i = tk' i) : tkL tk = tkL tk' := by
  unfold tkL
  apply List.map_congr_left
  intro i hi
  rw [h i (List.mem_range.1 hi)]
theorem tkL_set {tk : Nat → Bool} {k : Nat} (h : k < 64) : (tkL tk).set k (.bool true) = tkL (fun i => if i = k then true else tk i) := by
  apply List.ext_getElem?
  intro i
  rw [List.getElem?_set]
  by_cases hi : i < 64
  · rw [tkL_get hi, tkL_get hi, tkL_len]
    by_cases e : k = i
    · subst e; rw [if_pos rfl, if_pos h, if_pos rfl]
    · rw [if_neg e, if_neg (fun x => e x.symm)]
  · rw [List.getElem?_eq_none (by rw [tkL_len]; omega), List.getElem?_eq_none (by rw [tkL_len]; omega), if_neg (by omega)]
theorem tkL_TK {w : World} {T : Nat} {tk : Nat → Bool} (h : Loc w T (tkL tk)) : TK w T tk := fun i hi => h.cell i (tkL_get hi)
/-- What is taken when some rows of a quad are, and of the next one the first faces. -/
def tkR (tk : Nat → Bool) (u v W j i : Nat) : Nat → Bool := fun k => if ((u ≤ k % 8 ∧ k % 8 < u + W) ∧ (v ≤ k / 8 ∧ k / 8 < v + j)) ∨ ((u ≤ k % 8 ∧ k % 8 < u + i) ∧ k / 8 = v + j) then true else tk k
theorem tkR_zero {tk : Nat → Bool} {u v W : Nat} : tkR tk u v W 0 0 = tk := by
  funext k
  unfold tkR
  rw [if_neg (by omega)]
theorem tkR_row {tk : Nat → Bool} {u v W j : Nat} : tkR tk u v W j W = tkR tk u v W (j + 1) 0 := by
  funext k
  unfold tkR
  by_cases h : ((u ≤ k % 8 ∧ k % 8 < u + W) ∧ (v ≤ k / 8 ∧ k / 8 < v + j)) ∨ ((u ≤ k % 8 ∧ k % 8 < u + W) ∧ k / 8 = v + j)
  · rw [if_pos h, if_pos (by omega)]
  · rw [if_neg h, if_neg (by omega)]
theorem tkR_step {tk : Nat → Bool} {u v W j i : Nat} (h : i < W) (h8 : u + W ≤ 8) : (fun k => if k = (v + j) * 8 + u + i then true else tkR tk u v W j i k) = tkR tk u v W j (i + 1) := by
  funext k
  unfold tkR
  by_cases e : k = (v + j) * 8 + u + i
  · rw [if_pos e, if_pos (by omega)]
  · rw [if_neg e]
    by_cases h2 : ((u ≤ k % 8 ∧ k % 8 < u + W) ∧ (v ≤ k / 8 ∧ k / 8 < v + j)) ∨ ((u ≤ k % 8 ∧ k % 8 < u + i) ∧ k / 8 = v + j)
    · rw [if_pos h2, if_pos (by omega)]
    · rw [if_neg h2, if_neg (by omega)]
/-- What is taken when a quad is. -/
theorem maskG_cut {us vs : Nat} {f : Grid} {tk : Nat → Bool} {u v W H : Nat} (hb : Bd us vs f) (h8 : us ≤ 8) : maskG f (tkR tk u v W H 0) = cutG (maskG f tk) u v W H := by
  funext x y
  unfold maskG cutG tkR
  by_cases hx : x < 8
  · have e1 : (y * 8 + x) % 8 = x := by omega
    have e2 : (y * 8 + x) / 8 = y := by omega
    rw [e1, e2]
    by_cases h : (u ≤ x ∧ x < u + W) ∧ (v ≤ y ∧ y < v + H)
    · rw [if_pos h, if_pos (by rw [if_pos (.inl h)])]
    · rw [if_neg h, if_neg (show ¬(((u ≤ x ∧ x < u + W) ∧ (v ≤ y ∧ y < v + H)) ∨ ((u ≤ x ∧ x < u + 0) ∧ y = v + H)) by omega)]
  · have h0 : f x y = 0 := hb x y (.inl (by omega))
    simp [h0]
set_option maxHeartbeats 8000000 in
theorem itakeL (A B D way at_ T u v W H : Nat) (q1 q2 K : Int) (tk : Nat → Bool) (l : List Int) (ao : Option Addr) (cap : Nat) (w : World) (hu : u + W ≤ 8) (hv : v + H ≤ 8) (htk : Loc w T (tkL tk)) :
    Calls Try.prog 64 #[.agg #[.int .i64 (A : Int), .int .i64 (B : Int), .int .i64 (D : Int), .slice ao l.length cap, .int .i64 (way : Int), .int .i64 (at_ : Int), .slice (some ⟨T, 0, none⟩) 64 64], .agg #[.int .i64 q1, .int .i64 q2, .int .i64 (u : Int), .int .i64 (v : Int), .int .i64 (W : Int), .int .i64 (H : Int), .int .i64 K]] w fun e w' => e = .returned (.tuple #[]) ∧ Loc w' T (tkL (tkR tk u v W H 0)) ∧ But T (T + 1) w w' := by
  have hT := htk.lt
  have HT0 : Hid (Loc w T (tkL (tkR tk u v W 0 0))) := by show Loc _ _ _; rw [tkR_zero]; exact htk
  clear htk
  go_enter Try.func64, Try.ntmps64
  repeat (first | go_values | go_skip | go_guarded | go_step | go_upon)
  obtain ⟨X, hX⟩ : ∃ X, X = (w.alloc (.cells #[.int .i64 (A : Int), .int .i64 (B : Int), .int .i64 (D : Int), .slice ao l.length cap, .int .i64 (way : Int), .int .i64 (at_ : Int), .slice (some ⟨T, 0, none⟩) 64 64] 63)).alloc (.cells #[.int .i64 q1, .int .i64 q2, .int .i64 (u : Int), .int .i64 (v : Int), .int .i64 (W : Int), .int .i64 (H : Int), .int .i64 K] 33) := ⟨_, rfl⟩
  have kX : Kept w X := by rw [hX]; exact ((But.refl _ _ _).alloc _).alloc _
  have HL : Hid (Loc X w.heap.size [.int .i64 (A : Int), .int .i64 (B : Int), .int .i64 (D : Int), .slice ao l.length cap, .int .i64 (way : Int), .int .i64 (at_ : Int), .slice (some ⟨T, 0, none⟩) 64 64]) := by show Loc _ _ _; rw [hX]; exact (Loc.new w _ _).alloc _
  have HQ : Hid (Loc X (w.heap.size + 1) [.int .i64 q1, .int .i64 q2, .int .i64 (u : Int), .int .i64 (v : Int), .int .i64 (W : Int), .int .i64 (H : Int), .int .i64 K]) := by show Loc _ _ _; rw [hX]; have h := Loc.new (w.alloc (.cells #[.int .i64 (A : Int), .int .i64 (B : Int), .int .i64 (D : Int), .slice ao l.length cap, .int .i64 (way : Int), .int .i64 (at_ : Int), .slice (some ⟨T, 0, none⟩) 64 64] 63)) [.int .i64 q1, .int .i64 q2, .int .i64 (u : Int), .int .i64 (v : Int), .int .i64 (W : Int), .int .i64 (H : Int), .int .i64 K] 33; simpa only [World.size_alloc] using h
  rw [← hX]
  clear hX
  go_loopw [8] (fun x wr => ∃ j : Nat, j ≤ H ∧ x = .int .i64 j ∧ Hid (Loc wr T (tkL (tkR tk u v W j 0))) ∧ Hid (But T (T + 1) X wr)) (fun x _ => H - (intOf x).toNat)
  case atStart => exact ⟨0, by omega, rfl, HT0.out.kept kX, But.refl _ _ _⟩
  case round =>
    clear HT0
    rename World => we
    obtain ⟨j, hj, rfl, HG, HK⟩ := hrel
    have p4 := (HQ.out.but HK.out (.inr (by omega))).cell 4 rfl
    by_cases hlj : j < H
    · have dj : decide ((j : Int) < (H : Int)) = true := by simp; omega
      repeat (first | go_values | go_skip | go_guarded | go_step | go_upon)
      clear dj p4
      go_loopw [13] (fun x wr => ∃ i : Nat, i ≤ W ∧ x = .int .i64 i ∧ Hid (Loc wr T (tkL (tkR tk u v W j i))) ∧ Hid (But T (T + 1) X wr)) (fun x _ => W - (intOf x).toNat)
      case atStart => exact ⟨0, by omega, rfl, HG, HK⟩
      case round =>
        clear HG HK
        rename World => wf
        obtain ⟨i, hi', rfl, HG, HK⟩ := hrel
        by_cases hli : i < W
        · have hk64 : (v + j) * 8 + u + i < 64 := by omega
          have hst := HG.out.set ((v + j) * 8 + u + i) (.bool true)
          rw [tkL_set hk64, tkR_step hli hu] at hst
          have c0 := HG.out.cell ((v + j) * 8 + u + i) (tkL_get hk64)
          have cz := HG.out.frozen ((v + j) * 8 + u + i)
          have HST : Hid (Loc (wf.setCell ⟨T, (v + j) * 8 + u + i, none⟩ (.bool true)) T (tkL (tkR tk u v W j (i + 1)))) := hst
          have zk : ((v : Int) + (j : Int)) * 8 + (u : Int) + (i : Int) < 64 := by omega
          have htn : (((v : Int) + (j : Int)) * 8 + (u : Int) + (i : Int)).toNat = (v + j) * 8 + u + i := by omega
          have di : decide ((i : Int) < (W : Int)) = true := by simp; omega
          have p2 := (HQ.out.but HK.out (.inr (by omega))).cell 2 rfl
          have p3 := (HQ.out.but HK.out (.inr (by omega))).cell 3 rfl
          have v6 := (HL.out.but HK.out (.inr (by omega))).cell 6 rfl
          clear hst
          repeat (first | go_values | go_skip | go_guarded | go_step | go_upon)
          exact ⟨⟨i + 1, hli, by go_num, HST, HK.out.setCell (by simp) (by simp) _⟩, by simp [intOf]; omega⟩
        · have hie : i = W := by omega
          subst hie
          have di : decide ((i : Int) < (i : Int)) = false := by simp
          repeat (first | go_values | go_skip | go_guarded | go_step | go_upon)
          exact ⟨⟨j + 1, hlj, by go_num, by show Loc _ _ _; rw [← tkR_row]; exact HG.out, HK⟩, by simp [intOf]; omega⟩
    · have hje : j = H := by omega
      subst hje
      have dj : decide ((j : Int) < (j : Int)) = false := by simp
      repeat (first | go_values | go_skip | go_guarded | go_step | go_upon)
      refine bodyPost_end (v := .tuple #[]) (by simp [results, Try.results64, go_sem]) rfl ?_
      exact ⟨rfl, HG.out, (But.of kX).trans HK.out⟩

end Go.Proofs.Ytnfkgnbhdhpnmaa
