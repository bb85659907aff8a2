/-
  One thing as it must be, in the program; its table.
-/
import Derived.Test.YtaadlhcpgjibeaaDoorThP23
import Derived.Test.YtaadlhcpgjibeaaDoorQuiet
namespace Go.Proofs.YtaadlhcpgjibeaaDoor
open Go.ChangeShapes Go.WideShapes Go.ChangeAt Go.RowKit

set_option maxRecDepth 100000
set_option linter.unusedVariables false
set_option linter.unusedSimpArgs false

def zs3 : List Int := [10, 10, 7]
def tab (i : Nat) : Int := zs3.getD i 0
/-- The program's table lies in block 0. -/
def Tab (w : World) : Prop := ∀ i, i < 3 → w.cell? ⟨0, i, none⟩ = some (.int .i64 (tab i))
theorem Tab.size {w : World} (h : Tab w) : 0 < w.heap.size := by
  have h0 := h 0 (by decide)
  rcases Nat.eq_zero_or_pos w.heap.size with hz | hz
  · simp [World.cell?, Array.eq_empty_of_size_eq_zero hz] at h0
  · exact hz
theorem Tab.kept {w w' : World} (h : Tab w) (k : Kept w w') : Tab w' := fun i hi => by
  rw [Kept.cell_eq k 0 i h.size]
  exact h i hi

theorem ifit10 (x : Int) (w : World) : Calls Tryd.prog 45 #[.int .i64 x, .int .i64 10] w fun e w' => e = .returned (.bool (decide (0 ≤ x ∧ x ≤ 1023))) ∧ w' = w := by
  by_cases h1 : 0 ≤ x
  · have d1 : decide (0 ≤ x) = true := decide_eq_true h1
    by_cases h2 : x ≤ 1023
    · have d2 : decide (x < 1024) = true := decide_eq_true (by omega)
      rw [decide_eq_true (And.intro h1 h2)]
      go_enter Tryd.func45, Tryd.ntmps45
      repeat (first | go_values | go_skip | go_guarded | go_step | go_upon)
      go_ret
      simp
    · have d2 : decide (x < 1024) = false := decide_eq_false (by omega)
      rw [decide_eq_false (fun h => h2 h.2)]
      go_enter Tryd.func45, Tryd.ntmps45
      repeat (first | go_values | go_skip | go_guarded | go_step | go_upon)
      go_ret
      simp
  · have d1 : decide (0 ≤ x) = false := decide_eq_false h1
    rw [decide_eq_false (fun h => h1 h.1)]
    go_enter Tryd.func45, Tryd.ntmps45
    repeat (first | go_values | go_skip | go_guarded | go_step | go_upon)
    go_ret
    simp

theorem ifit7 (x : Int) (w : World) : Calls Tryd.prog 45 #[.int .i64 x, .int .i64 7] w fun e w' => e = .returned (.bool (decide (0 ≤ x ∧ x ≤ 127))) ∧ w' = w := by
  by_cases h1 : 0 ≤ x
  · have d1 : decide (0 ≤ x) = true := decide_eq_true h1
    by_cases h2 : x ≤ 127
    · have d2 : decide (x < 128) = true := decide_eq_true (by omega)
      rw [decide_eq_true (And.intro h1 h2)]
      go_enter Tryd.func45, Tryd.ntmps45
      repeat (first | go_values | go_skip | go_guarded | go_step | go_upon)
      go_ret
      simp
    · have d2 : decide (x < 128) = false := decide_eq_false (by omega)
      rw [decide_eq_false (fun h => h2 h.2)]
      go_enter Tryd.func45, Tryd.ntmps45
      repeat (first | go_values | go_skip | go_guarded | go_step | go_upon)
      go_ret
      simp
  · have d1 : decide (0 ≤ x) = false := decide_eq_false h1
    rw [decide_eq_false (fun h => h1 h.1)]
    go_enter Tryd.func45, Tryd.ntmps45
    repeat (first | go_values | go_skip | go_guarded | go_step | go_upon)
    go_ret
    simp

theorem ifit8 (x : Int) (w : World) : Calls Tryd.prog 45 #[.int .i64 x, .int .i64 8] w fun e w' => e = .returned (.bool (decide (0 ≤ x ∧ x ≤ 255))) ∧ w' = w := by
  by_cases h1 : 0 ≤ x
  · have d1 : decide (0 ≤ x) = true := decide_eq_true h1
    by_cases h2 : x ≤ 255
    · have d2 : decide (x < 256) = true := decide_eq_true (by omega)
      rw [decide_eq_true (And.intro h1 h2)]
      go_enter Tryd.func45, Tryd.ntmps45
      repeat (first | go_values | go_skip | go_guarded | go_step | go_upon)
      go_ret
      simp
    · have d2 : decide (x < 256) = false := decide_eq_false (by omega)
      rw [decide_eq_false (fun h => h2 h.2)]
      go_enter Tryd.func45, Tryd.ntmps45
      repeat (first | go_values | go_skip | go_guarded | go_step | go_upon)
      go_ret
      simp
  · have d1 : decide (0 ≤ x) = false := decide_eq_false h1
    rw [decide_eq_false (fun h => h1 h.1)]
    go_enter Tryd.func45, Tryd.ntmps45
    repeat (first | go_values | go_skip | go_guarded | go_step | go_upon)
    go_ret
    simp

theorem ifields (y0 y1 y2 y3 : Int) (w : World) : Calls Tryd.prog 87 #[.agg #[.int .i64 y0, .int .i64 y1, .int .i64 y2, .int .i64 y3]] w fun e w' => e = .returned (.agg #[.int .i64 y1, .int .i64 y2, .int .i64 y3]) ∧ Kept w w' := by
  go_enter Tryd.func87, Tryd.ntmps87
  repeat (first | go_values | go_skip | go_guarded | go_step | go_upon)
  refine bodyPost_ret (v := .agg #[.int .i64 y1, .int .i64 y2, .int .i64 y3]) (by simp [results, Tryd.results87, go_sem]) rfl ?_
  exact ⟨rfl, ((But.refl _ _ _).alloc _).alloc _⟩

set_option maxHeartbeats 8000000 in
theorem ithing (y0 y1 y2 y3 : Int) (w : World) (hT : Tab w) : Calls Tryd.prog 69 #[.agg #[.int .i64 y0, .int .i64 y1, .int .i64 y2, .int .i64 y3]] w fun e w' => e = .returned (.bool (decide (GoodTP (y0, y1, y2, y3)))) ∧ Kept w w' := by
  have NO : Hid (¬ GoodTP (y0, y1, y2, y3) → decide (GoodTP (y0, y1, y2, y3)) = false) := fun h => decide_eq_false h
  have YES : Hid (GoodTP (y0, y1, y2, y3) → decide (GoodTP (y0, y1, y2, y3)) = true) := fun h => decide_eq_true h
  generalize decide (GoodTP (y0, y1, y2, y3)) = R at *
  have L := Loc.new w [.int .i64 y0, .int .i64 y1, .int .i64 y2, .int .i64 y3] 57
  have a0 := L.cell 0 rfl
  go_enter Tryd.func69, Tryd.ntmps69
  repeat (first | go_values | go_skip | go_guarded | go_step | go_upon)
  go_at_call 87
  refine (ifields y0 y1 y2 y3 _).mono ?_
  rintro e u1 ⟨rfl, k1⟩
  have K1 : Kept w u1 := ((But.refl _ _ _).alloc _).trans k1
  have L := L.kept k1
  clear k1 a0
  dsimp only
  repeat (first | go_values | go_skip | go_guarded | go_step | go_upon)
  go_loopw [7] (fun i wr => Hid ((i = .int .i64 0 ∧ True) ∨ (i = .int .i64 1 ∧ (0 ≤ y1 ∧ y1 ≤ 1023)) ∨ (i = .int .i64 2 ∧ (0 ≤ y1 ∧ y1 ≤ 1023) ∧ (0 ≤ y2 ∧ y2 ≤ 1023)) ∨ (i = .int .i64 3 ∧ (0 ≤ y1 ∧ y1 ≤ 1023) ∧ (0 ≤ y2 ∧ y2 ≤ 1023) ∧ (0 ≤ y3 ∧ y3 ≤ 127))) ∧ wr = u1) (fun i _ => 3 - (intOf i).toNat)
  case atStart => exact ⟨.inl ⟨rfl, trivial⟩, rfl⟩
  case round =>
    obtain ⟨hrel, rfl⟩ := hrel
    have hTT := hT.kept K1
    have t0 := hTT 0 (by decide)
    have t1 := hTT 1 (by decide)
    have t2 := hTT 2 (by decide)
    simp only [tab, zs3, List.getD_cons_zero, List.getD_cons_succ] at t0 t1 t2
    have b0 := L.cell 0 rfl
    have hrel := hrel.out
    rcases hrel with ⟨rfl, hg⟩ | ⟨rfl, hg⟩ | ⟨rfl, hg⟩ | ⟨rfl, hg⟩
    · have HG : Hid _ := hg
      clear hg
      have hix : ∀ W, Sem.run Tryd.prog (Instr.index 96 (.agg #[.int .i64 y1, .int .i64 y2, .int .i64 y3]) (.int .i64 0)) W = .ok (.int .i64 y1) W := fun W => by kernel_rfl
      rcases (Decidable.em (0 ≤ y1 ∧ y1 ≤ 1023)).symm with h | h
      · have d : decide (0 ≤ y1 ∧ y1 ≤ 1023) = false := decide_eq_false h
        have hR := NO.out (fun hh => h hh.2.1)
        subst hR
        clear h
        repeat (first | (go_at_call 45; refine (ifit10 _ _).mono ?_; rintro e w3 ⟨rfl, hw3⟩; rw [hw3]; clear hw3 w3; rw [d]; dsimp only) | go_values | go_skip | go_guarded | go_step | go_upon)
        go_ret
        exact ⟨rfl, K1⟩
      · have d : decide (0 ≤ y1 ∧ y1 ≤ 1023) = true := decide_eq_true h
        have HH : Hid _ := h
        clear h
        repeat (first | (go_at_call 45; refine (ifit10 _ _).mono ?_; rintro e w3 ⟨rfl, hw3⟩; rw [hw3]; clear hw3 w3; rw [d]; dsimp only) | go_values | go_skip | go_guarded | go_step | go_upon)
        exact ⟨⟨.inr (.inl ⟨rfl, HH.out⟩), trivial⟩, by simp [intOf]⟩
    · have HG : Hid _ := hg
      clear hg
      have hix : ∀ W, Sem.run Tryd.prog (Instr.index 96 (.agg #[.int .i64 y1, .int .i64 y2, .int .i64 y3]) (.int .i64 1)) W = .ok (.int .i64 y2) W := fun W => by kernel_rfl
      rcases (Decidable.em (0 ≤ y2 ∧ y2 ≤ 1023)).symm with h | h
      · have d : decide (0 ≤ y2 ∧ y2 ≤ 1023) = false := decide_eq_false h
        have hR := NO.out (fun hh => h hh.2.2.1)
        subst hR
        clear h
        repeat (first | (go_at_call 45; refine (ifit10 _ _).mono ?_; rintro e w3 ⟨rfl, hw3⟩; rw [hw3]; clear hw3 w3; rw [d]; dsimp only) | go_values | go_skip | go_guarded | go_step | go_upon)
        go_ret
        exact ⟨rfl, K1⟩
      · have d : decide (0 ≤ y2 ∧ y2 ≤ 1023) = true := decide_eq_true h
        have HH : Hid _ := h
        clear h
        repeat (first | (go_at_call 45; refine (ifit10 _ _).mono ?_; rintro e w3 ⟨rfl, hw3⟩; rw [hw3]; clear hw3 w3; rw [d]; dsimp only) | go_values | go_skip | go_guarded | go_step | go_upon)
        exact ⟨⟨.inr (.inr (.inl ⟨rfl, HG.out, HH.out⟩)), trivial⟩, by simp [intOf]⟩
    · have HG : Hid _ := hg
      clear hg
      have hix : ∀ W, Sem.run Tryd.prog (Instr.index 96 (.agg #[.int .i64 y1, .int .i64 y2, .int .i64 y3]) (.int .i64 2)) W = .ok (.int .i64 y3) W := fun W => by kernel_rfl
      rcases (Decidable.em (0 ≤ y3 ∧ y3 ≤ 127)).symm with h | h
      · have d : decide (0 ≤ y3 ∧ y3 ≤ 127) = false := decide_eq_false h
        have hR := NO.out (fun hh => h hh.2.2.2)
        subst hR
        clear h
        repeat (first | (go_at_call 45; refine (ifit7 _ _).mono ?_; rintro e w3 ⟨rfl, hw3⟩; rw [hw3]; clear hw3 w3; rw [d]; dsimp only) | go_values | go_skip | go_guarded | go_step | go_upon)
        go_ret
        exact ⟨rfl, K1⟩
      · have d : decide (0 ≤ y3 ∧ y3 ≤ 127) = true := decide_eq_true h
        have HH : Hid _ := h
        clear h
        repeat (first | (go_at_call 45; refine (ifit7 _ _).mono ?_; rintro e w3 ⟨rfl, hw3⟩; rw [hw3]; clear hw3 w3; rw [d]; dsimp only) | go_values | go_skip | go_guarded | go_step | go_upon)
        exact ⟨⟨.inr (.inr (.inr (⟨rfl, HG.out.1, HG.out.2, HH.out⟩))), trivial⟩, by simp [intOf]⟩
    · have HG : Hid _ := hg
      clear hg
      rcases (Decidable.em (0 ≤ y0 ∧ y0 ≤ 255)).symm with h | h
      · have d : decide (0 ≤ y0 ∧ y0 ≤ 255) = false := decide_eq_false h
        have hR := NO.out (fun hh => h hh.1)
        subst hR
        clear h
        repeat (first | (go_at_call 45; refine (ifit8 _ _).mono ?_; rintro e w3 ⟨rfl, hw3⟩; rw [hw3]; clear hw3 w3; rw [d]; dsimp only) | go_values | go_skip | go_guarded | go_step | go_upon)
        go_ret
        exact ⟨rfl, K1⟩
      · have d : decide (0 ≤ y0 ∧ y0 ≤ 255) = true := decide_eq_true h
        have hR := YES.out ⟨h, HG.out.1, HG.out.2.1, HG.out.2.2⟩
        subst hR
        clear h
        repeat (first | (go_at_call 45; refine (ifit8 _ _).mono ?_; rintro e w3 ⟨rfl, hw3⟩; rw [hw3]; clear hw3 w3; rw [d]; dsimp only) | go_values | go_skip | go_guarded | go_step | go_upon)
        go_ret
        exact ⟨rfl, K1⟩

end Go.Proofs.YtaadlhcpgjibeaaDoor
