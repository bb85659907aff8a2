/-
  The closure that says which of two places comes first.
-/
import Derived.Test.YtaofilinejanjaaSymI18
namespace Go.Proofs.Ytaofilinejanjaa
open Go.ChangeShapes Go.WideShapes Go.ChangeAt Go.RowKit

set_option maxRecDepth 100000
set_option linter.unusedVariables false

def cmpM (a b : Int) : Int := if a < b then -1 else if b < a then 1 else 0
theorem cmpM_lt (a b : Int) : cmpM a b < 0 ↔ a < b := by unfold cmpM; split <;> (try split) <;> omega
theorem inan (x : Int) (w : World) : Calls Try.prog 56 #[.int .i64 x] w fun e w' => e = .returned (.bool false) ∧ w' = w := by
  go_enter Try.func56, Try.ntmps56
  go_wp2
  go_ret
  exact ⟨by simp, rfl⟩
set_option maxHeartbeats 2000000 in
theorem icompare (x y : Int) (w : World) : Calls Try.prog 54 #[.int .i64 x, .int .i64 y] w fun e w' => e = .returned (.int .i64 (cmpM x y)) ∧ w' = w := by
  have hA : ∀ (z : Int) (W : World), Calls Try.prog 56 #[.int .i64 z] W fun e w' => e = .returned (.bool false) ∧ w' = W := inan
  have AN : Hid (∀ (z : Int) (W : World), Calls Try.prog 56 #[.int .i64 z] W fun e w' => e = .returned (.bool false) ∧ w' = W) := hA
  clear hA
  by_cases h1 : x < y
  · have d1 : decide (x < y) = true := decide_eq_true h1
    go_enter Try.func54, Try.ntmps54
    repeat (first | (go_at_call 56; refine (AN.out _ _).mono ?_; rintro e w3 ⟨rfl, hw3⟩; rw [hw3]; clear hw3 w3; dsimp only) | go_values | go_skip | go_guarded | go_step | go_upon)
    go_ret
    exact ⟨ret_intG (by unfold cmpM; rw [if_pos h1]), rfl⟩
  · have d1 : decide (x < y) = false := decide_eq_false h1
    by_cases h2 : y < x
    · have d2 : decide (y < x) = true := decide_eq_true h2
      go_enter Try.func54, Try.ntmps54
      repeat (first | (go_at_call 56; refine (AN.out _ _).mono ?_; rintro e w3 ⟨rfl, hw3⟩; rw [hw3]; clear hw3 w3; dsimp only) | go_values | go_skip | go_guarded | go_step | go_upon)
      go_ret
      exact ⟨ret_intG (by unfold cmpM; rw [if_neg h1, if_pos h2]), rfl⟩
    · have d2 : decide (y < x) = false := decide_eq_false h2
      go_enter Try.func54, Try.ntmps54
      repeat (first | (go_at_call 56; refine (AN.out _ _).mono ?_; rintro e w3 ⟨rfl, hw3⟩; rw [hw3]; clear hw3 w3; dsimp only) | go_values | go_skip | go_guarded | go_step | go_upon)
      go_ret
      exact ⟨ret_intG (by unfold cmpM; rw [if_neg h1, if_neg h2]), rfl⟩
set_option maxHeartbeats 4000000 in
theorem icl (W : World) (Bx b o n cap x y : Nat) (p q : Int) (hb : W.cell? ⟨Bx, 0, none⟩ = some (.slice (some ⟨b, o, none⟩) n cap)) (hx : W.cell? ⟨b, o + x, none⟩ = some (.int .i64 p)) (hy : W.cell? ⟨b, o + y, none⟩ = some (.int .i64 q)) (hxn : x < n) (hyn : y < n) :
    Calls Try.prog 53 #[.int .i64 (x : Int), .int .i64 (y : Int), .pointer (some ⟨Bx, 0, none⟩)] W fun e W' => e = .returned (.int .i64 (cmpM q p)) ∧ Kept W W' := by
  have AC : Hid (∀ V, Calls Try.prog 54 #[.int .i64 q, .int .i64 p] V fun e w' => e = .returned (.int .i64 (cmpM q p)) ∧ w' = V) := fun V => icompare q p V
  have z1 : (0 : Int) ≤ (x : Int) := by omega
  have z2 : (x : Int) < (n : Int) := by omega
  have z3 : (0 : Int) ≤ (y : Int) := by omega
  have z4 : (y : Int) < (n : Int) := by omega
  have h1 : Bx < W.heap.size := World.block_lt_of_cell? _ _ hb
  have h2 : b < W.heap.size := World.block_lt_of_cell? _ _ hx
  go_enter Try.func53, Try.ntmps53
  repeat (first | go_values | go_skip | go_guarded | go_step | go_upon)
  refine wp_region_kept (by kernel_rfl) (by kernel_rfl) ?_
  have hcc := @KW.cell_eq
  repeat (go_big_quiet_step (first | (go_at_call 54; with_reducible exact kw_same (AC.out _)) | fail))
  refine wpQuiet_nil ?_
  rintro w5 ⟨⟨w8, k5⟩, h9⟩
  change w5 = w8 at h9
  subst h9
  clear hcc
  repeat (first | go_values | go_skip | go_guarded | go_step | go_upon)
  go_ret
  exact ⟨rfl, k5⟩
/-- What stands at a place of a list of rests. -/
def rAt (l : List Int) (x : Int) : Int := (l[x.toNat]?).getD 0
theorem icmpC (w0 : World) (g Bx b o cap : Nat) (l : List Int) (hg1 : Bx ≠ g) (hg2 : b ≠ g) (hb : w0.cell? ⟨Bx, 0, none⟩ = some (.slice (some ⟨b, o, none⟩) l.length cap)) (hl : ∀ (i : Nat) (p : Int), l[i]? = some p → w0.cell? ⟨b, o + i, none⟩ = some (.int .i64 p)) : CmpC w0 g l.length Bx (rAt l) := by
  intro x y hx hy
  obtain ⟨p, hp⟩ : ∃ p, l[x.toNat]? = some p := ⟨_, List.getElem?_eq_getElem (by omega)⟩
  obtain ⟨q, hq⟩ : ∃ p, l[y.toNat]? = some p := ⟨_, List.getElem?_eq_getElem (by omega)⟩
  refine ⟨cmpM q p, ?_, fun W hW => ?_⟩
  · rw [cmpM_lt]
    unfold rAt
    rw [hp, hq]
    rfl
  · have tr : ∀ (c i : Nat) (v : Value), c ≠ g → w0.cell? ⟨c, i, none⟩ = some v → W.cell? ⟨c, i, none⟩ = some v := fun c i v hc h => (World.cell?_of_block (hW.block c (World.block_lt_of_cell? _ _ h) (by omega))).trans h
    have h := icl W Bx b o l.length cap x.toNat y.toNat p q (tr _ _ _ hg1 hb) (tr _ _ _ hg2 (hl _ _ hp)) (tr _ _ _ hg2 (hl _ _ hq)) (by omega) (by omega)
    rw [show ((x.toNat : Nat) : Int) = x by omega, show ((y.toNat : Nat) : Int) = y by omega] at h
    exact h

end Go.Proofs.Ytaofilinejanjaa
