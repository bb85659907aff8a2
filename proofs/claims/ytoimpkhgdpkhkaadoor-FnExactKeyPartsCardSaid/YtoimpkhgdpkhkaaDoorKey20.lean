/-
  Keys of items, in the specification.
-/
import Derived.Test.YtoimpkhgdpkhkaaDoorItem20
namespace Go.Proofs.YtoimpkhgdpkhkaaDoor
open Go.ChangeShapes Go.WideShapes Go.ChangeAt Go.RowKit

set_option maxRecDepth 100000
set_option linter.unusedVariables false
set_option linter.unusedSimpArgs false

def keyM (f0 f1 f2 f3 : Int) (f4 : Bool) : Int := if f4 = true then f0 * 536870912 + 268435456 + (4095 - f3) * 65536 + f1 * 256 + f2 else f0 * 536870912 + f1 * 1048576 + f2 * 4096 + f3
set_option maxHeartbeats 4000000 in
theorem skey (f0 f1 f2 f3 : Int) (f4 : Bool) (f5 f6 f7 f8 : Int) (w : World) (h : HeadP f0 f1 f2 f3) : Calls Tryd.prog 32 #[.agg #[.int .i64 f0, .int .i64 f1, .int .i64 f2, .int .i64 f3, .bool f4, .int .i64 f5, .int .i64 f6, .int .i64 f7, .int .i64 f8]] w fun e w' => e = .returned (.int .i64 (keyM f0 f1 f2 f3 f4)) ∧ Kept w w' := by
  obtain ⟨⟨a1, a2⟩, ⟨b1, b2⟩, ⟨c1, c2⟩, d1, d2⟩ := h
  cases f4 with
  | true =>
    go_enter Tryd.func32, Tryd.ntmps32
    repeat (first | go_values | go_skip | go_guarded | go_step | go_upon)
    go_ret
    exact ⟨ret_intG (by simp [keyM]), (But.refl _ _ _).alloc _⟩
  | false =>
    go_enter Tryd.func32, Tryd.ntmps32
    repeat (first | go_values | go_skip | go_guarded | go_step | go_upon)
    go_ret
    exact ⟨ret_intG (by simp [keyM]), (But.refl _ _ _).alloc _⟩
def keyA (p : ItemD) : Int := if ItemP p then keyM p.1 p.2.1 p.2.2.1 p.2.2.2.1 p.2.2.2.2.1 else 0
set_option maxHeartbeats 4000000 in
theorem ssort (f0 f1 f2 f3 : Int) (f4 : Bool) (f5 f6 f7 f8 : Int) (w : World) : Calls Tryd.prog 9 #[.agg #[.int .i64 f0, .int .i64 f1, .int .i64 f2, .int .i64 f3, .bool f4, .int .i64 f5, .int .i64 f6, .int .i64 f7, .int .i64 f8]] w fun e w' => e = .returned (.tuple #[.int .i64 (keyA (f0, f1, f2, f3, f4, f5, f6, f7, f8)), .bool (decide (ItemP (f0, f1, f2, f3, f4, f5, f6, f7, f8)))]) ∧ Kept w w' := by
  rcases (Decidable.em (ItemP (f0, f1, f2, f3, f4, f5, f6, f7, f8))).symm with h | h
  · have d : decide (ItemP (f0, f1, f2, f3, f4, f5, f6, f7, f8)) = false := decide_eq_false h
    rw [show keyA (f0, f1, f2, f3, f4, f5, f6, f7, f8) = 0 from if_neg h, d]
    clear h
    go_enter Tryd.func9, Tryd.ntmps9
    repeat (first | (go_at_call 31; refine (sitem _ _ _ _ _ _ _ _ _ _).mono ?_; rintro e u1 ⟨rfl, k1⟩; rw [d]; dsimp only) | go_values | go_skip | go_guarded | go_step | go_upon)
    go_ret2
    exact ⟨rfl, ((But.refl _ _ _).alloc _).trans k1⟩
  · have d : decide (ItemP (f0, f1, f2, f3, f4, f5, f6, f7, f8)) = true := decide_eq_true h
    rw [show keyA (f0, f1, f2, f3, f4, f5, f6, f7, f8) = keyM f0 f1 f2 f3 f4 from if_pos h, d]
    have SK : Hid (∀ W, Calls Tryd.prog 32 #[.agg #[.int .i64 f0, .int .i64 f1, .int .i64 f2, .int .i64 f3, .bool f4, .int .i64 f5, .int .i64 f6, .int .i64 f7, .int .i64 f8]] W fun e w' => e = .returned (.int .i64 (keyM f0 f1 f2 f3 f4)) ∧ Kept W w') := fun W => skey f0 f1 f2 f3 f4 f5 f6 f7 f8 W h.1
    clear h
    have L := Loc.new w [.int .i64 f0, .int .i64 f1, .int .i64 f2, .int .i64 f3, .bool f4, .int .i64 f5, .int .i64 f6, .int .i64 f7, .int .i64 f8] 26
    go_enter Tryd.func9, Tryd.ntmps9
    repeat (first | (go_at_call 31; refine (sitem _ _ _ _ _ _ _ _ _ _).mono ?_; rintro e u1 ⟨rfl, k1⟩; rw [d]; dsimp only; have L := L.kept k1; have c0 := L.cell 0 rfl; have c1 := L.cell 1 rfl; have c2 := L.cell 2 rfl; have c3 := L.cell 3 rfl; have c4 := L.cell 4 rfl; have c5 := L.cell 5 rfl; have c6 := L.cell 6 rfl; have c7 := L.cell 7 rfl; have c8 := L.cell 8 rfl; have cl := L.lt) | (go_at_call 32; refine (SK.out _).mono ?_; rintro e u2 ⟨rfl, k2⟩; dsimp only) | go_values | go_skip | go_guarded | go_step | go_upon)
    go_ret2
    exact ⟨rfl, (((But.refl _ _ _).alloc _).trans k1).trans k2⟩
set_option maxHeartbeats 4000000 in
theorem iparts (f0 f1 f2 f3 : Int) (f4 : Bool) (f5 f6 f7 f8 : Int) (w : World) (h : HeadP f0 f1 f2 f3) : Calls Tryd.prog 29 #[.agg #[.int .i64 f0, .int .i64 f1, .int .i64 f2, .int .i64 f3, .bool f4, .int .i64 f5, .int .i64 f6, .int .i64 f7, .int .i64 f8]] w fun e w' => e = .returned (.agg #[.int .i64 f0, .int .i64 (if f4 = true then 1 else 0), .int .i64 f1, .int .i64 f2, .int .i64 (if f4 = true then 4095 - f3 else f3)]) ∧ Kept w w' := by
  obtain ⟨⟨a1, a2⟩, ⟨b1, b2⟩, ⟨c1, c2⟩, d1, d2⟩ := h
  cases f4 with
  | true =>
    simp only [if_true]
    go_enter Tryd.func29, Tryd.ntmps29
    go_wp2
    refine bodyPost_ret (v := .agg #[.int .i64 f0, .int .i64 1, .int .i64 f1, .int .i64 f2, .int .i64 (4095 - f3)]) (by simp [results, Tryd.results29, go_sem]) rfl ?_
    exact ⟨rfl, (((But.refl _ _ _).alloc _).alloc _).alloc _⟩
  | false =>
    simp only [Bool.false_eq_true, if_false]
    go_enter Tryd.func29, Tryd.ntmps29
    go_wp2
    refine bodyPost_ret (v := .agg #[.int .i64 f0, .int .i64 0, .int .i64 f1, .int .i64 f2, .int .i64 f3]) (by simp [results, Tryd.results29, go_sem]) rfl ?_
    exact ⟨rfl, (((But.refl _ _ _).alloc _).alloc _).alloc _⟩
theorem iorder (b : Bool) (w : World) : Calls Tryd.prog 30 #[.bool b] w fun e w' => e = .returned (if b = true then .agg #[.int .i64 0, .int .i64 1, .int .i64 4, .int .i64 2, .int .i64 3] else .agg #[.int .i64 0, .int .i64 1, .int .i64 2, .int .i64 3, .int .i64 4]) ∧ Kept w w' := by
  cases b with
  | true =>
    simp only [if_true]
    go_enter Tryd.func30, Tryd.ntmps30
    go_wp2
    refine bodyPost_ret (v := .agg #[.int .i64 0, .int .i64 1, .int .i64 4, .int .i64 2, .int .i64 3]) (by simp [results, Tryd.results30, go_sem]) rfl ?_
    exact ⟨rfl, (But.refl _ _ _).alloc _⟩
  | false =>
    simp only [Bool.false_eq_true, if_false]
    go_enter Tryd.func30, Tryd.ntmps30
    go_wp2
    refine bodyPost_ret (v := .agg #[.int .i64 0, .int .i64 1, .int .i64 2, .int .i64 3, .int .i64 4]) (by simp [results, Tryd.results30, go_sem]) rfl ?_
    exact ⟨rfl, (But.refl _ _ _).alloc _⟩

end Go.Proofs.YtoimpkhgdpkhkaaDoor
