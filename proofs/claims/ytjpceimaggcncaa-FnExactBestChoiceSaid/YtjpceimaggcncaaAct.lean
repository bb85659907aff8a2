/-
  Facts and actions: what is good, what may be done and what follows, in the specification and in the program.
-/
import Derived.Test.YtjpceimaggcncaaRows
import Derived.Test.YtjpceimaggcncaaAction
import Derived.Test.YtjpceimaggcncaaName
import Derived.Test.YtjpceimaggcncaaQuiet
namespace Go.Proofs.Ytjpceimaggcncaa
open Go.ChangeShapes Go.WideShapes Go.ChangeAt Go.RowKit
set_option maxRecDepth 100000

def factB (n : Int) : Bool := decide (0 ≤ n ∧ n ≤ 255)
def andI (a b : Int) : Int := bits BinOp.and IntKind.i64 a b
def metB (f n l : Int) : Bool := andI f n == n && andI f l == 0
def actB (p : ActionD) : Bool := nameB p.1 && (decide (1 ≤ p.2.1 ∧ p.2.1 ≤ 1000) && (factB p.2.2.1 && (factB p.2.2.2.1 && (factB p.2.2.2.2.1 && (factB p.2.2.2.2.2 && andI p.2.2.2.2.1 p.2.2.2.2.2 == 0)))))
def mayB (f : Int) (p : ActionD) : Bool := metB f p.2.2.1 p.2.2.2.1
def doB (f : Int) (p : ActionD) : Bool := factB f && (actB p && mayB f p)
def nextI (f : Int) (p : ActionD) : Int := bits BinOp.or IntKind.i64 (bits BinOp.andNot IntKind.i64 f p.2.2.2.2.2) p.2.2.2.2.1
def afterI (f : Int) (p : ActionD) : Int := if factB f = true then (if doB f p = true then nextI f p else f) else 0

theorem sIn (n lo hi : Int) (w : World) : Calls Try.prog 56 #[.int .i64 n, .int .i64 lo, .int .i64 hi] w fun e w' => e = .returned (.bool (decide (lo ≤ n ∧ n ≤ hi))) ∧ w' = w := by
  go_enter Try.func56, Try.ntmps56
  go_wp2
  all_goals
    go_ret
    exact ⟨ret_bool (by rw [Bool.eq_iff_iff]; simp <;> omega), rfl⟩

theorem ifacts (n : Int) (w : World) : Calls Try.prog 44 #[.int .i64 n] w fun e w' => e = .returned (.bool (factB n)) ∧ w' = w := by
  go_enter Try.func44, Try.ntmps44
  go_wp2
  all_goals
    go_ret
    exact ⟨ret_bool (by rw [Bool.eq_iff_iff]; simp [factB] <;> omega), rfl⟩

theorem sfacts (n : Int) (w : World) : Calls Try.prog 50 #[.int .i64 n] w fun e w' => e = .returned (.bool (factB n)) ∧ w' = w := by
  go_enter Try.func50, Try.ntmps50
  go_wp2_with (go_at_call 56; refine (sIn _ _ _ _).mono ?_; rintro e w' ⟨rfl, rfl⟩)
  go_ret
  exact ⟨ret_bool (by rw [Bool.eq_iff_iff]; simp [factB]), rfl⟩

theorem imet (f n l : Int) (w : World) : Calls Try.prog 48 #[.int .i64 f, .int .i64 n, .int .i64 l] w fun e w' => e = .returned (.bool (metB f n l)) ∧ w' = w := by
  go_enter Try.func48, Try.ntmps48
  go_wp2
  all_goals
    go_ret
    exact ⟨ret_bool (by simp_all [metB, andI]), rfl⟩

theorem smay (nm : ByteArray) (co ne la ga lo : Int) (f : Int) (w : World) : Calls Try.prog 52 #[.int .i64 f, .agg #[.string nm, .int .i64 co, .int .i64 ne, .int .i64 la, .int .i64 ga, .int .i64 lo]] w fun e w' => e = .returned (.bool (mayB f (nm, co, ne, la, ga, lo))) ∧ Kept w w' := by
  go_enter Try.func52, Try.ntmps52
  go_wp2
  all_goals
    go_ret
    exact ⟨ret_bool (by simp_all [mayB, metB, andI]), (But.refl _ _ _).alloc _⟩
theorem safter (nm : ByteArray) (co ne la ga lo : Int) (f : Int) (w : World) : Calls Try.prog 53 #[.int .i64 f, .agg #[.string nm, .int .i64 co, .int .i64 ne, .int .i64 la, .int .i64 ga, .int .i64 lo]] w fun e w' => e = .returned (.int .i64 (nextI f (nm, co, ne, la, ga, lo))) ∧ Kept w w' := by
  go_enter Try.func53, Try.ntmps53
  go_wp2
  go_ret
  exact ⟨rfl, (But.refl _ _ _).alloc _⟩
theorem iact (nm : ByteArray) (co ne la ga lo : Int) (w : World) (hs : nm.size ≤ 1048576) : Calls Try.prog 20 #[.agg #[.string nm, .int .i64 co, .int .i64 ne, .int .i64 la, .int .i64 ga, .int .i64 lo]] w fun e w' => e = .returned (.bool (actB (nm, co, ne, la, ga, lo))) ∧ Kept w w' := by
  go_enter Try.func20, Try.ntmps20
  go_wp2_with (first | (go_at_call 59; refine (iname _ _ hs).mono ?_; rintro e w' ⟨rfl, rfl⟩) | (go_at_call 44; refine (ifacts _ _).mono ?_; rintro e w' ⟨rfl, rfl⟩))
  all_goals
    go_ret
    exact ⟨ret_bool (by simp_all [actB, andI] <;> omega), (But.refl _ _ _).alloc _⟩
theorem sact (nm : ByteArray) (co ne la ga lo : Int) (w : World) (hs : nm.size ≤ 1048576) : Calls Try.prog 15 #[.agg #[.string nm, .int .i64 co, .int .i64 ne, .int .i64 la, .int .i64 ga, .int .i64 lo]] w fun e w' => e = .returned (.bool (actB (nm, co, ne, la, ga, lo))) ∧ Kept w w' := by
  go_enter Try.func15, Try.ntmps15
  go_wp2_with (first | (go_at_call 55; refine (sname _ _ hs).mono ?_; rintro e w' ⟨rfl, rfl⟩) | (go_at_call 56; refine (sIn _ _ _ _).mono ?_; rintro e w' ⟨rfl, rfl⟩) | (go_at_call 50; refine (sfacts _ _).mono ?_; rintro e w' ⟨rfl, rfl⟩))
  all_goals
    go_ret
    exact ⟨ret_bool (by simp_all [actB, andI] <;> omega), (But.refl _ _ _).alloc _⟩
theorem ido (nm : ByteArray) (co ne la ga lo : Int) (f : Int) (w : World) (hs : nm.size ≤ 1048576) : Calls Try.prog 22 #[.int .i64 f, .agg #[.string nm, .int .i64 co, .int .i64 ne, .int .i64 la, .int .i64 ga, .int .i64 lo]] w fun e w' => e = .returned (.bool (doB f (nm, co, ne, la, ga, lo))) ∧ Kept w w' := by
  cases hf : factB f
  · go_enter Try.func22, Try.ntmps22
    repeat (first | (go_at_call 44; refine (ifacts _ _).mono ?_; rw [hf]; rintro e w' ⟨rfl, rfl⟩; dsimp only) | go_values | go_skip | go_guarded | go_step | go_upon)
    go_ret
    exact ⟨ret_bool (by simp [doB, hf]), by (repeat (first | with_reducible exact But.refl _ _ _ | with_reducible apply But.drewN | with_reducible apply But.drew | with_reducible apply But.alloc))⟩
  cases ha : actB (nm, co, ne, la, ga, lo)
  · go_enter Try.func22, Try.ntmps22
    repeat (first | (go_at_call 44; refine (ifacts _ _).mono ?_; rw [hf]; rintro e w' ⟨rfl, rfl⟩; dsimp only) | (go_at_call 20; refine (iact _ _ _ _ _ _ _ hs).mono ?_; rw [ha]; rintro e w1 ⟨rfl, k1⟩; have hck1 := Kept.cell_eq k1; have hfk1 := Kept.frozen_eq k1; have hzk1 := k1.size; (try simp at hzk1); have nk1 : w.heap.size < w1.heap.size := (by omega); have Kk1 : Kept w w1 := (But.trans (by (repeat (first | with_reducible exact But.refl _ _ _ | with_reducible apply But.drewN | with_reducible apply But.drew | with_reducible apply But.alloc))) k1); clear k1; dsimp only) | go_values | go_skip | go_guarded | go_step | go_upon)
    go_ret
    exact ⟨ret_bool (by simp [doB, ha]), by (repeat (first | with_reducible exact Kk1 | with_reducible apply But.drewN | with_reducible apply But.drew | with_reducible apply But.alloc))⟩
  cases hm : mayB f (nm, co, ne, la, ga, lo)
  · go_enter Try.func22, Try.ntmps22
    repeat (first | (go_at_call 44; refine (ifacts _ _).mono ?_; rw [hf]; rintro e w' ⟨rfl, rfl⟩; dsimp only) | (go_at_call 20; refine (iact _ _ _ _ _ _ _ hs).mono ?_; rw [ha]; rintro e w1 ⟨rfl, k1⟩; have hck1 := Kept.cell_eq k1; have hfk1 := Kept.frozen_eq k1; have hzk1 := k1.size; (try simp at hzk1); have nk1 : w.heap.size < w1.heap.size := (by omega); have Kk1 : Kept w w1 := (But.trans (by (repeat (first | with_reducible exact But.refl _ _ _ | with_reducible apply But.drewN | with_reducible apply But.drew | with_reducible apply But.alloc))) k1); clear k1; dsimp only) | (go_at_call 48; refine (imet _ _ _ _).mono ?_; rw [show metB _ _ _ = _ from hm]; rintro e w' ⟨rfl, rfl⟩; dsimp only) | go_values | go_skip | go_guarded | go_step | go_upon)
    go_ret
    exact ⟨ret_bool (by simp [doB, hm]), by (repeat (first | with_reducible exact Kk1 | with_reducible apply But.drewN | with_reducible apply But.drew | with_reducible apply But.alloc))⟩
  · go_enter Try.func22, Try.ntmps22
    repeat (first | (go_at_call 44; refine (ifacts _ _).mono ?_; rw [hf]; rintro e w' ⟨rfl, rfl⟩; dsimp only) | (go_at_call 20; refine (iact _ _ _ _ _ _ _ hs).mono ?_; rw [ha]; rintro e w1 ⟨rfl, k1⟩; have hck1 := Kept.cell_eq k1; have hfk1 := Kept.frozen_eq k1; have hzk1 := k1.size; (try simp at hzk1); have nk1 : w.heap.size < w1.heap.size := (by omega); have Kk1 : Kept w w1 := (But.trans (by (repeat (first | with_reducible exact But.refl _ _ _ | with_reducible apply But.drewN | with_reducible apply But.drew | with_reducible apply But.alloc))) k1); clear k1; dsimp only) | (go_at_call 48; refine (imet _ _ _ _).mono ?_; rw [show metB _ _ _ = _ from hm]; rintro e w' ⟨rfl, rfl⟩; dsimp only) | go_values | go_skip | go_guarded | go_step | go_upon)
    go_ret
    exact ⟨ret_bool (by simp [doB, hf, ha, hm]), by (repeat (first | with_reducible exact Kk1 | with_reducible apply But.drewN | with_reducible apply But.drew | with_reducible apply But.alloc))⟩

theorem sdo (nm : ByteArray) (co ne la ga lo : Int) (f : Int) (w : World) (hs : nm.size ≤ 1048576) : Calls Try.prog 21 #[.int .i64 f, .agg #[.string nm, .int .i64 co, .int .i64 ne, .int .i64 la, .int .i64 ga, .int .i64 lo]] w fun e w' => e = .returned (.bool (doB f (nm, co, ne, la, ga, lo))) ∧ Kept w w' := by
  cases hf : factB f
  · go_enter Try.func21, Try.ntmps21
    repeat (first | (go_at_call 50; refine (sfacts _ _).mono ?_; rw [hf]; rintro e w' ⟨rfl, rfl⟩; dsimp only) | go_values | go_skip | go_guarded | go_step | go_upon)
    go_ret
    exact ⟨ret_bool (by simp [doB, hf]), by (repeat (first | with_reducible exact But.refl _ _ _ | with_reducible apply But.drewN | with_reducible apply But.drew | with_reducible apply But.alloc))⟩
  cases ha : actB (nm, co, ne, la, ga, lo)
  · go_enter Try.func21, Try.ntmps21
    repeat (first | (go_at_call 50; refine (sfacts _ _).mono ?_; rw [hf]; rintro e w' ⟨rfl, rfl⟩; dsimp only) | (go_at_call 15; refine (sact _ _ _ _ _ _ _ hs).mono ?_; rw [ha]; rintro e w1 ⟨rfl, k1⟩; have hck1 := Kept.cell_eq k1; have hfk1 := Kept.frozen_eq k1; have hzk1 := k1.size; (try simp at hzk1); have nk1 : w.heap.size < w1.heap.size := (by omega); have Kk1 : Kept w w1 := (But.trans (by (repeat (first | with_reducible exact But.refl _ _ _ | with_reducible apply But.drewN | with_reducible apply But.drew | with_reducible apply But.alloc))) k1); clear k1; dsimp only) | go_values | go_skip | go_guarded | go_step | go_upon)
    go_ret
    exact ⟨ret_bool (by simp [doB, ha]), by (repeat (first | with_reducible exact Kk1 | with_reducible apply But.drewN | with_reducible apply But.drew | with_reducible apply But.alloc))⟩
  cases hm : mayB f (nm, co, ne, la, ga, lo)
  · go_enter Try.func21, Try.ntmps21
    repeat (first | (go_at_call 50; refine (sfacts _ _).mono ?_; rw [hf]; rintro e w' ⟨rfl, rfl⟩; dsimp only) | (go_at_call 15; refine (sact _ _ _ _ _ _ _ hs).mono ?_; rw [ha]; rintro e w1 ⟨rfl, k1⟩; have hck1 := Kept.cell_eq k1; have hfk1 := Kept.frozen_eq k1; have hzk1 := k1.size; (try simp at hzk1); have nk1 : w.heap.size < w1.heap.size := (by omega); have Kk1 : Kept w w1 := (But.trans (by (repeat (first | with_reducible exact But.refl _ _ _ | with_reducible apply But.drewN | with_reducible apply But.drew | with_reducible apply But.alloc))) k1); clear k1; dsimp only) | (go_at_call 52; refine (smay _ _ _ _ _ _ _ _).mono ?_; rw [hm]; rintro e w2 ⟨rfl, k2⟩; have hck2 := Kept.cell_eq k2; have hfk2 := Kept.frozen_eq k2; have hzk2 := k2.size; (try simp at hzk2); have nk2 : w.heap.size < w2.heap.size := (by omega); have Kk2 : Kept w w2 := (But.trans (by (repeat (first | with_reducible exact Kk1 | with_reducible apply But.drewN | with_reducible apply But.drew | with_reducible apply But.alloc))) k2); clear k2; dsimp only) | go_values | go_skip | go_guarded | go_step | go_upon)
    go_ret
    exact ⟨ret_bool (by simp [doB, hm]), by (repeat (first | with_reducible exact Kk2 | with_reducible apply But.drewN | with_reducible apply But.drew | with_reducible apply But.alloc))⟩
  · go_enter Try.func21, Try.ntmps21
    repeat (first | (go_at_call 50; refine (sfacts _ _).mono ?_; rw [hf]; rintro e w' ⟨rfl, rfl⟩; dsimp only) | (go_at_call 15; refine (sact _ _ _ _ _ _ _ hs).mono ?_; rw [ha]; rintro e w1 ⟨rfl, k1⟩; have hck1 := Kept.cell_eq k1; have hfk1 := Kept.frozen_eq k1; have hzk1 := k1.size; (try simp at hzk1); have nk1 : w.heap.size < w1.heap.size := (by omega); have Kk1 : Kept w w1 := (But.trans (by (repeat (first | with_reducible exact But.refl _ _ _ | with_reducible apply But.drewN | with_reducible apply But.drew | with_reducible apply But.alloc))) k1); clear k1; dsimp only) | (go_at_call 52; refine (smay _ _ _ _ _ _ _ _).mono ?_; rw [hm]; rintro e w2 ⟨rfl, k2⟩; have hck2 := Kept.cell_eq k2; have hfk2 := Kept.frozen_eq k2; have hzk2 := k2.size; (try simp at hzk2); have nk2 : w.heap.size < w2.heap.size := (by omega); have Kk2 : Kept w w2 := (But.trans (by (repeat (first | with_reducible exact Kk1 | with_reducible apply But.drewN | with_reducible apply But.drew | with_reducible apply But.alloc))) k2); clear k2; dsimp only) | go_values | go_skip | go_guarded | go_step | go_upon)
    go_ret
    exact ⟨ret_bool (by simp [doB, hf, ha, hm]), by (repeat (first | with_reducible exact Kk2 | with_reducible apply But.drewN | with_reducible apply But.drew | with_reducible apply But.alloc))⟩

theorem iafter (nm : ByteArray) (co ne la ga lo : Int) (f : Int) (w : World) (hs : nm.size ≤ 1048576) : Calls Try.prog 24 #[.int .i64 f, .agg #[.string nm, .int .i64 co, .int .i64 ne, .int .i64 la, .int .i64 ga, .int .i64 lo]] w fun e w' => e = .returned (.int .i64 (afterI f (nm, co, ne, la, ga, lo))) ∧ Kept w w' := by
  cases hf : factB f
  · go_enter Try.func24, Try.ntmps24
    repeat (first | (go_at_call 44; refine (ifacts _ _).mono ?_; rw [hf]; rintro e w' ⟨rfl, rfl⟩; dsimp only) | go_values | go_skip | go_guarded | go_step | go_upon)
    go_ret
    exact ⟨ret_int (by simp [afterI, hf]), by (repeat (first | with_reducible exact But.refl _ _ _ | with_reducible apply But.drewN | with_reducible apply But.drew | with_reducible apply But.alloc))⟩
  cases ha : doB f (nm, co, ne, la, ga, lo)
  · go_enter Try.func24, Try.ntmps24
    repeat (first | (go_at_call 44; refine (ifacts _ _).mono ?_; rw [hf]; rintro e w' ⟨rfl, rfl⟩; dsimp only) | (go_at_call 22; refine (ido _ _ _ _ _ _ _ _ hs).mono ?_; rw [ha]; rintro e w1 ⟨rfl, k1⟩; have hck1 := Kept.cell_eq k1; have hfk1 := Kept.frozen_eq k1; have hzk1 := k1.size; (try simp at hzk1); have nk1 : w.heap.size < w1.heap.size := (by omega); have Kk1 : Kept w w1 := (But.trans (by (repeat (first | with_reducible exact But.refl _ _ _ | with_reducible apply But.drewN | with_reducible apply But.drew | with_reducible apply But.alloc))) k1); clear k1; dsimp only) | go_values | go_skip | go_guarded | go_step | go_upon)
    go_ret
    exact ⟨ret_int (by simp [afterI, hf, ha]), by (repeat (first | with_reducible exact Kk1 | with_reducible apply But.drewN | with_reducible apply But.drew | with_reducible apply But.alloc))⟩
  · go_enter Try.func24, Try.ntmps24
    repeat (first | (go_at_call 44; refine (ifacts _ _).mono ?_; rw [hf]; rintro e w' ⟨rfl, rfl⟩; dsimp only) | (go_at_call 22; refine (ido _ _ _ _ _ _ _ _ hs).mono ?_; rw [ha]; rintro e w1 ⟨rfl, k1⟩; have hck1 := Kept.cell_eq k1; have hfk1 := Kept.frozen_eq k1; have hzk1 := k1.size; (try simp at hzk1); have nk1 : w.heap.size < w1.heap.size := (by omega); have Kk1 : Kept w w1 := (But.trans (by (repeat (first | with_reducible exact But.refl _ _ _ | with_reducible apply But.drewN | with_reducible apply But.drew | with_reducible apply But.alloc))) k1); clear k1; dsimp only) | go_values | go_skip | go_guarded | go_step | go_upon)
    go_ret
    exact ⟨ret_int (by simp [afterI, hf, ha, nextI]), by (repeat (first | with_reducible exact Kk1 | with_reducible apply But.drewN | with_reducible apply But.drew | with_reducible apply But.alloc))⟩

theorem safterD (nm : ByteArray) (co ne la ga lo : Int) (f : Int) (w : World) (hs : nm.size ≤ 1048576) : Calls Try.prog 23 #[.int .i64 f, .agg #[.string nm, .int .i64 co, .int .i64 ne, .int .i64 la, .int .i64 ga, .int .i64 lo]] w fun e w' => e = .returned (.int .i64 (afterI f (nm, co, ne, la, ga, lo))) ∧ Kept w w' := by
  cases hf : factB f
  · go_enter Try.func23, Try.ntmps23
    repeat (first | (go_at_call 50; refine (sfacts _ _).mono ?_; rw [hf]; rintro e w' ⟨rfl, rfl⟩; dsimp only) | go_values | go_skip | go_guarded | go_step | go_upon)
    go_ret
    exact ⟨ret_int (by simp [afterI, hf]), by (repeat (first | with_reducible exact But.refl _ _ _ | with_reducible apply But.drewN | with_reducible apply But.drew | with_reducible apply But.alloc))⟩
  cases ha : doB f (nm, co, ne, la, ga, lo)
  · go_enter Try.func23, Try.ntmps23
    repeat (first | (go_at_call 50; refine (sfacts _ _).mono ?_; rw [hf]; rintro e w' ⟨rfl, rfl⟩; dsimp only) | (go_at_call 21; refine (sdo _ _ _ _ _ _ _ _ hs).mono ?_; rw [ha]; rintro e w1 ⟨rfl, k1⟩; have hck1 := Kept.cell_eq k1; have hfk1 := Kept.frozen_eq k1; have hzk1 := k1.size; (try simp at hzk1); have nk1 : w.heap.size < w1.heap.size := (by omega); have Kk1 : Kept w w1 := (But.trans (by (repeat (first | with_reducible exact But.refl _ _ _ | with_reducible apply But.drewN | with_reducible apply But.drew | with_reducible apply But.alloc))) k1); clear k1; dsimp only) | go_values | go_skip | go_guarded | go_step | go_upon)
    go_ret
    exact ⟨ret_int (by simp [afterI, hf, ha]), by (repeat (first | with_reducible exact Kk1 | with_reducible apply But.drewN | with_reducible apply But.drew | with_reducible apply But.alloc))⟩
  · go_enter Try.func23, Try.ntmps23
    repeat (first | (go_at_call 50; refine (sfacts _ _).mono ?_; rw [hf]; rintro e w' ⟨rfl, rfl⟩; dsimp only) | (go_at_call 21; refine (sdo _ _ _ _ _ _ _ _ hs).mono ?_; rw [ha]; rintro e w1 ⟨rfl, k1⟩; have hck1 := Kept.cell_eq k1; have hfk1 := Kept.frozen_eq k1; have hzk1 := k1.size; (try simp at hzk1); have nk1 : w.heap.size < w1.heap.size := (by omega); have Kk1 : Kept w w1 := (But.trans (by (repeat (first | with_reducible exact But.refl _ _ _ | with_reducible apply But.drewN | with_reducible apply But.drew | with_reducible apply But.alloc))) k1); clear k1; dsimp only) | (go_at_call 53; refine (safter _ _ _ _ _ _ _ _).mono ?_; rintro e w2 ⟨rfl, k2⟩; have hck2 := Kept.cell_eq k2; have hfk2 := Kept.frozen_eq k2; have hzk2 := k2.size; (try simp at hzk2); have nk2 : w.heap.size < w2.heap.size := (by omega); have Kk2 : Kept w w2 := (But.trans (by (repeat (first | with_reducible exact Kk1 | with_reducible apply But.drewN | with_reducible apply But.drew | with_reducible apply But.alloc))) k2); clear k2; dsimp only) | go_values | go_skip | go_guarded | go_step | go_upon)
    go_ret
    exact ⟨ret_int (by simp [afterI, hf, ha, nextI]), by (repeat (first | with_reducible exact Kk2 | with_reducible apply But.drewN | with_reducible apply But.drew | with_reducible apply But.alloc))⟩

end Go.Proofs.Ytjpceimaggcncaa
