/-
  The kind of a cell, in the specification.
-/
import Derived.Test.YtnfkgnbhdhpnmaaNext13
import Derived.Test.YtnfkgnbhdhpnmaaImpl13
namespace Go.Proofs.Ytnfkgnbhdhpnmaa
open Go.ChangeShapes Go.WideShapes Go.ChangeAt Go.RowKit

/-- The kind of a cell by its number. -/
def getI (l : List Int) (k : Int) : Int := l.getD k.toNat 0
/-- What BlockAt answers. -/
def blockA (a b d : Int) (l : List Int) (x y z : Int) : Int := if BlocksP a b d l ∧ Here a b d x y z then getI l (num a b x y z) else -1
/-- What the program's cellOf answers. -/
def cellA (a b d : Int) (l : List Int) (x y z : Int) : Int × Bool := if BlocksP a b d l ∧ Here a b d x y z then (num a b x y z, true) else (0, false)
theorem getI_some {l : List Int} {k : Int} (h0 : 0 ≤ k) (h1 : k < l.length) : l[k.toNat]? = some (getI l k) := by
  unfold getI
  rw [List.getD_eq_getElem?_getD, List.getElem?_eq_getElem (by omega)]
  rfl
theorem getI_in {a b d : Int} {l : List Int} (h : BlocksP a b d l) {k : Int} (h0 : 0 ≤ k) (h1 : k < l.length) : 0 ≤ getI l k ∧ getI l k ≤ 9 := h.2.2.2.2 _ (List.mem_of_getElem? (getI_some h0 h1))
theorem num_lt {a b d x y z : Int} {l : List Int} (h : BlocksP a b d l) (hh : Here a b d x y z) : 0 ≤ num a b x y z ∧ num a b x y z < l.length := by
  have e1 := num_in hh
  have e2 := h.len
  omega
/-- An open face. -/
def openM (a b d : Int) (l : List Int) (n : Int) (wy : Nat) : Bool := !(getI l n == 0) && (!(there a b d n wy) || getI l (bes a b d n wy) == 0)
/-- A cell of a row by its number. -/
theorem cell_of {w : World} {ao : Option Addr} {cap : Nat} {l : List Int} (hv : NumAt w (.slice ao l.length cap) l) {k : Int} (h0 : 0 ≤ k) (h1 : k < l.length) : ∃ g o, ao = some ⟨g, o, none⟩ ∧ w.cell? ⟨g, o + k.toNat, none⟩ = some (.int .i64 (getI l k)) ∧ g < w.heap.size := by
  obtain ⟨g, o, cap1, ee, c0⟩ := num_get hv (getI_some h0 h1)
  cases ee
  exact ⟨g, o, rfl, c0, cell_ltG c0⟩

set_option maxRecDepth 100000
set_option linter.unusedVariables false
set_option maxHeartbeats 8000000 in
theorem sblock (a b d : Int) (l : List Int) (x y z : Int) (ao : Option Addr) (cap : Nat) (w : World) (hv : NumAt w (.slice ao l.length cap) l) (hn : l.length ≤ 9000000000000000000) :
    Calls Try.prog 21 #[.agg #[.int .i64 a, .int .i64 b, .int .i64 d, .slice ao l.length cap], .int .i64 x, .int .i64 y, .int .i64 z] w fun e w' => e = .returned (.int .i64 (blockA a b d l x y z)) ∧ Kept w w' := by
  by_cases hg : BlocksP a b d l
  · have dg : decide (BlocksP a b d l) = true := decide_eq_true hg
    by_cases hh : Here a b d x y z
    · rw [show blockA a b d l x y z = getI l (num a b x y z) from if_pos ⟨hg, hh⟩]
      have ha : atM a b d x y z = num a b x y z := if_pos hh
      obtain ⟨n0, n1⟩ := num_lt hg hh
      obtain ⟨N, hN⟩ : ∃ N, N = num a b x y z := ⟨_, rfl⟩
      rw [← hN] at ha n0 n1 ⊢
      clear hN
      obtain ⟨g, o, rfl, c0, gl⟩ := cell_of hv n0 n1
      have dn : decide (N < 0) = false := by simp; omega
      go_enter Try.func21, Try.ntmps21
      repeat (first | (go_at_call 17; refine (sgood _ _ _ _ _ _ _ (hv.kept ((But.refl _ _ _).alloc _)) hn).mono ?_; rintro e u1 ⟨rfl, k1⟩; rw [dg]; have K1 : Kept w u1 := ((But.refl _ _ _).alloc _).trans k1; have L1 := (Loc.new w [.int .i64 a, .int .i64 b, .int .i64 d, .slice (some ⟨g, o, none⟩) l.length cap] 25).kept k1; have v0 := L1.cell 0 rfl; have v1 := L1.cell 1 rfl; have v2 := L1.cell 2 rfl; have v3 := L1.cell 3 rfl; (try dsimp only)) | go_values | go_skip | go_guarded | go_step | go_upon)
      go_at_call 48
      refine (sat a b d x y z _ _ _ (num_three u1 w.heap.size x y z K1.size).at hg.edge).mono ?_
      rintro e u2 ⟨rfl, k2⟩
      rw [ha]
      have j2 : Kept u1 u2 := ((But.refl _ _ _).alloc _).trans k2
      have L2 := L1.kept j2
      clear v0 v1 v2 v3
      have v3 := L2.cell 3 rfl
      have c1 := Kept.cell (K1.trans j2) c0
      (try dsimp only)
      repeat (first | go_values | go_skip | go_guarded | go_step | go_upon)
      go_ret
      exact ⟨rfl, K1.trans j2⟩
    · rw [show blockA a b d l x y z = -1 from if_neg fun h => hh h.2]
      have ha : atM a b d x y z = -1 := if_neg hh
      go_enter Try.func21, Try.ntmps21
      repeat (first | (go_at_call 17; refine (sgood _ _ _ _ _ _ _ (hv.kept ((But.refl _ _ _).alloc _)) hn).mono ?_; rintro e u1 ⟨rfl, k1⟩; rw [dg]; have K1 : Kept w u1 := ((But.refl _ _ _).alloc _).trans k1; have L1 := (Loc.new w [.int .i64 a, .int .i64 b, .int .i64 d, .slice ao l.length cap] 25).kept k1; have v0 := L1.cell 0 rfl; have v1 := L1.cell 1 rfl; have v2 := L1.cell 2 rfl; have v3 := L1.cell 3 rfl; (try dsimp only)) | go_values | go_skip | go_guarded | go_step | go_upon)
      go_at_call 48
      refine (sat a b d x y z _ _ _ (num_three u1 w.heap.size x y z K1.size).at hg.edge).mono ?_
      rintro e u2 ⟨rfl, k2⟩
      rw [ha]
      have j2 : Kept u1 u2 := ((But.refl _ _ _).alloc _).trans k2
      (try dsimp only)
      repeat (first | go_values | go_skip | go_guarded | go_step | go_upon)
      go_ret
      exact ⟨rfl, K1.trans j2⟩
  · have dg : decide (BlocksP a b d l) = false := decide_eq_false hg
    rw [show blockA a b d l x y z = -1 from if_neg fun h => hg h.1]
    go_enter Try.func21, Try.ntmps21
    repeat (first | (go_at_call 17; refine (sgood _ _ _ _ _ _ _ (hv.kept ((But.refl _ _ _).alloc _)) hn).mono ?_; rintro e u1 ⟨rfl, k1⟩; rw [dg]; have K1 : Kept w u1 := ((But.refl _ _ _).alloc _).trans k1; have L1 := (Loc.new w [.int .i64 a, .int .i64 b, .int .i64 d, .slice ao l.length cap] 25).kept k1; have v0 := L1.cell 0 rfl; have v1 := L1.cell 1 rfl; have v2 := L1.cell 2 rfl; have v3 := L1.cell 3 rfl; (try dsimp only)) | go_values | go_skip | go_guarded | go_step | go_upon)
    go_ret
    exact ⟨rfl, K1⟩

end Go.Proofs.Ytnfkgnbhdhpnmaa
