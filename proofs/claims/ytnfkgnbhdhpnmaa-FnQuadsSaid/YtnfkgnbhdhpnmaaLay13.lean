/-
  Layers of blocks, free of the program and in the specification.
-/
import Derived.Test.YtnfkgnbhdhpnmaaQuadP13
import Derived.Test.YtnfkgnbhdhpnmaaOpen13
import Derived.Test.YtnfkgnbhdhpnmaaSetS13
namespace Go.Proofs.Ytnfkgnbhdhpnmaa
open Go.ChangeShapes Go.WideShapes Go.ChangeAt Go.RowKit

set_option linter.unusedVariables false
/-- The place of a layer's face. -/
def pX (way at_ u v : Nat) : Nat := if way < 2 then at_ else u
def pY (way at_ u v : Nat) : Nat := if way < 2 then u else if way < 4 then at_ else v
def pZ (way at_ u v : Nat) : Nat := if way < 4 then v else at_
def usN (A B : Nat) (way : Nat) : Nat := if way < 2 then B else A
def vsN (B D : Nat) (way : Nat) : Nat := if way < 4 then D else B
def sideN (A B D : Nat) (way : Nat) : Nat := if way < 2 then A else if way < 4 then B else D
theorem lay_here {A B D way at_ u v : Nat} (ha : at_ < sideN A B D way) (hu : u < usN A B way) (hv : v < vsN B D way) : Here (A : Int) (B : Int) (D : Int) (pX way at_ u v : Int) (pY way at_ u v : Int) (pZ way at_ u v : Int) := by
  unfold sideN at ha
  unfold usN at hu
  unfold vsN at hv
  unfold Here pX pY pZ
  by_cases h1 : way < 2
  · have h2 : way < 4 := by omega
    simp only [h1, h2, if_true] at *
    omega
  · by_cases h2 : way < 4
    · simp only [h1, h2, if_true, if_false] at *
      omega
    · simp only [h1, h2, if_false] at *
      omega
/-- The number of a layer's cell. -/
def cellQ (A B : Nat) (way at_ u v : Nat) : Int := num (A : Int) (B : Int) (pX way at_ u v : Int) (pY way at_ u v : Int) (pZ way at_ u v : Int)
/-- The kinds of a layer's open faces. -/
def face (A B D : Nat) (l : List Int) (way at_ : Nat) : Grid := fun u v => if u < usN A B way ∧ v < vsN B D way then (if openM (A : Int) (B : Int) (D : Int) l (cellQ A B way at_ u v) way = true then getI l (cellQ A B way at_ u v) else 0) else 0
theorem face_bd (A B D : Nat) (l : List Int) (way at_ : Nat) : Bd (usN A B way) (vsN B D way) (face A B D l way at_) := fun x y h => by
  unfold face
  rw [if_neg (by omega)]
/-- All quads: the layers of a way, the ways. -/
def quadsW (A B D : Nat) (l : List Int) (way k : Nat) : List QuadD := (List.range k).flatMap (fun at_ => (layQ way at_ (usN A B way) (face A B D l way at_) (usN A B way * vsN B D way)).2)
def quadsL (A B D : Nat) (l : List Int) (k : Nat) : List QuadD := (List.range k).flatMap (fun way => quadsW A B D l way (sideN A B D way))
theorem quadsW_succ (A B D : Nat) (l : List Int) (way k : Nat) : quadsW A B D l way (k + 1) = quadsW A B D l way k ++ (layQ way k (usN A B way) (face A B D l way k) (usN A B way * vsN B D way)).2 := by
  unfold quadsW
  rw [List.range_succ, List.flatMap_append]
  simp
theorem quadsL_succ (A B D : Nat) (l : List Int) (k : Nat) : quadsL A B D l (k + 1) = quadsL A B D l k ++ quadsW A B D l k (sideN A B D k) := by
  unfold quadsL
  rw [List.range_succ, List.flatMap_append]
  simp
theorem dims_le {A B D : Nat} (hA : A ≤ 8) (hB : B ≤ 8) (hD : D ≤ 8) (way : Nat) : usN A B way ≤ 8 ∧ vsN B D way ≤ 8 ∧ sideN A B D way ≤ 8 := by
  unfold usN vsN sideN
  refine ⟨?_, ?_, ?_⟩
  · split <;> omega
  · split <;> omega
  · split
    · omega
    · split <;> omega
theorem dims_pos {A B D : Nat} (hA : 1 ≤ A) (hB : 1 ≤ B) (hD : 1 ≤ D) (way : Nat) : 1 ≤ usN A B way ∧ 1 ≤ vsN B D way ∧ 1 ≤ sideN A B D way := by
  unfold usN vsN sideN
  refine ⟨?_, ?_, ?_⟩
  · split <;> omega
  · split <;> omega
  · split
    · omega
    · split <;> omega
theorem quadsW_len {A B D : Nat} (hA : A ≤ 8) (hB : B ≤ 8) (hD : D ≤ 8) (l : List Int) (way : Nat) : ∀ k, (quadsW A B D l way k).length ≤ 64 * k
  | 0 => by simp [quadsW]
  | k + 1 => by
    rw [quadsW_succ, List.length_append]
    have h1 := quadsW_len hA hB hD l way k
    have h2 := layQ_len (way := way) (at_ := k) (us := usN A B way) (G0 := face A B D l way k) (usN A B way * vsN B D way)
    have h3 : usN A B way * vsN B D way ≤ 8 * 8 := Nat.mul_le_mul (dims_le hA hB hD way).1 (dims_le hA hB hD way).2.1
    omega
theorem quadsL_len {A B D : Nat} (hA : A ≤ 8) (hB : B ≤ 8) (hD : D ≤ 8) (l : List Int) : ∀ k, (quadsL A B D l k).length ≤ 512 * k
  | 0 => by simp [quadsL]
  | k + 1 => by
    rw [quadsL_succ, List.length_append]
    have h1 := quadsL_len hA hB hD l k
    have h2 := quadsW_len hA hB hD l k (sideN A B D k)
    have h3 := (dims_le hA hB hD k).2.2
    omega
/-- What QuadsOf answers. -/
def quadsA (a b d : Int) (l : List Int) : List QuadD × Bool := if BlocksP a b d l then (quadsL a.toNat b.toNat d.toNat l 6, true) else ([], false)

set_option maxRecDepth 100000
set_option linter.unusedVariables false
set_option maxHeartbeats 8000000 in
theorem slayer (A B D way at_ u v ax : Nat) (s : Value) (w : World) (he : Edge (A : Int) (B : Int) (D : Int)) (hw : way < 6) (hax : ax = way / 2) (ha : at_ < sideN A B D way) (hu : u < usN A B way) (hv : v < vsN B D way) :
    Calls Try.prog 51 #[.agg #[.int .i64 (A : Int), .int .i64 (B : Int), .int .i64 (D : Int), s], .int .i64 (ax : Int), .int .i64 (at_ : Int), .int .i64 (u : Int), .int .i64 (v : Int)] w fun e w' => e = .returned (.int .i64 (cellQ A B way at_ u v)) ∧ Kept w w' := by
  have hat : atM (A : Int) (B : Int) (D : Int) (pX way at_ u v : Int) (pY way at_ u v : Int) (pZ way at_ u v : Int) = cellQ A B way at_ u v := if_pos (lay_here ha hu hv)
  obtain rfl | rfl | rfl : ax = 0 ∨ ax = 1 ∨ ax = 2 := by omega
  · have e1 : pX way at_ u v = at_ := by unfold pX; first | rw [if_pos (by omega)] | rw [if_neg (by omega)]
    have e2 : pY way at_ u v = u := by unfold pY; first | rw [if_pos (by omega)] | rw [if_neg (by omega), if_pos (by omega)] | rw [if_neg (by omega), if_neg (by omega)]
    have e3 : pZ way at_ u v = v := by unfold pZ; first | rw [if_pos (by omega)] | rw [if_neg (by omega)]
    rw [e1, e2, e3] at hat
    clear hax e1 e2 e3 ha hu hv hw
    go_enter Try.func51, Try.ntmps51
    repeat (first | go_values | go_skip | go_guarded | go_step | go_upon)
    go_at_call 48
    refine (sat (A : Int) (B : Int) (D : Int) _ _ _ _ _ _ (num_threeB (w.alloc (.cells #[.int .i64 (A : Int), .int .i64 (B : Int), .int .i64 (D : Int), s] 25)) w.heap.size (w.heap.size + 1) (at_ : Int) (u : Int) (v : Int) (by simp) (by simp)).at he).mono ?_
    rintro e u2 ⟨rfl, k2⟩
    rw [hat]
    (try dsimp only)
    repeat (first | go_values | go_skip | go_guarded | go_step | go_upon)
    go_ret
    exact ⟨rfl, (((But.refl _ _ _).alloc _).alloc _).trans k2⟩
  · have e1 : pX way at_ u v = u := by unfold pX; first | rw [if_pos (by omega)] | rw [if_neg (by omega)]
    have e2 : pY way at_ u v = at_ := by unfold pY; first | rw [if_pos (by omega)] | rw [if_neg (by omega), if_pos (by omega)] | rw [if_neg (by omega), if_neg (by omega)]
    have e3 : pZ way at_ u v = v := by unfold pZ; first | rw [if_pos (by omega)] | rw [if_neg (by omega)]
    rw [e1, e2, e3] at hat
    clear hax e1 e2 e3 ha hu hv hw
    go_enter Try.func51, Try.ntmps51
    repeat (first | go_values | go_skip | go_guarded | go_step | go_upon)
    go_at_call 48
    refine (sat (A : Int) (B : Int) (D : Int) _ _ _ _ _ _ (num_threeB (w.alloc (.cells #[.int .i64 (A : Int), .int .i64 (B : Int), .int .i64 (D : Int), s] 25)) w.heap.size (w.heap.size + 1) (u : Int) (at_ : Int) (v : Int) (by simp) (by simp)).at he).mono ?_
    rintro e u2 ⟨rfl, k2⟩
    rw [hat]
    (try dsimp only)
    repeat (first | go_values | go_skip | go_guarded | go_step | go_upon)
    go_ret
    exact ⟨rfl, (((But.refl _ _ _).alloc _).alloc _).trans k2⟩
  · have e1 : pX way at_ u v = u := by unfold pX; first | rw [if_pos (by omega)] | rw [if_neg (by omega)]
    have e2 : pY way at_ u v = v := by unfold pY; first | rw [if_pos (by omega)] | rw [if_neg (by omega), if_pos (by omega)] | rw [if_neg (by omega), if_neg (by omega)]
    have e3 : pZ way at_ u v = at_ := by unfold pZ; first | rw [if_pos (by omega)] | rw [if_neg (by omega)]
    rw [e1, e2, e3] at hat
    clear hax e1 e2 e3 ha hu hv hw
    go_enter Try.func51, Try.ntmps51
    repeat (first | go_values | go_skip | go_guarded | go_step | go_upon)
    go_at_call 48
    refine (sat (A : Int) (B : Int) (D : Int) _ _ _ _ _ _ (num_threeB (w.alloc (.cells #[.int .i64 (A : Int), .int .i64 (B : Int), .int .i64 (D : Int), s] 25)) w.heap.size (w.heap.size + 1) (u : Int) (v : Int) (at_ : Int) (by simp) (by simp)).at he).mono ?_
    rintro e u2 ⟨rfl, k2⟩
    rw [hat]
    (try dsimp only)
    repeat (first | go_values | go_skip | go_guarded | go_step | go_upon)
    go_ret
    exact ⟨rfl, (((But.refl _ _ _).alloc _).alloc _).trans k2⟩

end Go.Proofs.Ytnfkgnbhdhpnmaa
