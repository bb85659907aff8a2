/-
  Layers of blocks, in the program.
-/
import Derived.Test.YtnfkgnbhdhpnmaaLay13
import Derived.Test.YtnfkgnbhdhpnmaaImpl13
import Derived.Deep.RegionHeld3
namespace Go.Proofs.Ytnfkgnbhdhpnmaa
open Go.ChangeShapes Go.WideShapes Go.ChangeAt Go.RowKit

set_option linter.unusedVariables false
/-- How far apart the numbers of cells lie along a layer's way, along U and along V. -/
def apA (A B way : Nat) : Nat := if way < 2 then 1 else if way < 4 then A else A * B
def apU (A way : Nat) : Nat := if way < 2 then A else 1
def apV (A B way : Nat) : Nat := if way < 4 then A * B else A
theorem cellQ_sum (A B way at_ u v : Nat) : cellQ A B way at_ u v = ((at_ * apA A B way + u * apU A way + v * apV A B way : Nat) : Int) := by
  unfold cellQ num pX pY pZ apA apU apV
  by_cases h1 : way < 2
  · have h2 : way < 4 := by omega
    simp only [h1, h2, if_true]
    push_cast
    rw [Int.add_mul, Int.mul_assoc, Int.mul_comm (B : Int) (A : Int)]
    omega
  · by_cases h2 : way < 4
    · simp only [h1, h2, if_true, if_false]
      push_cast
      rw [Int.add_mul, Int.mul_assoc, Int.mul_comm (B : Int) (A : Int)]
      omega
    · simp only [h1, h2, if_false]
      push_cast
      rw [Int.add_mul, Int.mul_assoc, Int.mul_comm (B : Int) (A : Int)]
      omega
/-- What of a grid is not taken. -/
def maskG (f : Grid) (tk : Nat → Bool) : Grid := fun x y => if tk (y * 8 + x) = true then 0 else f x y
/-- The flags of what is taken, in memory. -/
def TK (w : World) (T : Nat) (tk : Nat → Bool) : Prop := ∀ i, i < 64 → w.cell? ⟨T, i, none⟩ = some (.bool (tk i))
theorem TK.kept {w w' : World} {T : Nat} {tk : Nat → Bool} (h : TK w T tk) (k : Kept w w') : TK w' T tk := fun i hi => Kept.cell k (h i hi)

set_option maxRecDepth 100000
set_option maxHeartbeats 8000000 in
theorem iaxesL (A B D way at_ T ax : Nat) (l : List Int) (ao : Option Addr) (cap : Nat) (w : World) (he : Edge (A : Int) (B : Int) (D : Int)) (hw : way < 6) (hax : ax = way / 2) :
    Calls Try.prog 61 #[.agg #[.int .i64 (A : Int), .int .i64 (B : Int), .int .i64 (D : Int), .slice ao l.length cap, .int .i64 (way : Int), .int .i64 (at_ : Int), .slice (some ⟨T, 0, none⟩) 64 64]] w fun e w' => e = .returned (.tuple #[.agg #[.int .i64 (sideN A B D way : Int), .int .i64 (apA A B way : Int)], .agg #[.int .i64 (usN A B way : Int), .int .i64 (apU A way : Int)], .agg #[.int .i64 (vsN B D way : Int), .int .i64 (apV A B way : Int)]]) ∧ Kept w w' := by
  have hdv : (way : Int) / 2 = (ax : Int) := by rw [hax]; omega
  have htd : (way : Int).tdiv 2 = (ax : Int) := by rw [Int.tdiv_eq_ediv_of_nonneg (by omega)]; exact hdv
  have hway : (way : Int) ≤ 6 := by omega
  obtain rfl | rfl | rfl : ax = 0 ∨ ax = 1 ∨ ax = 2 := by omega
  · have e1 : sideN A B D way = A := by unfold sideN; first | rw [if_pos (by omega)] | rw [if_neg (by omega), if_pos (by omega)] | rw [if_neg (by omega), if_neg (by omega)]
    have e2 : usN A B way = B := by unfold usN; first | rw [if_pos (by omega)] | rw [if_neg (by omega)]
    have e3 : vsN B D way = D := by unfold vsN; first | rw [if_pos (by omega)] | rw [if_neg (by omega)]
    have e4 : apA A B way = 1 := by unfold apA; first | rw [if_pos (by omega)] | rw [if_neg (by omega), if_pos (by omega)] | rw [if_neg (by omega), if_neg (by omega)]
    have e5 : apU A way = A := by unfold apU; first | rw [if_pos (by omega)] | rw [if_neg (by omega)]
    have e6 : apV A B way = A * B := by unfold apV; first | rw [if_pos (by omega)] | rw [if_neg (by omega)]
    rw [e1, e2, e3, e4, e5, e6]
    clear e1 e2 e3 e4 e5 e6 hax hw
    go_enter Try.func61, Try.ntmps61
    repeat (first | go_values | go_skip | go_guarded | go_step | go_upon)
    obtain ⟨X, hX⟩ : ∃ X, X = (((w.alloc (.cells #[.int .i64 (A : Int), .int .i64 (B : Int), .int .i64 (D : Int), .slice ao l.length cap, .int .i64 (way : Int), .int .i64 (at_ : Int), .slice (some ⟨T, 0, none⟩) 64 64] 63)).alloc (.cells #[.int .i64 0, .int .i64 0] 57)).alloc (.cells #[.int .i64 0, .int .i64 0] 57)).alloc (.cells #[.int .i64 0, .int .i64 0] 57) := ⟨_, rfl⟩
    have kX : Kept w X := by rw [hX]; exact ((((But.refl _ _ _).alloc _).alloc _).alloc _).alloc _
    have L0 : Loc X w.heap.size [.int .i64 (A : Int), .int .i64 (B : Int), .int .i64 (D : Int), .slice ao l.length cap, .int .i64 (way : Int), .int .i64 (at_ : Int), .slice (some ⟨T, 0, none⟩) 64 64] := by rw [hX]; exact (((Loc.new w _ _).alloc _).alloc _).alloc _
    have R1 : Loc X (w.heap.size + 1) [.int .i64 0, .int .i64 0] := by rw [hX]; have h := ((Loc.new (w.alloc (.cells #[.int .i64 (A : Int), .int .i64 (B : Int), .int .i64 (D : Int), .slice ao l.length cap, .int .i64 (way : Int), .int .i64 (at_ : Int), .slice (some ⟨T, 0, none⟩) 64 64] 63)) [.int .i64 0, .int .i64 0] 57).alloc (.cells #[.int .i64 0, .int .i64 0] 57)).alloc (.cells #[.int .i64 0, .int .i64 0] 57); simpa only [World.size_alloc] using h
    have R2 : Loc X (w.heap.size + 1 + 1) [.int .i64 0, .int .i64 0] := by rw [hX]; have h := (Loc.new ((w.alloc (.cells #[.int .i64 (A : Int), .int .i64 (B : Int), .int .i64 (D : Int), .slice ao l.length cap, .int .i64 (way : Int), .int .i64 (at_ : Int), .slice (some ⟨T, 0, none⟩) 64 64] 63)).alloc (.cells #[.int .i64 0, .int .i64 0] 57)) [.int .i64 0, .int .i64 0] 57).alloc (.cells #[.int .i64 0, .int .i64 0] 57); simpa only [World.size_alloc] using h
    have R3 : Loc X (w.heap.size + 1 + 1 + 1) [.int .i64 0, .int .i64 0] := by rw [hX]; have h := Loc.new (((w.alloc (.cells #[.int .i64 (A : Int), .int .i64 (B : Int), .int .i64 (D : Int), .slice ao l.length cap, .int .i64 (way : Int), .int .i64 (at_ : Int), .slice (some ⟨T, 0, none⟩) 64 64] 63)).alloc (.cells #[.int .i64 0, .int .i64 0] 57)).alloc (.cells #[.int .i64 0, .int .i64 0] 57)) [.int .i64 0, .int .i64 0] 57; simpa only [World.size_alloc] using h
    rw [← hX]
    clear hX
    go_at_call 40
    refine (iaxes (A : Int) (B : Int) (D : Int) _ _ he).mono ?_
    rintro e u1 ⟨rfl, k1⟩
    have v4 := (L0.kept k1).cell 4 rfl
    have vl := (L0.kept k1).lt
    have rl := (R3.kept k1).lt
    have r10 := (R1.kept k1).cell 0 rfl
    have r11 := (R1.kept k1).cell 1 rfl
    have r20 := (R2.kept k1).cell 0 rfl
    have r21 := (R2.kept k1).cell 1 rfl
    have r30 := (R3.kept k1).cell 0 rfl
    have r31 := (R3.kept k1).cell 1 rfl
    have z10 := (R1.kept k1).frozen 0
    have z11 := (R1.kept k1).frozen 1
    have z20 := (R2.kept k1).frozen 0
    have z21 := (R2.kept k1).frozen 1
    have z30 := (R3.kept k1).frozen 0
    have z31 := (R3.kept k1).frozen 1
    (try dsimp only)
    repeat (first | go_values | go_skip | go_guarded | go_step | go_upon)
    obtain ⟨Y, hY⟩ : ∃ Y, Y = u1.alloc (.cells #[.int .i64 (A : Int), .int .i64 1, .int .i64 (B : Int), .int .i64 (A : Int), .int .i64 (D : Int), .int .i64 ((A : Int) * (B : Int))] 58) := ⟨_, rfl⟩
    have kY : Kept u1 Y := by rw [hY]; exact (But.refl _ _ _).alloc _
    have LA : Loc Y u1.heap.size [.int .i64 (A : Int), .int .i64 1, .int .i64 (B : Int), .int .i64 (A : Int), .int .i64 (D : Int), .int .i64 ((A : Int) * (B : Int))] := by rw [hY]; exact Loc.new _ _ _
    rw [← hY]
    clear hY v4
    have ab := LA.lt
    have a0 := LA.cell 0 rfl
    have a1 := LA.cell 1 rfl
    have a2 := LA.cell 2 rfl
    have a3 := LA.cell 3 rfl
    have a4 := LA.cell 4 rfl
    have a5 := LA.cell 5 rfl
    have r10 := Kept.cell kY r10
    have r11 := Kept.cell kY r11
    have r20 := Kept.cell kY r20
    have r21 := Kept.cell kY r21
    have r30 := Kept.cell kY r30
    have r31 := Kept.cell kY r31
    have z10 := ((R1.kept k1).kept kY).frozen 0
    have z11 := ((R1.kept k1).kept kY).frozen 1
    have z20 := ((R2.kept k1).kept kY).frozen 0
    have z21 := ((R2.kept k1).kept kY).frozen 1
    have z30 := ((R3.kept k1).kept kY).frozen 0
    have z31 := ((R3.kept k1).kept kY).frozen 1
    have n1 : u1.heap.size ≠ w.heap.size + 1 := by omega
    have n2 : u1.heap.size ≠ w.heap.size + 1 + 1 := by omega
    have n3 : u1.heap.size ≠ w.heap.size + 1 + 1 + 1 := by omega
    go_region_held3 (fun w' => w'.cell? ⟨u1.heap.size, 0, none⟩ = some (.int .i64 (A : Int)) ∧ w'.cell? ⟨u1.heap.size, 1, none⟩ = some (.int .i64 1) ∧ w'.cell? ⟨u1.heap.size, 2, none⟩ = some (.int .i64 (B : Int)) ∧ w'.cell? ⟨u1.heap.size, 3, none⟩ = some (.int .i64 (A : Int)) ∧ w'.cell? ⟨u1.heap.size, 4, none⟩ = some (.int .i64 (D : Int)) ∧ w'.cell? ⟨u1.heap.size, 5, none⟩ = some (.int .i64 ((A : Int) * (B : Int)))) (simp [go_sem, *]) (fail)
    obtain ⟨V, hV⟩ : ∃ V, V = ((((((Y.setCell ⟨w.heap.size + 1, 0, none⟩ (.int .i64 (A : Int))).setCell ⟨w.heap.size + 1, 1, none⟩ (.int .i64 1)).setCell ⟨w.heap.size + 1 + 1, 0, none⟩ (.int .i64 (B : Int))).setCell ⟨w.heap.size + 1 + 1, 1, none⟩ (.int .i64 (A : Int))).setCell ⟨w.heap.size + 1 + 1 + 1, 0, none⟩ (.int .i64 (D : Int))).setCell ⟨w.heap.size + 1 + 1 + 1, 1, none⟩ (.int .i64 ((A : Int) * (B : Int)))).drew := ⟨_, rfl⟩
    have R1v : Loc V (w.heap.size + 1) [(.int .i64 (A : Int)), (.int .i64 1)] := by rw [hV]; exact (((((((((R1.kept k1).kept kY).set 0 _).set 1 _).other (by omega) _).other (by omega) _).other (by omega) _).other (by omega) _).kept ((But.refl _ _ _).drew))
    have R2v : Loc V (w.heap.size + 1 + 1) [(.int .i64 (B : Int)), (.int .i64 (A : Int))] := by rw [hV]; exact (((((((((R2.kept k1).kept kY).other (by omega) _).other (by omega) _).set 0 _).set 1 _).other (by omega) _).other (by omega) _).kept ((But.refl _ _ _).drew))
    have R3v : Loc V (w.heap.size + 1 + 1 + 1) [(.int .i64 (D : Int)), (.int .i64 ((A : Int) * (B : Int)))] := by rw [hV]; exact (((((((((R3.kept k1).kept kY).other (by omega) _).other (by omega) _).other (by omega) _).other (by omega) _).set 0 _).set 1 _).kept ((But.refl _ _ _).drew))
    have KV : Kept w V := by rw [hV]; exact (((((((kX.trans k1).trans kY).setNew (by simp) _).setNew (by simp) _).setNew (by simp; omega) _).setNew (by simp; omega) _).setNew (by simp; omega) _).setNew (by simp; omega) _ |>.drew
    rw [← hV]
    clear hV a0 a1 a2 a3 a4 a5 r10 r11 r20 r21 r30 r31 z10 z11 z20 z21 z30 z31
    have x10 := R1v.cell 0 rfl
    have x11 := R1v.cell 1 rfl
    have x20 := R2v.cell 0 rfl
    have x21 := R2v.cell 1 rfl
    have x30 := R3v.cell 0 rfl
    have x31 := R3v.cell 1 rfl
    repeat (first | go_values | go_skip | go_guarded | go_step | go_upon)
    refine bodyPost_ret (v := .tuple #[.agg #[(.int .i64 (A : Int)), (.int .i64 1)], .agg #[(.int .i64 (B : Int)), (.int .i64 (A : Int))], .agg #[(.int .i64 (D : Int)), (.int .i64 ((A : Int) * (B : Int)))]]) (by simp [results, Try.results61, go_sem, x10, x11, x20, x21, x30, x31]) rfl ?_
    exact ⟨by push_cast; rfl, KV⟩
  · have e1 : sideN A B D way = B := by unfold sideN; first | rw [if_pos (by omega)] | rw [if_neg (by omega), if_pos (by omega)] | rw [if_neg (by omega), if_neg (by omega)]
    have e2 : usN A B way = A := by unfold usN; first | rw [if_pos (by omega)] | rw [if_neg (by omega)]
    have e3 : vsN B D way = D := by unfold vsN; first | rw [if_pos (by omega)] | rw [if_neg (by omega)]
    have e4 : apA A B way = A := by unfold apA; first | rw [if_pos (by omega)] | rw [if_neg (by omega), if_pos (by omega)] | rw [if_neg (by omega), if_neg (by omega)]
    have e5 : apU A way = 1 := by unfold apU; first | rw [if_pos (by omega)] | rw [if_neg (by omega)]
    have e6 : apV A B way = A * B := by unfold apV; first | rw [if_pos (by omega)] | rw [if_neg (by omega)]
    rw [e1, e2, e3, e4, e5, e6]
    clear e1 e2 e3 e4 e5 e6 hax hw
    go_enter Try.func61, Try.ntmps61
    repeat (first | go_values | go_skip | go_guarded | go_step | go_upon)
    obtain ⟨X, hX⟩ : ∃ X, X = (((w.alloc (.cells #[.int .i64 (A : Int), .int .i64 (B : Int), .int .i64 (D : Int), .slice ao l.length cap, .int .i64 (way : Int), .int .i64 (at_ : Int), .slice (some ⟨T, 0, none⟩) 64 64] 63)).alloc (.cells #[.int .i64 0, .int .i64 0] 57)).alloc (.cells #[.int .i64 0, .int .i64 0] 57)).alloc (.cells #[.int .i64 0, .int .i64 0] 57) := ⟨_, rfl⟩
    have kX : Kept w X := by rw [hX]; exact ((((But.refl _ _ _).alloc _).alloc _).alloc _).alloc _
    have L0 : Loc X w.heap.size [.int .i64 (A : Int), .int .i64 (B : Int), .int .i64 (D : Int), .slice ao l.length cap, .int .i64 (way : Int), .int .i64 (at_ : Int), .slice (some ⟨T, 0, none⟩) 64 64] := by rw [hX]; exact (((Loc.new w _ _).alloc _).alloc _).alloc _
    have R1 : Loc X (w.heap.size + 1) [.int .i64 0, .int .i64 0] := by rw [hX]; have h := ((Loc.new (w.alloc (.cells #[.int .i64 (A : Int), .int .i64 (B : Int), .int .i64 (D : Int), .slice ao l.length cap, .int .i64 (way : Int), .int .i64 (at_ : Int), .slice (some ⟨T, 0, none⟩) 64 64] 63)) [.int .i64 0, .int .i64 0] 57).alloc (.cells #[.int .i64 0, .int .i64 0] 57)).alloc (.cells #[.int .i64 0, .int .i64 0] 57); simpa only [World.size_alloc] using h
    have R2 : Loc X (w.heap.size + 1 + 1) [.int .i64 0, .int .i64 0] := by rw [hX]; have h := (Loc.new ((w.alloc (.cells #[.int .i64 (A : Int), .int .i64 (B : Int), .int .i64 (D : Int), .slice ao l.length cap, .int .i64 (way : Int), .int .i64 (at_ : Int), .slice (some ⟨T, 0, none⟩) 64 64] 63)).alloc (.cells #[.int .i64 0, .int .i64 0] 57)) [.int .i64 0, .int .i64 0] 57).alloc (.cells #[.int .i64 0, .int .i64 0] 57); simpa only [World.size_alloc] using h
    have R3 : Loc X (w.heap.size + 1 + 1 + 1) [.int .i64 0, .int .i64 0] := by rw [hX]; have h := Loc.new (((w.alloc (.cells #[.int .i64 (A : Int), .int .i64 (B : Int), .int .i64 (D : Int), .slice ao l.length cap, .int .i64 (way : Int), .int .i64 (at_ : Int), .slice (some ⟨T, 0, none⟩) 64 64] 63)).alloc (.cells #[.int .i64 0, .int .i64 0] 57)).alloc (.cells #[.int .i64 0, .int .i64 0] 57)) [.int .i64 0, .int .i64 0] 57; simpa only [World.size_alloc] using h
    rw [← hX]
    clear hX
    go_at_call 40
    refine (iaxes (A : Int) (B : Int) (D : Int) _ _ he).mono ?_
    rintro e u1 ⟨rfl, k1⟩
    have v4 := (L0.kept k1).cell 4 rfl
    have vl := (L0.kept k1).lt
    have rl := (R3.kept k1).lt
    have r10 := (R1.kept k1).cell 0 rfl
    have r11 := (R1.kept k1).cell 1 rfl
    have r20 := (R2.kept k1).cell 0 rfl
    have r21 := (R2.kept k1).cell 1 rfl
    have r30 := (R3.kept k1).cell 0 rfl
    have r31 := (R3.kept k1).cell 1 rfl
    have z10 := (R1.kept k1).frozen 0
    have z11 := (R1.kept k1).frozen 1
    have z20 := (R2.kept k1).frozen 0
    have z21 := (R2.kept k1).frozen 1
    have z30 := (R3.kept k1).frozen 0
    have z31 := (R3.kept k1).frozen 1
    (try dsimp only)
    repeat (first | go_values | go_skip | go_guarded | go_step | go_upon)
    obtain ⟨Y, hY⟩ : ∃ Y, Y = u1.alloc (.cells #[.int .i64 (A : Int), .int .i64 1, .int .i64 (B : Int), .int .i64 (A : Int), .int .i64 (D : Int), .int .i64 ((A : Int) * (B : Int))] 58) := ⟨_, rfl⟩
    have kY : Kept u1 Y := by rw [hY]; exact (But.refl _ _ _).alloc _
    have LA : Loc Y u1.heap.size [.int .i64 (A : Int), .int .i64 1, .int .i64 (B : Int), .int .i64 (A : Int), .int .i64 (D : Int), .int .i64 ((A : Int) * (B : Int))] := by rw [hY]; exact Loc.new _ _ _
    rw [← hY]
    clear hY v4
    have ab := LA.lt
    have a0 := LA.cell 0 rfl
    have a1 := LA.cell 1 rfl
    have a2 := LA.cell 2 rfl
    have a3 := LA.cell 3 rfl
    have a4 := LA.cell 4 rfl
    have a5 := LA.cell 5 rfl
    have r10 := Kept.cell kY r10
    have r11 := Kept.cell kY r11
    have r20 := Kept.cell kY r20
    have r21 := Kept.cell kY r21
    have r30 := Kept.cell kY r30
    have r31 := Kept.cell kY r31
    have z10 := ((R1.kept k1).kept kY).frozen 0
    have z11 := ((R1.kept k1).kept kY).frozen 1
    have z20 := ((R2.kept k1).kept kY).frozen 0
    have z21 := ((R2.kept k1).kept kY).frozen 1
    have z30 := ((R3.kept k1).kept kY).frozen 0
    have z31 := ((R3.kept k1).kept kY).frozen 1
    have n1 : u1.heap.size ≠ w.heap.size + 1 := by omega
    have n2 : u1.heap.size ≠ w.heap.size + 1 + 1 := by omega
    have n3 : u1.heap.size ≠ w.heap.size + 1 + 1 + 1 := by omega
    go_region_held3 (fun w' => w'.cell? ⟨u1.heap.size, 0, none⟩ = some (.int .i64 (A : Int)) ∧ w'.cell? ⟨u1.heap.size, 1, none⟩ = some (.int .i64 1) ∧ w'.cell? ⟨u1.heap.size, 2, none⟩ = some (.int .i64 (B : Int)) ∧ w'.cell? ⟨u1.heap.size, 3, none⟩ = some (.int .i64 (A : Int)) ∧ w'.cell? ⟨u1.heap.size, 4, none⟩ = some (.int .i64 (D : Int)) ∧ w'.cell? ⟨u1.heap.size, 5, none⟩ = some (.int .i64 ((A : Int) * (B : Int)))) (simp [go_sem, *]) (fail)
    obtain ⟨V, hV⟩ : ∃ V, V = ((((((Y.setCell ⟨w.heap.size + 1, 0, none⟩ (.int .i64 (B : Int))).setCell ⟨w.heap.size + 1, 1, none⟩ (.int .i64 (A : Int))).setCell ⟨w.heap.size + 1 + 1, 0, none⟩ (.int .i64 (A : Int))).setCell ⟨w.heap.size + 1 + 1, 1, none⟩ (.int .i64 1)).setCell ⟨w.heap.size + 1 + 1 + 1, 0, none⟩ (.int .i64 (D : Int))).setCell ⟨w.heap.size + 1 + 1 + 1, 1, none⟩ (.int .i64 ((A : Int) * (B : Int)))).drew := ⟨_, rfl⟩
    have R1v : Loc V (w.heap.size + 1) [(.int .i64 (B : Int)), (.int .i64 (A : Int))] := by rw [hV]; exact (((((((((R1.kept k1).kept kY).set 0 _).set 1 _).other (by omega) _).other (by omega) _).other (by omega) _).other (by omega) _).kept ((But.refl _ _ _).drew))
    have R2v : Loc V (w.heap.size + 1 + 1) [(.int .i64 (A : Int)), (.int .i64 1)] := by rw [hV]; exact (((((((((R2.kept k1).kept kY).other (by omega) _).other (by omega) _).set 0 _).set 1 _).other (by omega) _).other (by omega) _).kept ((But.refl _ _ _).drew))
    have R3v : Loc V (w.heap.size + 1 + 1 + 1) [(.int .i64 (D : Int)), (.int .i64 ((A : Int) * (B : Int)))] := by rw [hV]; exact (((((((((R3.kept k1).kept kY).other (by omega) _).other (by omega) _).other (by omega) _).other (by omega) _).set 0 _).set 1 _).kept ((But.refl _ _ _).drew))
    have KV : Kept w V := by rw [hV]; exact (((((((kX.trans k1).trans kY).setNew (by simp) _).setNew (by simp) _).setNew (by simp; omega) _).setNew (by simp; omega) _).setNew (by simp; omega) _).setNew (by simp; omega) _ |>.drew
    rw [← hV]
    clear hV a0 a1 a2 a3 a4 a5 r10 r11 r20 r21 r30 r31 z10 z11 z20 z21 z30 z31
    have x10 := R1v.cell 0 rfl
    have x11 := R1v.cell 1 rfl
    have x20 := R2v.cell 0 rfl
    have x21 := R2v.cell 1 rfl
    have x30 := R3v.cell 0 rfl
    have x31 := R3v.cell 1 rfl
    repeat (first | go_values | go_skip | go_guarded | go_step | go_upon)
    refine bodyPost_ret (v := .tuple #[.agg #[(.int .i64 (B : Int)), (.int .i64 (A : Int))], .agg #[(.int .i64 (A : Int)), (.int .i64 1)], .agg #[(.int .i64 (D : Int)), (.int .i64 ((A : Int) * (B : Int)))]]) (by simp [results, Try.results61, go_sem, x10, x11, x20, x21, x30, x31]) rfl ?_
    exact ⟨by push_cast; rfl, KV⟩
  · have e1 : sideN A B D way = D := by unfold sideN; first | rw [if_pos (by omega)] | rw [if_neg (by omega), if_pos (by omega)] | rw [if_neg (by omega), if_neg (by omega)]
    have e2 : usN A B way = A := by unfold usN; first | rw [if_pos (by omega)] | rw [if_neg (by omega)]
    have e3 : vsN B D way = B := by unfold vsN; first | rw [if_pos (by omega)] | rw [if_neg (by omega)]
    have e4 : apA A B way = A * B := by unfold apA; first | rw [if_pos (by omega)] | rw [if_neg (by omega), if_pos (by omega)] | rw [if_neg (by omega), if_neg (by omega)]
    have e5 : apU A way = 1 := by unfold apU; first | rw [if_pos (by omega)] | rw [if_neg (by omega)]
    have e6 : apV A B way = A := by unfold apV; first | rw [if_pos (by omega)] | rw [if_neg (by omega)]
    rw [e1, e2, e3, e4, e5, e6]
    clear e1 e2 e3 e4 e5 e6 hax hw
    go_enter Try.func61, Try.ntmps61
    repeat (first | go_values | go_skip | go_guarded | go_step | go_upon)
    obtain ⟨X, hX⟩ : ∃ X, X = (((w.alloc (.cells #[.int .i64 (A : Int), .int .i64 (B : Int), .int .i64 (D : Int), .slice ao l.length cap, .int .i64 (way : Int), .int .i64 (at_ : Int), .slice (some ⟨T, 0, none⟩) 64 64] 63)).alloc (.cells #[.int .i64 0, .int .i64 0] 57)).alloc (.cells #[.int .i64 0, .int .i64 0] 57)).alloc (.cells #[.int .i64 0, .int .i64 0] 57) := ⟨_, rfl⟩
    have kX : Kept w X := by rw [hX]; exact ((((But.refl _ _ _).alloc _).alloc _).alloc _).alloc _
    have L0 : Loc X w.heap.size [.int .i64 (A : Int), .int .i64 (B : Int), .int .i64 (D : Int), .slice ao l.length cap, .int .i64 (way : Int), .int .i64 (at_ : Int), .slice (some ⟨T, 0, none⟩) 64 64] := by rw [hX]; exact (((Loc.new w _ _).alloc _).alloc _).alloc _
    have R1 : Loc X (w.heap.size + 1) [.int .i64 0, .int .i64 0] := by rw [hX]; have h := ((Loc.new (w.alloc (.cells #[.int .i64 (A : Int), .int .i64 (B : Int), .int .i64 (D : Int), .slice ao l.length cap, .int .i64 (way : Int), .int .i64 (at_ : Int), .slice (some ⟨T, 0, none⟩) 64 64] 63)) [.int .i64 0, .int .i64 0] 57).alloc (.cells #[.int .i64 0, .int .i64 0] 57)).alloc (.cells #[.int .i64 0, .int .i64 0] 57); simpa only [World.size_alloc] using h
    have R2 : Loc X (w.heap.size + 1 + 1) [.int .i64 0, .int .i64 0] := by rw [hX]; have h := (Loc.new ((w.alloc (.cells #[.int .i64 (A : Int), .int .i64 (B : Int), .int .i64 (D : Int), .slice ao l.length cap, .int .i64 (way : Int), .int .i64 (at_ : Int), .slice (some ⟨T, 0, none⟩) 64 64] 63)).alloc (.cells #[.int .i64 0, .int .i64 0] 57)) [.int .i64 0, .int .i64 0] 57).alloc (.cells #[.int .i64 0, .int .i64 0] 57); simpa only [World.size_alloc] using h
    have R3 : Loc X (w.heap.size + 1 + 1 + 1) [.int .i64 0, .int .i64 0] := by rw [hX]; have h := Loc.new (((w.alloc (.cells #[.int .i64 (A : Int), .int .i64 (B : Int), .int .i64 (D : Int), .slice ao l.length cap, .int .i64 (way : Int), .int .i64 (at_ : Int), .slice (some ⟨T, 0, none⟩) 64 64] 63)).alloc (.cells #[.int .i64 0, .int .i64 0] 57)).alloc (.cells #[.int .i64 0, .int .i64 0] 57)) [.int .i64 0, .int .i64 0] 57; simpa only [World.size_alloc] using h
    rw [← hX]
    clear hX
    go_at_call 40
    refine (iaxes (A : Int) (B : Int) (D : Int) _ _ he).mono ?_
    rintro e u1 ⟨rfl, k1⟩
    have v4 := (L0.kept k1).cell 4 rfl
    have vl := (L0.kept k1).lt
    have rl := (R3.kept k1).lt
    have r10 := (R1.kept k1).cell 0 rfl
    have r11 := (R1.kept k1).cell 1 rfl
    have r20 := (R2.kept k1).cell 0 rfl
    have r21 := (R2.kept k1).cell 1 rfl
    have r30 := (R3.kept k1).cell 0 rfl
    have r31 := (R3.kept k1).cell 1 rfl
    have z10 := (R1.kept k1).frozen 0
    have z11 := (R1.kept k1).frozen 1
    have z20 := (R2.kept k1).frozen 0
    have z21 := (R2.kept k1).frozen 1
    have z30 := (R3.kept k1).frozen 0
    have z31 := (R3.kept k1).frozen 1
    (try dsimp only)
    repeat (first | go_values | go_skip | go_guarded | go_step | go_upon)
    obtain ⟨Y, hY⟩ : ∃ Y, Y = u1.alloc (.cells #[.int .i64 (A : Int), .int .i64 1, .int .i64 (B : Int), .int .i64 (A : Int), .int .i64 (D : Int), .int .i64 ((A : Int) * (B : Int))] 58) := ⟨_, rfl⟩
    have kY : Kept u1 Y := by rw [hY]; exact (But.refl _ _ _).alloc _
    have LA : Loc Y u1.heap.size [.int .i64 (A : Int), .int .i64 1, .int .i64 (B : Int), .int .i64 (A : Int), .int .i64 (D : Int), .int .i64 ((A : Int) * (B : Int))] := by rw [hY]; exact Loc.new _ _ _
    rw [← hY]
    clear hY v4
    have ab := LA.lt
    have a0 := LA.cell 0 rfl
    have a1 := LA.cell 1 rfl
    have a2 := LA.cell 2 rfl
    have a3 := LA.cell 3 rfl
    have a4 := LA.cell 4 rfl
    have a5 := LA.cell 5 rfl
    have r10 := Kept.cell kY r10
    have r11 := Kept.cell kY r11
    have r20 := Kept.cell kY r20
    have r21 := Kept.cell kY r21
    have r30 := Kept.cell kY r30
    have r31 := Kept.cell kY r31
    have z10 := ((R1.kept k1).kept kY).frozen 0
    have z11 := ((R1.kept k1).kept kY).frozen 1
    have z20 := ((R2.kept k1).kept kY).frozen 0
    have z21 := ((R2.kept k1).kept kY).frozen 1
    have z30 := ((R3.kept k1).kept kY).frozen 0
    have z31 := ((R3.kept k1).kept kY).frozen 1
    have n1 : u1.heap.size ≠ w.heap.size + 1 := by omega
    have n2 : u1.heap.size ≠ w.heap.size + 1 + 1 := by omega
    have n3 : u1.heap.size ≠ w.heap.size + 1 + 1 + 1 := by omega
    go_region_held3 (fun w' => w'.cell? ⟨u1.heap.size, 0, none⟩ = some (.int .i64 (A : Int)) ∧ w'.cell? ⟨u1.heap.size, 1, none⟩ = some (.int .i64 1) ∧ w'.cell? ⟨u1.heap.size, 2, none⟩ = some (.int .i64 (B : Int)) ∧ w'.cell? ⟨u1.heap.size, 3, none⟩ = some (.int .i64 (A : Int)) ∧ w'.cell? ⟨u1.heap.size, 4, none⟩ = some (.int .i64 (D : Int)) ∧ w'.cell? ⟨u1.heap.size, 5, none⟩ = some (.int .i64 ((A : Int) * (B : Int)))) (simp [go_sem, *]) (fail)
    obtain ⟨V, hV⟩ : ∃ V, V = ((((((Y.setCell ⟨w.heap.size + 1, 0, none⟩ (.int .i64 (D : Int))).setCell ⟨w.heap.size + 1, 1, none⟩ (.int .i64 ((A : Int) * (B : Int)))).setCell ⟨w.heap.size + 1 + 1, 0, none⟩ (.int .i64 (A : Int))).setCell ⟨w.heap.size + 1 + 1, 1, none⟩ (.int .i64 1)).setCell ⟨w.heap.size + 1 + 1 + 1, 0, none⟩ (.int .i64 (B : Int))).setCell ⟨w.heap.size + 1 + 1 + 1, 1, none⟩ (.int .i64 (A : Int))).drew := ⟨_, rfl⟩
    have R1v : Loc V (w.heap.size + 1) [(.int .i64 (D : Int)), (.int .i64 ((A : Int) * (B : Int)))] := by rw [hV]; exact (((((((((R1.kept k1).kept kY).set 0 _).set 1 _).other (by omega) _).other (by omega) _).other (by omega) _).other (by omega) _).kept ((But.refl _ _ _).drew))
    have R2v : Loc V (w.heap.size + 1 + 1) [(.int .i64 (A : Int)), (.int .i64 1)] := by rw [hV]; exact (((((((((R2.kept k1).kept kY).other (by omega) _).other (by omega) _).set 0 _).set 1 _).other (by omega) _).other (by omega) _).kept ((But.refl _ _ _).drew))
    have R3v : Loc V (w.heap.size + 1 + 1 + 1) [(.int .i64 (B : Int)), (.int .i64 (A : Int))] := by rw [hV]; exact (((((((((R3.kept k1).kept kY).other (by omega) _).other (by omega) _).other (by omega) _).other (by omega) _).set 0 _).set 1 _).kept ((But.refl _ _ _).drew))
    have KV : Kept w V := by rw [hV]; exact (((((((kX.trans k1).trans kY).setNew (by simp) _).setNew (by simp) _).setNew (by simp; omega) _).setNew (by simp; omega) _).setNew (by simp; omega) _).setNew (by simp; omega) _ |>.drew
    rw [← hV]
    clear hV a0 a1 a2 a3 a4 a5 r10 r11 r20 r21 r30 r31 z10 z11 z20 z21 z30 z31
    have x10 := R1v.cell 0 rfl
    have x11 := R1v.cell 1 rfl
    have x20 := R2v.cell 0 rfl
    have x21 := R2v.cell 1 rfl
    have x30 := R3v.cell 0 rfl
    have x31 := R3v.cell 1 rfl
    repeat (first | go_values | go_skip | go_guarded | go_step | go_upon)
    refine bodyPost_ret (v := .tuple #[.agg #[(.int .i64 (D : Int)), (.int .i64 ((A : Int) * (B : Int)))], .agg #[(.int .i64 (A : Int)), (.int .i64 1)], .agg #[(.int .i64 (B : Int)), (.int .i64 (A : Int))]]) (by simp [results, Try.results61, go_sem, x10, x11, x20, x21, x30, x31]) rfl ?_
    exact ⟨by push_cast; rfl, KV⟩

end Go.Proofs.Ytnfkgnbhdhpnmaa
