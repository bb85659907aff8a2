/-
  changeValues.
-/
import Derived.Test.YtklgjhemcofhhaaDoorRen22
namespace Go.Proofs.YtklgjhemcofhhaaDoor
open Go.ChangeShapes Go.WideShapes Go.ChangeAt Go.RowKit

set_option maxRecDepth 100000
set_option linter.unusedVariables false
set_option linter.unusedSimpArgs false

set_option maxHeartbeats 8000000 in
theorem ichv_same (l : List ValD) (f0 f1 : Int) (f2 f3 : ByteArray) (f4 : Int) (lo : Nat) (v : Value) (w : World) (hO : ValO w lo w.heap.size v l) (hlo : 10 < lo) (hlh : lo ≤ w.heap.size) (hE : ErrG w) (hinv : InvL l) (h : foundB f2 l = decide (f1 = 5)) :
    Calls Tryd.prog 51 #[v, .agg #[.int .i64 f0, .int .i64 f1, .string f2, .string f3, .int .i64 f4]] w fun e w' => ∃ v', e = .returned (.tuple #[v', .nilIface]) ∧ ValO w' lo w'.heap.size v' l ∧ But lo w.heap.size w w' := by
  obtain ⟨B, hfo⟩ : ∃ B, foundB f2 l = B := ⟨_, rfl⟩
  rw [hfo] at h
  have hq : (B == (f1 == 5)) = true := by
    rw [h]
    by_cases e : f1 = 5 <;> simp [e]
  have hn30 := hinv.2.1
  have hn : l.length ≤ 1048576 := by omega
  obtain ⟨bb, hbb⟩ : ∃ bb, w.heap.size = bb := ⟨_, rfl⟩
  have L0 : Loc (w.alloc (.cells #[.int .i64 f0, .int .i64 f1, .string f2, .string f3, .int .i64 f4] 70)) bb [.int .i64 f0, .int .i64 f1, .string f2, .string f3, .int .i64 f4] := by rw [← hbb]; exact Loc.new w _ _
  obtain ⟨w0, hw0⟩ : ∃ w0, w.alloc (.cells #[.int .i64 f0, .int .i64 f1, .string f2, .string f3, .int .i64 f4] 70) = w0 := ⟨_, rfl⟩
  have k0 : Kept w w0 := by rw [← hw0]; exact (But.refl _ _ _).alloc _
  rw [hw0] at L0
  have HO0 : Hid (ValO w0 lo bb v l) := by rw [← hbb]; exact hO.kept k0
  have HE0 : Hid (ErrG w0) := hE.kept k0
  have HF : Hid (Calls Tryd.prog 67 #[v, .string f2] w0 fun e w' => e = .returned (.tuple #[.int .i64 (posL f2 l : Nat), .bool B]) ∧ Kept w0 w') := by
    have := ifind l f2 _ w0 HO0.out.at hn hinv.1
    rw [hfo] at this
    exact this
  generalize posL f2 l = p at *
  have HL0 : Hid (Loc w0 bb [.int .i64 f0, .int .i64 f1, .string f2, .string f3, .int .i64 f4]) := L0
  have HK0 : Hid (Kept w w0) := k0
  have HB : Hid (w.heap.size = bb) := hbb
  have HIN : Hid (InvL l) := hinv
  clear L0 k0 hO hE h hfo hinv
  have HW : Hid (w.alloc (.cells #[.int .i64 f0, .int .i64 f1, .string f2, .string f3, .int .i64 f4] 70) = w0) := hw0
  clear hw0
  go_enter Tryd.func51, Tryd.ntmps51
  repeat (first | go_values | go_skip | go_guarded | go_step | go_upon)
  rw [HW.out]
  clear HW
  try rw [HB.out]
  have x0 := HL0.out.cell 0 (v := .int .i64 f0) rfl
  have x1 := HL0.out.cell 1 (v := .int .i64 f1) rfl
  have x2 := HL0.out.cell 2 (v := .string f2) rfl
  have x3 := HL0.out.cell 3 (v := .string f3) rfl
  have x4 := HL0.out.cell 4 (v := .int .i64 f4) rfl
  have xl := HL0.out.lt
  repeat (first | go_values | go_skip | go_guarded | go_step | go_upon)
  go_at_call 67
  with_reducible refine HF.out.mono ?_
  rintro e w1 ⟨rfl, k1⟩
  have HK1 : Hid (Kept w w1) := HK0.out.trans k1
  have HO1 : Hid (ValO w1 lo bb v l) := HO0.out.kept k1
  have HE1 : Hid (ErrG w1) := HE0.out.kept k1
  have HL1 : Hid (Loc w1 bb [.int .i64 f0, .int .i64 f1, .string f2, .string f3, .int .i64 f4]) := HL0.out.kept k1
  have HS1 : Hid (bb < w1.heap.size) := HL1.out.lt
  clear k1 HF HL0 HO0 HE0 HK0
  clear x0 x1 x2 x3 x4 xl
  have x0 := HL1.out.cell 0 (v := .int .i64 f0) rfl
  have x1 := HL1.out.cell 1 (v := .int .i64 f1) rfl
  have x2 := HL1.out.cell 2 (v := .string f2) rfl
  have x3 := HL1.out.cell 3 (v := .string f3) rfl
  have x4 := HL1.out.cell 4 (v := .int .i64 f4) rfl
  have xl := HL1.out.lt
  dsimp only
  repeat (first | go_values | go_skip | go_guarded | go_step | go_upon)
  go_ret2
  have hs := HS1.out
  exact ⟨_, rfl, (HO1.out).mono (Nat.le_refl _) (by omega), But.of HK1.out⟩

set_option maxHeartbeats 8000000 in
theorem ichv_drop (l m : List ValD) (f0 : Int) (f2 f3 : ByteArray) (f4 : Int) (lo : Nat) (v : Value) (w : World) (hO : ValO w lo w.heap.size v l) (hlo : 10 < lo) (hlh : lo ≤ w.heap.size) (hE : ErrG w) (hinv : InvL l) (hfo : foundB f2 l = true) (hm : stepV l (f0, 4, f2, f3, f4) = some m) :
    Calls Tryd.prog 51 #[v, .agg #[.int .i64 f0, .int .i64 4, .string f2, .string f3, .int .i64 f4]] w fun e w' => ∃ v', e = .returned (.tuple #[v', .nilIface]) ∧ ValO w' lo w'.heap.size v' m ∧ But lo w.heap.size w w' := by
  have hp := found_at hinv.1 f2
  have hpl : atI l f2 = (posL f2 l : Nat) ∧ posL f2 l < l.length := by
    rcases hp with ⟨_, h1, h2⟩ | ⟨h1, _⟩
    · exact ⟨h1, h2⟩
    · rw [hfo] at h1; cases h1
  obtain ⟨d, hd⟩ : ∃ d, l[posL f2 l]? = some d := ⟨_, List.getElem?_eq_getElem hpl.2⟩
  have hk := hpl.2
  have HD : Hid (l[posL f2 l]? = some d) := hd
  obtain ⟨g, cap, hsl⟩ : ∃ g cap, v = .slice (some ⟨g, 0, none⟩) l.length cap := by
    rcases hO.1.2 with ⟨_, hz⟩ | ⟨g, c2, cur, hf, _⟩
    · omega
    · exact ⟨g, c2, hf⟩
  subst hsl
  have hst := step_at (c := (f0, 4, f2, f3, f4)) (by show (4 : Int) ≠ 5; decide) hpl.1 hd
  dsimp only at hst
  rw [if_neg (by decide), if_pos rfl, hm] at hst
  cases hst
  clear hd hp hpl hm
  have hn30 := hinv.2.1
  have hn : l.length ≤ 1048576 := by omega
  obtain ⟨bb, hbb⟩ : ∃ bb, w.heap.size = bb := ⟨_, rfl⟩
  have L0 : Loc (w.alloc (.cells #[.int .i64 f0, .int .i64 4, .string f2, .string f3, .int .i64 f4] 70)) bb [.int .i64 f0, .int .i64 4, .string f2, .string f3, .int .i64 f4] := by rw [← hbb]; exact Loc.new w _ _
  obtain ⟨w0, hw0⟩ : ∃ w0, w.alloc (.cells #[.int .i64 f0, .int .i64 4, .string f2, .string f3, .int .i64 f4] 70) = w0 := ⟨_, rfl⟩
  have k0 : Kept w w0 := by rw [← hw0]; exact (But.refl _ _ _).alloc _
  rw [hw0] at L0
  have HO0 : Hid (ValO w0 lo bb (.slice (some ⟨g, 0, none⟩) l.length cap) l) := by rw [← hbb]; exact hO.kept k0
  have HE0 : Hid (ErrG w0) := hE.kept k0
  have HF : Hid (Calls Tryd.prog 67 #[(.slice (some ⟨g, 0, none⟩) l.length cap), .string f2] w0 fun e w' => e = .returned (.tuple #[.int .i64 (posL f2 l : Nat), .bool true]) ∧ Kept w0 w') := by
    have := ifind l f2 _ w0 HO0.out.at hn hinv.1
    rw [hfo] at this
    exact this
  generalize posL f2 l = p at *
  have HL0 : Hid (Loc w0 bb [.int .i64 f0, .int .i64 4, .string f2, .string f3, .int .i64 f4]) := L0
  have HK0 : Hid (Kept w w0) := k0
  have HB : Hid (w.heap.size = bb) := hbb
  have HIN : Hid (InvL l) := hinv
  clear L0 k0 hO hE hfo hinv
  have HW : Hid (w.alloc (.cells #[.int .i64 f0, .int .i64 4, .string f2, .string f3, .int .i64 f4] 70) = w0) := hw0
  clear hw0
  go_enter Tryd.func51, Tryd.ntmps51
  repeat (first | go_values | go_skip | go_guarded | go_step | go_upon)
  rw [HW.out]
  clear HW
  try rw [HB.out]
  have x0 := HL0.out.cell 0 (v := .int .i64 f0) rfl
  have x1 := HL0.out.cell 1 (v := .int .i64 4) rfl
  have x2 := HL0.out.cell 2 (v := .string f2) rfl
  have x3 := HL0.out.cell 3 (v := .string f3) rfl
  have x4 := HL0.out.cell 4 (v := .int .i64 f4) rfl
  have xl := HL0.out.lt
  repeat (first | go_values | go_skip | go_guarded | go_step | go_upon)
  go_at_call 67
  with_reducible refine HF.out.mono ?_
  rintro e w1 ⟨rfl, k1⟩
  have HK1 : Hid (Kept w w1) := HK0.out.trans k1
  have HO1 : Hid (ValO w1 lo bb (.slice (some ⟨g, 0, none⟩) l.length cap) l) := HO0.out.kept k1
  have HE1 : Hid (ErrG w1) := HE0.out.kept k1
  have HL1 : Hid (Loc w1 bb [.int .i64 f0, .int .i64 4, .string f2, .string f3, .int .i64 f4]) := HL0.out.kept k1
  have HS1 : Hid (bb < w1.heap.size) := HL1.out.lt
  clear k1 HF HL0 HO0 HE0 HK0
  clear x0 x1 x2 x3 x4 xl
  have x0 := HL1.out.cell 0 (v := .int .i64 f0) rfl
  have x1 := HL1.out.cell 1 (v := .int .i64 4) rfl
  have x2 := HL1.out.cell 2 (v := .string f2) rfl
  have x3 := HL1.out.cell 3 (v := .string f3) rfl
  have x4 := HL1.out.cell 4 (v := .int .i64 f4) rfl
  have xl := HL1.out.lt
  dsimp only
  repeat (first | go_values | go_skip | go_guarded | go_step | go_upon)
  go_at_call 71
  refine (idel l p g cap lo _ _ HO1.out hk hn).mono ?_
  rintro e w3 ⟨rfl, o3, b3⟩
  have HO3 : Hid (ValO w3 lo w3.heap.size (.slice (some ⟨g, 0, none⟩) (dropL l p).length cap) (dropL l p)) := o3
  have HB3 : Hid (But lo bb w w3) := But.trans (But.of HK1.out) b3
  clear o3 b3 x0 x1 x2 x3 x4 xl
  dsimp only
  repeat (first | go_values | go_skip | go_guarded | go_step | go_upon)
  go_ret2
  exact ⟨_, rfl, HO3.out, by rw [HB.out]; exact HB3.out⟩

set_option maxHeartbeats 8000000 in
theorem ichv_name (l m : List ValD) (f0 : Int) (f2 f3 : ByteArray) (f4 : Int) (lo : Nat) (v : Value) (w : World) (hO : ValO w lo w.heap.size v l) (hlo : 10 < lo) (hlh : lo ≤ w.heap.size) (hE : ErrG w) (hinv : InvL l) (hfo : foundB f2 l = true) (hm : stepV l (f0, 1, f2, f3, f4) = some m) :
    Calls Tryd.prog 51 #[v, .agg #[.int .i64 f0, .int .i64 1, .string f2, .string f3, .int .i64 f4]] w fun e w' => ∃ v', e = .returned (.tuple #[v', .nilIface]) ∧ ValO w' lo w'.heap.size v' m ∧ But lo w.heap.size w w' := by
  have hp := found_at hinv.1 f2
  have hpl : atI l f2 = (posL f2 l : Nat) ∧ posL f2 l < l.length := by
    rcases hp with ⟨_, h1, h2⟩ | ⟨h1, _⟩
    · exact ⟨h1, h2⟩
    · rw [hfo] at h1; cases h1
  obtain ⟨d, hd⟩ : ∃ d, l[posL f2 l]? = some d := ⟨_, List.getElem?_eq_getElem hpl.2⟩
  have hk := hpl.2
  have HD : Hid (l[posL f2 l]? = some d) := hd
  have hst := step_at (c := (f0, 1, f2, f3, f4)) (by show (1 : Int) ≠ 5; decide) hpl.1 hd
  dsimp only at hst
  rw [if_pos rfl, hm] at hst
  have ht : atI l f3 = -1 := by
    rcases at_cases l f3 with ⟨h, _⟩ | ⟨k, d, h, _⟩
    · exact h
    · rw [if_pos (by omega)] at hst; cases hst
  rw [if_neg (by omega)] at hst
  cases hst
  have HTO : Hid (atI l f3 = -1) := ht
  clear hd hp hpl hm ht
  have hn30 := hinv.2.1
  have hn : l.length ≤ 1048576 := by omega
  obtain ⟨bb, hbb⟩ : ∃ bb, w.heap.size = bb := ⟨_, rfl⟩
  have L0 : Loc (w.alloc (.cells #[.int .i64 f0, .int .i64 1, .string f2, .string f3, .int .i64 f4] 70)) bb [.int .i64 f0, .int .i64 1, .string f2, .string f3, .int .i64 f4] := by rw [← hbb]; exact Loc.new w _ _
  obtain ⟨w0, hw0⟩ : ∃ w0, w.alloc (.cells #[.int .i64 f0, .int .i64 1, .string f2, .string f3, .int .i64 f4] 70) = w0 := ⟨_, rfl⟩
  have k0 : Kept w w0 := by rw [← hw0]; exact (But.refl _ _ _).alloc _
  rw [hw0] at L0
  have HO0 : Hid (ValO w0 lo bb v l) := by rw [← hbb]; exact hO.kept k0
  have HE0 : Hid (ErrG w0) := hE.kept k0
  have HF : Hid (Calls Tryd.prog 67 #[v, .string f2] w0 fun e w' => e = .returned (.tuple #[.int .i64 (posL f2 l : Nat), .bool true]) ∧ Kept w0 w') := by
    have := ifind l f2 _ w0 HO0.out.at hn hinv.1
    rw [hfo] at this
    exact this
  generalize posL f2 l = p at *
  have HL0 : Hid (Loc w0 bb [.int .i64 f0, .int .i64 1, .string f2, .string f3, .int .i64 f4]) := L0
  have HK0 : Hid (Kept w w0) := k0
  have HB : Hid (w.heap.size = bb) := hbb
  have HIN : Hid (InvL l) := hinv
  clear L0 k0 hO hE hfo hinv
  have HW : Hid (w.alloc (.cells #[.int .i64 f0, .int .i64 1, .string f2, .string f3, .int .i64 f4] 70) = w0) := hw0
  clear hw0
  go_enter Tryd.func51, Tryd.ntmps51
  repeat (first | go_values | go_skip | go_guarded | go_step | go_upon)
  rw [HW.out]
  clear HW
  try rw [HB.out]
  have x0 := HL0.out.cell 0 (v := .int .i64 f0) rfl
  have x1 := HL0.out.cell 1 (v := .int .i64 1) rfl
  have x2 := HL0.out.cell 2 (v := .string f2) rfl
  have x3 := HL0.out.cell 3 (v := .string f3) rfl
  have x4 := HL0.out.cell 4 (v := .int .i64 f4) rfl
  have xl := HL0.out.lt
  repeat (first | go_values | go_skip | go_guarded | go_step | go_upon)
  go_at_call 67
  with_reducible refine HF.out.mono ?_
  rintro e w1 ⟨rfl, k1⟩
  have HK1 : Hid (Kept w w1) := HK0.out.trans k1
  have HO1 : Hid (ValO w1 lo bb v l) := HO0.out.kept k1
  have HE1 : Hid (ErrG w1) := HE0.out.kept k1
  have HL1 : Hid (Loc w1 bb [.int .i64 f0, .int .i64 1, .string f2, .string f3, .int .i64 f4]) := HL0.out.kept k1
  have HS1 : Hid (bb < w1.heap.size) := HL1.out.lt
  clear k1 HF HL0 HO0 HE0 HK0
  clear x0 x1 x2 x3 x4 xl
  have x0 := HL1.out.cell 0 (v := .int .i64 f0) rfl
  have x1 := HL1.out.cell 1 (v := .int .i64 1) rfl
  have x2 := HL1.out.cell 2 (v := .string f2) rfl
  have x3 := HL1.out.cell 3 (v := .string f3) rfl
  have x4 := HL1.out.cell 4 (v := .int .i64 f4) rfl
  have xl := HL1.out.lt
  dsimp only
  repeat (first | go_values | go_skip | go_guarded | go_step | go_upon)
  go_at_call 68
  refine (iren l p lo d f3 _ _ (RowO.mono HO1.out (Nat.le_refl _) (Nat.le_of_lt HS1.out)) HIN.out.1 hn30 HD.out HTO.out).mono ?_
  rintro e w3 ⟨v3, rfl, o3, b3⟩
  have HO3 : Hid (ValO w3 lo w3.heap.size v3 (putL (dropL l p) (f3, d.2.1, d.2.2))) := o3
  have HB3 : Hid (But lo bb w w3) := by have hs := HB.out; refine ⟨b3.os.trans HK1.out.os, b3.out.trans HK1.out.out, Nat.le_trans HK1.out.size b3.size, fun i hi hx => ?_⟩; rw [b3.block i (Nat.lt_of_lt_of_le hi HK1.out.size) (by omega), HK1.out.block i hi (by omega)]
  clear o3 b3 x0 x1 x2 x3 x4 xl
  dsimp only
  repeat (first | go_values | go_skip | go_guarded | go_step | go_upon)
  go_ret2
  exact ⟨_, rfl, HO3.out, by rw [HB.out]; exact HB3.out⟩

set_option maxHeartbeats 8000000 in
theorem ichv_name_no (l : List ValD) (f0 : Int) (f2 f3 : ByteArray) (f4 : Int) (lo : Nat) (v : Value) (w : World) (hO : ValO w lo w.heap.size v l) (hlo : 10 < lo) (hlh : lo ≤ w.heap.size) (hE : ErrG w) (hinv : InvL l) (hfo : foundB f2 l = true) (hm : stepV l (f0, 1, f2, f3, f4) = none) :
    Calls Tryd.prog 51 #[v, .agg #[.int .i64 f0, .int .i64 1, .string f2, .string f3, .int .i64 f4]] w fun e w' => (∃ v' er, EIs er ∧ e = .returned (.tuple #[v', er])) ∧ But lo w.heap.size w w' := by
  have hp := found_at hinv.1 f2
  have hpl : atI l f2 = (posL f2 l : Nat) ∧ posL f2 l < l.length := by
    rcases hp with ⟨_, h1, h2⟩ | ⟨h1, _⟩
    · exact ⟨h1, h2⟩
    · rw [hfo] at h1; cases h1
  obtain ⟨d, hd⟩ : ∃ d, l[posL f2 l]? = some d := ⟨_, List.getElem?_eq_getElem hpl.2⟩
  have hk := hpl.2
  have HD : Hid (l[posL f2 l]? = some d) := hd
  have hst := step_at (c := (f0, 1, f2, f3, f4)) (by show (1 : Int) ≠ 5; decide) hpl.1 hd
  dsimp only at hst
  rw [if_pos rfl, hm] at hst
  have ht : 0 ≤ atI l f3 := by
    by_cases h : 0 ≤ atI l f3
    · exact h
    · rw [if_neg h] at hst; cases hst
  have HTO : Hid (0 ≤ atI l f3) := ht
  clear hd hp hpl hm ht hst
  have hn30 := hinv.2.1
  have hn : l.length ≤ 1048576 := by omega
  obtain ⟨bb, hbb⟩ : ∃ bb, w.heap.size = bb := ⟨_, rfl⟩
  have L0 : Loc (w.alloc (.cells #[.int .i64 f0, .int .i64 1, .string f2, .string f3, .int .i64 f4] 70)) bb [.int .i64 f0, .int .i64 1, .string f2, .string f3, .int .i64 f4] := by rw [← hbb]; exact Loc.new w _ _
  obtain ⟨w0, hw0⟩ : ∃ w0, w.alloc (.cells #[.int .i64 f0, .int .i64 1, .string f2, .string f3, .int .i64 f4] 70) = w0 := ⟨_, rfl⟩
  have k0 : Kept w w0 := by rw [← hw0]; exact (But.refl _ _ _).alloc _
  rw [hw0] at L0
  have HO0 : Hid (ValO w0 lo bb v l) := by rw [← hbb]; exact hO.kept k0
  have HE0 : Hid (ErrG w0) := hE.kept k0
  have HF : Hid (Calls Tryd.prog 67 #[v, .string f2] w0 fun e w' => e = .returned (.tuple #[.int .i64 (posL f2 l : Nat), .bool true]) ∧ Kept w0 w') := by
    have := ifind l f2 _ w0 HO0.out.at hn hinv.1
    rw [hfo] at this
    exact this
  generalize posL f2 l = p at *
  have HL0 : Hid (Loc w0 bb [.int .i64 f0, .int .i64 1, .string f2, .string f3, .int .i64 f4]) := L0
  have HK0 : Hid (Kept w w0) := k0
  have HB : Hid (w.heap.size = bb) := hbb
  have HIN : Hid (InvL l) := hinv
  clear L0 k0 hO hE hfo hinv
  have HW : Hid (w.alloc (.cells #[.int .i64 f0, .int .i64 1, .string f2, .string f3, .int .i64 f4] 70) = w0) := hw0
  clear hw0
  go_enter Tryd.func51, Tryd.ntmps51
  repeat (first | go_values | go_skip | go_guarded | go_step | go_upon)
  rw [HW.out]
  clear HW
  try rw [HB.out]
  have x0 := HL0.out.cell 0 (v := .int .i64 f0) rfl
  have x1 := HL0.out.cell 1 (v := .int .i64 1) rfl
  have x2 := HL0.out.cell 2 (v := .string f2) rfl
  have x3 := HL0.out.cell 3 (v := .string f3) rfl
  have x4 := HL0.out.cell 4 (v := .int .i64 f4) rfl
  have xl := HL0.out.lt
  repeat (first | go_values | go_skip | go_guarded | go_step | go_upon)
  go_at_call 67
  with_reducible refine HF.out.mono ?_
  rintro e w1 ⟨rfl, k1⟩
  have HK1 : Hid (Kept w w1) := HK0.out.trans k1
  have HO1 : Hid (ValO w1 lo bb v l) := HO0.out.kept k1
  have HE1 : Hid (ErrG w1) := HE0.out.kept k1
  have HL1 : Hid (Loc w1 bb [.int .i64 f0, .int .i64 1, .string f2, .string f3, .int .i64 f4]) := HL0.out.kept k1
  have HS1 : Hid (bb < w1.heap.size) := HL1.out.lt
  clear k1 HF HL0 HO0 HE0 HK0
  clear x0 x1 x2 x3 x4 xl
  have x0 := HL1.out.cell 0 (v := .int .i64 f0) rfl
  have x1 := HL1.out.cell 1 (v := .int .i64 1) rfl
  have x2 := HL1.out.cell 2 (v := .string f2) rfl
  have x3 := HL1.out.cell 3 (v := .string f3) rfl
  have x4 := HL1.out.cell 4 (v := .int .i64 f4) rfl
  have xl := HL1.out.lt
  dsimp only
  repeat (first | go_values | go_skip | go_guarded | go_step | go_upon)
  go_at_call 68
  refine (iren_taken l p f3 _ _ HO1.out.at HIN.out.1 hn30 HTO.out HE1.out.2.2.1).mono ?_
  rintro e w3 ⟨⟨er, her, rfl⟩, k3⟩
  have HK3 : Hid (Kept w w3) := HK1.out.trans k3
  have HER : Hid (EIs er) := her
  clear k3 her x0 x1 x2 x3 x4 xl
  dsimp only
  repeat (first | go_values | go_skip | go_guarded | go_step | go_upon)
  go_ret2
  exact ⟨⟨_, _, HER.out, rfl⟩, But.of HK3.out⟩

set_option maxHeartbeats 8000000 in
theorem ichv_new (l m : List ValD) (f0 : Int) (f2 f3 : ByteArray) (f4 : Int) (lo : Nat) (v : Value) (w : World) (hO : ValO w lo w.heap.size v l) (hlo : 10 < lo) (hlh : lo ≤ w.heap.size) (hE : ErrG w) (hinv : InvL l) (hfo : foundB f2 l = false) (hm : stepV l (f0, 5, f2, f3, f4) = some m) :
    Calls Tryd.prog 51 #[v, .agg #[.int .i64 f0, .int .i64 5, .string f2, .string f3, .int .i64 f4]] w fun e w' => ∃ v', e = .returned (.tuple #[v', .nilIface]) ∧ ValO w' lo w'.heap.size v' m ∧ But lo w.heap.size w w' := by
  have hp := found_at hinv.1 f2
  have hpl : atI l f2 = -1 := by
    rcases hp with ⟨h1, _⟩ | ⟨_, h1⟩
    · rw [hfo] at h1; cases h1
    · exact h1
  have hlt : l.length < 30 := by
    by_cases h : l.length < 30
    · exact h
    · rw [step_new_no (c := (f0, 5, f2, f3, f4)) rfl hpl h] at hm; cases hm
  have hst := step_new_yes (c := (f0, 5, f2, f3, f4)) rfl hpl hlt
  dsimp only at hst
  rw [hm] at hst
  cases hst
  have hq : ((l.length : Int) == 30) = false := by simp; omega
  obtain ⟨ao, cap, hsl⟩ := hO.form
  subst hsl
  clear hp hpl hm
  have hn30 := hinv.2.1
  have hn : l.length ≤ 1048576 := by omega
  obtain ⟨bb, hbb⟩ : ∃ bb, w.heap.size = bb := ⟨_, rfl⟩
  have L0 : Loc (w.alloc (.cells #[.int .i64 f0, .int .i64 5, .string f2, .string f3, .int .i64 f4] 70)) bb [.int .i64 f0, .int .i64 5, .string f2, .string f3, .int .i64 f4] := by rw [← hbb]; exact Loc.new w _ _
  obtain ⟨w0, hw0⟩ : ∃ w0, w.alloc (.cells #[.int .i64 f0, .int .i64 5, .string f2, .string f3, .int .i64 f4] 70) = w0 := ⟨_, rfl⟩
  have k0 : Kept w w0 := by rw [← hw0]; exact (But.refl _ _ _).alloc _
  rw [hw0] at L0
  have HO0 : Hid (ValO w0 lo bb (.slice ao l.length cap) l) := by rw [← hbb]; exact hO.kept k0
  have HE0 : Hid (ErrG w0) := hE.kept k0
  have HF : Hid (Calls Tryd.prog 67 #[(.slice ao l.length cap), .string f2] w0 fun e w' => e = .returned (.tuple #[.int .i64 (posL f2 l : Nat), .bool false]) ∧ Kept w0 w') := by
    have := ifind l f2 _ w0 HO0.out.at hn hinv.1
    rw [hfo] at this
    exact this
  obtain ⟨p, hp⟩ : ∃ p, posL f2 l = p := ⟨_, rfl⟩
  rw [hp] at HF
  have HP : Hid (posL f2 l = p) := hp
  clear hp
  have HL0 : Hid (Loc w0 bb [.int .i64 f0, .int .i64 5, .string f2, .string f3, .int .i64 f4]) := L0
  have HK0 : Hid (Kept w w0) := k0
  have HB : Hid (w.heap.size = bb) := hbb
  have HIN : Hid (InvL l) := hinv
  clear L0 k0 hO hE hfo hinv
  have HW : Hid (w.alloc (.cells #[.int .i64 f0, .int .i64 5, .string f2, .string f3, .int .i64 f4] 70) = w0) := hw0
  clear hw0
  go_enter Tryd.func51, Tryd.ntmps51
  repeat (first | go_values | go_skip | go_guarded | go_step | go_upon)
  rw [HW.out]
  clear HW
  try rw [HB.out]
  have x0 := HL0.out.cell 0 (v := .int .i64 f0) rfl
  have x1 := HL0.out.cell 1 (v := .int .i64 5) rfl
  have x2 := HL0.out.cell 2 (v := .string f2) rfl
  have x3 := HL0.out.cell 3 (v := .string f3) rfl
  have x4 := HL0.out.cell 4 (v := .int .i64 f4) rfl
  have xl := HL0.out.lt
  repeat (first | go_values | go_skip | go_guarded | go_step | go_upon)
  go_at_call 67
  with_reducible refine HF.out.mono ?_
  rintro e w1 ⟨rfl, k1⟩
  have HK1 : Hid (Kept w w1) := HK0.out.trans k1
  have HO1 : Hid (ValO w1 lo bb (.slice ao l.length cap) l) := HO0.out.kept k1
  have HE1 : Hid (ErrG w1) := HE0.out.kept k1
  have HL1 : Hid (Loc w1 bb [.int .i64 f0, .int .i64 5, .string f2, .string f3, .int .i64 f4]) := HL0.out.kept k1
  have HS1 : Hid (bb < w1.heap.size) := HL1.out.lt
  clear k1 HF HL0 HO0 HE0 HK0
  clear x0 x1 x2 x3 x4 xl
  have x0 := HL1.out.cell 0 (v := .int .i64 f0) rfl
  have x1 := HL1.out.cell 1 (v := .int .i64 5) rfl
  have x2 := HL1.out.cell 2 (v := .string f2) rfl
  have x3 := HL1.out.cell 3 (v := .string f3) rfl
  have x4 := HL1.out.cell 4 (v := .int .i64 f4) rfl
  have xl := HL1.out.lt
  dsimp only
  repeat (first | go_values | go_skip | go_guarded | go_step | go_upon)
  go_at_call 72
  rw [← HP.out]
  refine (iins l (f2, f4, empB) w1.heap.size lo bb _ _ (HO1.out.kept ((But.refl _ _ _).alloc _)) (Loc.new w1 (valC (f2, f4, empB)) 53) (Nat.le_of_lt HS1.out) (by have := HS1.out; have := HB.out; simp; omega) hn).mono ?_
  rintro e w3 ⟨v3, rfl, o3, b3⟩
  have HO3 : Hid (ValO w3 lo w3.heap.size v3 (putL l (f2, f4, empB))) := o3
  have HB3 : Hid (But lo bb w w3) := But.trans (But.of (HK1.out.alloc _)) b3
  clear o3 b3 x0 x1 x2 x3 x4 xl
  dsimp only
  repeat (first | go_values | go_skip | go_guarded | go_step | go_upon)
  go_ret2
  exact ⟨_, rfl, HO3.out, by rw [HB.out]; exact HB3.out⟩

set_option maxHeartbeats 8000000 in
theorem ichv_new_no (l : List ValD) (f0 : Int) (f2 f3 : ByteArray) (f4 : Int) (lo : Nat) (v : Value) (w : World) (hO : ValO w lo w.heap.size v l) (hlo : 10 < lo) (hlh : lo ≤ w.heap.size) (hE : ErrG w) (hinv : InvL l) (hfo : foundB f2 l = false) (hm : stepV l (f0, 5, f2, f3, f4) = none) :
    Calls Tryd.prog 51 #[v, .agg #[.int .i64 f0, .int .i64 5, .string f2, .string f3, .int .i64 f4]] w fun e w' => (∃ v' er, EIs er ∧ e = .returned (.tuple #[v', er])) ∧ But lo w.heap.size w w' := by
  have hp := found_at hinv.1 f2
  have hpl : atI l f2 = -1 := by
    rcases hp with ⟨h1, _⟩ | ⟨_, h1⟩
    · rw [hfo] at h1; cases h1
    · exact h1
  have hlt : ¬ l.length < 30 := by
    intro h
    rw [step_new_yes (c := (f0, 5, f2, f3, f4)) rfl hpl h] at hm; cases hm
  have hq : ((l.length : Int) == 30) = true := by simp; have := hinv.2.1; omega
  obtain ⟨ao, cap, hsl⟩ := hO.form
  subst hsl
  clear hp hpl hm
  have hn30 := hinv.2.1
  have hn : l.length ≤ 1048576 := by omega
  obtain ⟨bb, hbb⟩ : ∃ bb, w.heap.size = bb := ⟨_, rfl⟩
  have L0 : Loc (w.alloc (.cells #[.int .i64 f0, .int .i64 5, .string f2, .string f3, .int .i64 f4] 70)) bb [.int .i64 f0, .int .i64 5, .string f2, .string f3, .int .i64 f4] := by rw [← hbb]; exact Loc.new w _ _
  obtain ⟨w0, hw0⟩ : ∃ w0, w.alloc (.cells #[.int .i64 f0, .int .i64 5, .string f2, .string f3, .int .i64 f4] 70) = w0 := ⟨_, rfl⟩
  have k0 : Kept w w0 := by rw [← hw0]; exact (But.refl _ _ _).alloc _
  rw [hw0] at L0
  have HO0 : Hid (ValO w0 lo bb (.slice ao l.length cap) l) := by rw [← hbb]; exact hO.kept k0
  have HE0 : Hid (ErrG w0) := hE.kept k0
  have HF : Hid (Calls Tryd.prog 67 #[(.slice ao l.length cap), .string f2] w0 fun e w' => e = .returned (.tuple #[.int .i64 (posL f2 l : Nat), .bool false]) ∧ Kept w0 w') := by
    have := ifind l f2 _ w0 HO0.out.at hn hinv.1
    rw [hfo] at this
    exact this
  generalize posL f2 l = p at *
  have HL0 : Hid (Loc w0 bb [.int .i64 f0, .int .i64 5, .string f2, .string f3, .int .i64 f4]) := L0
  have HK0 : Hid (Kept w w0) := k0
  have HB : Hid (w.heap.size = bb) := hbb
  have HIN : Hid (InvL l) := hinv
  clear L0 k0 hO hE hfo hinv
  have HW : Hid (w.alloc (.cells #[.int .i64 f0, .int .i64 5, .string f2, .string f3, .int .i64 f4] 70) = w0) := hw0
  clear hw0
  go_enter Tryd.func51, Tryd.ntmps51
  repeat (first | go_values | go_skip | go_guarded | go_step | go_upon)
  rw [HW.out]
  clear HW
  try rw [HB.out]
  have x0 := HL0.out.cell 0 (v := .int .i64 f0) rfl
  have x1 := HL0.out.cell 1 (v := .int .i64 5) rfl
  have x2 := HL0.out.cell 2 (v := .string f2) rfl
  have x3 := HL0.out.cell 3 (v := .string f3) rfl
  have x4 := HL0.out.cell 4 (v := .int .i64 f4) rfl
  have xl := HL0.out.lt
  repeat (first | go_values | go_skip | go_guarded | go_step | go_upon)
  go_at_call 67
  with_reducible refine HF.out.mono ?_
  rintro e w1 ⟨rfl, k1⟩
  have HK1 : Hid (Kept w w1) := HK0.out.trans k1
  have HO1 : Hid (ValO w1 lo bb (.slice ao l.length cap) l) := HO0.out.kept k1
  have HE1 : Hid (ErrG w1) := HE0.out.kept k1
  have HL1 : Hid (Loc w1 bb [.int .i64 f0, .int .i64 5, .string f2, .string f3, .int .i64 f4]) := HL0.out.kept k1
  have HS1 : Hid (bb < w1.heap.size) := HL1.out.lt
  clear k1 HF HL0 HO0 HE0 HK0
  clear x0 x1 x2 x3 x4 xl
  have x0 := HL1.out.cell 0 (v := .int .i64 f0) rfl
  have x1 := HL1.out.cell 1 (v := .int .i64 5) rfl
  have x2 := HL1.out.cell 2 (v := .string f2) rfl
  have x3 := HL1.out.cell 3 (v := .string f3) rfl
  have x4 := HL1.out.cell 4 (v := .int .i64 f4) rfl
  have xl := HL1.out.lt
  obtain ⟨ug, ag, hcg⟩ := HE1.out.2.1
  dsimp only
  repeat (first | go_values | go_skip | go_guarded | go_step | go_upon | go_region)
  go_ret2
  exact ⟨⟨_, _, ⟨_, _, rfl⟩, rfl⟩, (But.of HK1.out).drew⟩

end Go.Proofs.YtklgjhemcofhhaaDoor
