/-
  changeValues: a number.
-/
import Derived.Test.YtklgjhemcofhhaaDoorRen22
import Derived.Deep.RegionLaw
import Derived.Deep.Cut
namespace Go.Proofs.YtklgjhemcofhhaaDoor
open Go.ChangeShapes Go.WideShapes Go.ChangeAt Go.RowKit

set_option maxRecDepth 100000
set_option linter.unusedVariables false
set_option linter.unusedSimpArgs false

set_option maxHeartbeats 8000000 in
theorem ichv_turn2_no (l : List ValD) (f0 : Int) (f2 f3 : ByteArray) (f4 : Int) (lo : Nat) (v : Value) (w : World) (hO : ValO w lo w.heap.size v l) (hlo : 10 < lo) (hlh : lo ≤ w.heap.size) (hE : ErrG w) (hinv : InvL l) (hfo : foundB f2 l = true) (hby : -1000000 ≤ f4 ∧ f4 ≤ 1000000) (hm : stepV l (f0, 2, f2, f3, f4) = none) :
    Calls Tryd.prog 51 #[v, .agg #[.int .i64 f0, .int .i64 2, .string f2, .string f3, .int .i64 f4]] w fun e w' => (∃ v' er, EIs er ∧ e = .returned (.tuple #[v', er])) ∧ But lo w.heap.size w w' := by
  have hp := found_at hinv.1 f2
  have hpl : atI l f2 = (posL f2 l : Nat) ∧ posL f2 l < l.length := by
    rcases hp with ⟨_, h1, h2⟩ | ⟨h1, _⟩
    · exact ⟨h1, h2⟩
    · rw [hfo] at h1; cases h1
  obtain ⟨d, hd⟩ : ∃ d, l[posL f2 l]? = some d := ⟨_, List.getElem?_eq_getElem hpl.2⟩
  have hk := hpl.2
  have HD : Hid (l[posL f2 l]? = some d) := hd
  obtain ⟨g, cap, hsl⟩ : ∃ g cap, v = .slice (some ⟨g, 0, none⟩) l.length cap := by
    rcases hO.1.2 with ⟨_, hz⟩ | ⟨g, c2, cur, hf, _⟩
    · omega
    · exact ⟨g, c2, hf⟩
  subst hsl
  have hst := step_at (c := (f0, 2, f2, f3, f4)) (by show (2 : Int) ≠ 5; decide) hpl.1 hd
  dsimp only at hst
  rw [if_neg (by decide), if_neg (by decide), hm] at hst
  obtain ⟨d0, d1, d2⟩ := d
  dsimp only at hst HD
  have HR : Hid (InR d1) := hinv.2.2 _ (List.mem_of_getElem? hd)
  have HBY : Hid (-1000000 ≤ f4 ∧ f4 ≤ 1000000) := hby
  have htn : turnL 2 f4 d1 = none := by
    cases h : turnL 2 f4 d1 with
    | none => rfl
    | some q => rw [h] at hst; cases hst
  have AT : Hid (∀ W, GE W 10 → Calls Tryd.prog 69 #[.int .i64 d1, .int .i64 f4] W fun e w' => (∃ er, EIs er ∧ e = .returned (.tuple #[.int .i64 0, er])) ∧ Kept W w') := fun W hg => iadd_none 2 d1 f4 W (by decide) hby HR.out htn hg
  clear hd hp hpl hm hst htn hby
  have hn30 := hinv.2.1
  have hn : l.length ≤ 1048576 := by omega
  obtain ⟨bb, hbb⟩ : ∃ bb, w.heap.size = bb := ⟨_, rfl⟩
  have L0 : Loc (w.alloc (.cells #[.int .i64 f0, .int .i64 2, .string f2, .string f3, .int .i64 f4] 70)) bb [.int .i64 f0, .int .i64 2, .string f2, .string f3, .int .i64 f4] := by rw [← hbb]; exact Loc.new w _ _
  obtain ⟨w0, hw0⟩ : ∃ w0, w.alloc (.cells #[.int .i64 f0, .int .i64 2, .string f2, .string f3, .int .i64 f4] 70) = w0 := ⟨_, rfl⟩
  have k0 : Kept w w0 := by rw [← hw0]; exact (But.refl _ _ _).alloc _
  rw [hw0] at L0
  have HO0 : Hid (ValO w0 lo bb (.slice (some ⟨g, 0, none⟩) l.length cap) l) := by rw [← hbb]; exact hO.kept k0
  have HE0 : Hid (ErrG w0) := hE.kept k0
  have HF : Hid (Calls Tryd.prog 67 #[(.slice (some ⟨g, 0, none⟩) l.length cap), .string f2] w0 fun e w' => e = .returned (.tuple #[.int .i64 (posL f2 l : Nat), .bool true]) ∧ Kept w0 w') := by
    have := ifind l f2 _ w0 HO0.out.at hn hinv.1
    rw [hfo] at this
    exact this
  generalize posL f2 l = p at *
  have HL0 : Hid (Loc w0 bb [.int .i64 f0, .int .i64 2, .string f2, .string f3, .int .i64 f4]) := L0
  have HK0 : Hid (Kept w w0) := k0
  have HB : Hid (w.heap.size = bb) := hbb
  have HIN : Hid (InvL l) := hinv
  clear L0 k0 hO hE hfo hinv
  have HW : Hid (w.alloc (.cells #[.int .i64 f0, .int .i64 2, .string f2, .string f3, .int .i64 f4] 70) = w0) := hw0
  clear hw0
  go_enter Tryd.func51, Tryd.ntmps51
  repeat (first | go_values | go_skip | go_guarded | go_step | go_upon)
  rw [HW.out]
  clear HW
  try rw [HB.out]
  have x0 := HL0.out.cell 0 (v := .int .i64 f0) rfl
  have x1 := HL0.out.cell 1 (v := .int .i64 2) rfl
  have x2 := HL0.out.cell 2 (v := .string f2) rfl
  have x3 := HL0.out.cell 3 (v := .string f3) rfl
  have x4 := HL0.out.cell 4 (v := .int .i64 f4) rfl
  have xl := HL0.out.lt
  repeat (first | go_values | go_skip | go_guarded | go_step | go_upon)
  go_at_call 67
  with_reducible refine HF.out.mono ?_
  rintro e w1 ⟨rfl, k1⟩
  have HK1 : Hid (Kept w w1) := HK0.out.trans k1
  have HO1 : Hid (ValO w1 lo bb (.slice (some ⟨g, 0, none⟩) l.length cap) l) := HO0.out.kept k1
  have HE1 : Hid (ErrG w1) := HE0.out.kept k1
  have HL1 : Hid (Loc w1 bb [.int .i64 f0, .int .i64 2, .string f2, .string f3, .int .i64 f4]) := HL0.out.kept k1
  have HS1 : Hid (bb < w1.heap.size) := HL1.out.lt
  clear k1 HF HL0 HO0 HE0 HK0
  clear x0 x1 x2 x3 x4 xl
  have x0 := HL1.out.cell 0 (v := .int .i64 f0) rfl
  have x1 := HL1.out.cell 1 (v := .int .i64 2) rfl
  have x2 := HL1.out.cell 2 (v := .string f2) rfl
  have x3 := HL1.out.cell 3 (v := .string f3) rfl
  have x4 := HL1.out.cell 4 (v := .int .i64 f4) rfl
  have xl := HL1.out.lt
  obtain ⟨e0, e1, e2, ez⟩ := HO1.out.cells HD.out
  dsimp only at e0 e1 e2
  have ey := ez (p * 3 + 1)
  have hgl : g < bb := HO1.out.2 g rfl
  have hne : ¬ g = bb := by omega
  clear e0 e2 ez x0 x2 x3
  dsimp only
  repeat (go_not_at_region 9; first | go_values | go_skip | go_guarded | go_step | go_upon)
  go_region_law (go_simp; go_at_call 69; refine (AT.out _ (GE.kept HE1.out.2.2.2 ((But.refl _ _ _).drew))).mono ?_; rintro e w9 ⟨⟨er, her, rfl⟩, k9⟩; have k9 : Kept w1 w9 := (((But.refl _ _ _).drew)).trans k9; have HK9 : Hid (Kept w w9) := HK1.out.trans k9; have HO9 : Hid (ValO w9 lo bb (.slice (some ⟨g, 0, none⟩) l.length cap) l) := HO1.out.kept k9; have HER : Hid (EIs er) := her; clear her; obtain ⟨j0, j1, j2, jz⟩ := HO9.out.cells HD.out; dsimp only at j0 j1 j2; have jy := jz (p * 3 + 1); clear j0 j2 jz k9)
  all_goals
    repeat (first | go_values | go_skip | go_guarded | go_step | go_upon)
    go_ret2
    exact ⟨⟨_, _, HER.out, rfl⟩, by rw [HB.out]; exact (But.of HK9.out).setCell (by have := (own_lt HO9.out.1 (g := g) rfl).1; exact this) hgl _⟩

end Go.Proofs.YtklgjhemcofhhaaDoor
