/-
  Which changes are good: the program.
-/
import Derived.Test.YtklgjhemcofhhaaDoorLeafC22
import Derived.Test.YtklgjhemcofhhaaDoorChg
import Derived.Test.YtklgjhemcofhhaaDoorQuiet
namespace Go.Proofs.YtklgjhemcofhhaaDoor
open Go.ChangeShapes Go.WideShapes Go.ChangeAt Go.RowKit

set_option maxRecDepth 100000
set_option linter.unusedVariables false
set_option linter.unusedSimpArgs false

set_option maxHeartbeats 8000000 in
theorem igoodc (l : List ChgD) (v : Value) (w : World) (hv : ChgAt w v l) (hn : l.length ≤ 1048576) (hs0 : ∀ d ∈ l, d.2.2.1.size ≤ 1048576 ∧ d.2.2.2.1.size ≤ 1048576) :
    Calls Tryd.prog 50 #[v] w fun e w' => e = .returned (.bool (decide (ChgsP l))) ∧ Kept w w' := by
  obtain ⟨ao, cap, hsl⟩ := row_nil hv
  subst hsl
  have HS : Hid (∀ d ∈ l, d.2.2.1.size ≤ 1048576 ∧ d.2.2.2.1.size ≤ 1048576) := hs0
  clear hs0
  have NO : Hid (¬ ChgsP l → decide (ChgsP l) = false) := decide_eq_false
  have YES : Hid (ChgsP l → decide (ChgsP l) = true) := decide_eq_true
  generalize decide (ChgsP l) = R at *
  by_cases h2 : 30 < l.length
  · have hd2 : decide ((30 : Int) < (l.length : Int)) = true := decide_eq_true (by omega)
    rw [NO.out fun h => by have := h.1; omega]
    go_enter Tryd.func50, Tryd.ntmps50
    repeat (first | go_values | go_skip | go_guarded | go_step | go_upon)
    go_ret
    exact ⟨rfl, But.refl _ _ _⟩
  have hd2 : decide ((30 : Int) < (l.length : Int)) = false := decide_eq_false (by omega)
  go_enter Tryd.func50, Tryd.ntmps50
  repeat (first | go_values | go_skip | go_guarded | go_step | go_upon)
  clear hd2
  go_loopw [3, 11] (fun s i wr => ∃ (k : Nat) (m : Int), k ≤ l.length ∧ i = .int .i64 k ∧ s = .int .i64 m ∧ Hid (∀ j, j < k → rowC l j = true) ∧ Hid (k = 0 → m = 1) ∧ Hid (∀ q, 0 < k → l[k - 1]? = some q → m = q.1 ∧ 1 ≤ q.1) ∧ Kept w wr) (fun s i _ => l.length - (intOf i).toNat)
  case atStart => exact ⟨0, 1, by omega, rfl, rfl, fun j hj => by omega, fun _ => rfl, fun q h => by omega, But.refl _ _ _⟩
  case round =>
    obtain ⟨k, m, hk, rfl, rfl, HB, hm0, hmq, hkp⟩ := hrel
    by_cases hlt : k < l.length
    · obtain ⟨d, hd⟩ : ∃ p, l[k]? = some p := ⟨_, List.getElem?_eq_getElem hlt⟩
      obtain ⟨b, o, cap', e, c0, c1, c2, c3, c4⟩ := chg_get (hv.kept hkp) hd
      cases e
      have hsz := HS.out d (List.mem_of_getElem? hd)
      have HP : Hid (l[k]? = some d) := hd
      have HV : Hid (ChgAt wr (.slice (some ⟨b, o, none⟩) l.length cap) l) := hv.kept hkp
      have HRW : Hid (rowC l k = (decide (1 ≤ d.1 ∧ d.1 ≤ 2) && (fromB l k d.1 && changeB d.2.1 d.2.2.1 d.2.2.2.1 d.2.2.2.2))) := rowC_eq hd
      have NJ : Hid (rowC l k = false → R = false) := fun h => NO.out (fun h' => by have := h'.2 k hlt; rw [h] at this; cases this)
      have HL : Hid ((decide (1 ≤ d.1 ∧ d.1 ≤ 2) && fromB l k d.1) = decide (m ≤ d.1 ∧ d.1 < 3)) := from_last hd hm0.out hmq.out
      obtain ⟨f0, f1, f2, f3, f4⟩ := d
      dsimp only at c0 c1 c2 c3 c4 hsz HRW HL
      have HR2 : Hid (rowC l k = (decide (m ≤ f0 ∧ f0 < 3) && changeB f1 f2 f3 f4)) := by show _ = _; rw [HRW.out, ← Bool.and_assoc, HL.out]
      have HK : Hid (Kept w wr) := hkp
      have AC : Hid (∀ W, Calls Tryd.prog 66 #[.agg #[.int .i64 f0, .int .i64 f1, .string f2, .string f3, .int .i64 f4]] W fun e w' => e = .returned (.bool (changeB f1 f2 f3 f4)) ∧ Kept W w') := fun W => ichange f0 f1 f2 f3 f4 W hsz
      have hgw : b < wr.heap.size := World.block_lt_of_cell? _ _ c0
      clear hd hkp hv hsz HRW HL hm0 hmq
      have ARM : True := trivial
      rcases (Decidable.em (m ≤ f0)).symm with h1 | h1
      · have d1 : decide (f0 < m) = true := decide_eq_true (by omega)
        have hR := NJ.out (by rw [HR2.out, decide_eq_false (fun h => h1 h.1)]; rfl)
        subst hR
        clear h1
        repeat (first | go_values | go_skip | go_guarded | go_step | go_upon)
        go_ret
        exact ⟨rfl, HK.out.alloc _⟩
      have d1 : decide (f0 < m) = false := decide_eq_false (by omega)
      rcases (Decidable.em (f0 < 3)).symm with h3 | h3
      · have d3 : decide (3 ≤ f0) = true := decide_eq_true (by omega)
        have hR := NJ.out (by rw [HR2.out, decide_eq_false (fun h => h3 h.2)]; rfl)
        subst hR
        clear h1 h3
        repeat (first | go_values | go_skip | go_guarded | go_step | go_upon)
        go_ret
        exact ⟨rfl, HK.out.alloc _⟩
      have d3 : decide (3 ≤ f0) = false := decide_eq_false (by omega)
      have H1 : Hid (rowC l k = changeB f1 f2 f3 f4) := by show _ = _; rw [HR2.out, decide_eq_true ⟨h1, h3⟩]; rfl
      clear h1 h3 HR2
      generalize changeB f1 f2 f3 f4 = C at *
      have H01 : Hid (rowC l k = true → 1 ≤ f0) := fun h => by
        have := rowC_eq HP.out
        rw [h] at this
        simp at this
        exact this.1.1
      cases C with
      | false =>
        have hR := NJ.out H1.out
        subst hR
        repeat (first | (go_at_call 66; with_reducible refine (AC.out _).mono ?_; rintro e w9 ⟨rfl, k9⟩; dsimp only) | go_values | go_skip | go_guarded | go_step | go_upon)
        go_ret
        exact ⟨rfl, (HK.out.alloc _).trans k9⟩
      | true =>
        have LX := Loc.new wr [.int .i64 f0, .int .i64 f1, .string f2, .string f3, .int .i64 f4] 70
        have HLX : Hid (Loc (wr.alloc (.cells #[.int .i64 f0, .int .i64 f1, .string f2, .string f3, .int .i64 f4] 70)) wr.heap.size [.int .i64 f0, .int .i64 f1, .string f2, .string f3, .int .i64 f4]) := LX
        clear LX
        repeat (first | go_values | go_skip | go_guarded | go_step | go_upon)
        go_at_call 66
        with_reducible refine (AC.out _).mono ?_
        rintro e w9 ⟨rfl, k9⟩
        have HL9 := HLX.out.kept k9
        have x0 := HL9.cell 0 rfl
        have xl := HL9.lt
        have HK9 : Hid (Kept w w9) := (HK.out.alloc _).trans k9
        clear c0 c1 c2 c3 c4 hgw HL9 k9
        dsimp only
        repeat (first | go_values | go_skip | go_guarded | go_step | go_upon)
        refine ⟨⟨k + 1, f0, hlt, by go_num, rfl, all_more HB.out H1.out, fun h => absurd h (by omega), fun q _ hq => ?_, HK9.out⟩, by simp [intOf]; omega⟩
        rw [Nat.add_sub_cancel, HP.out] at hq
        cases hq
        exact ⟨rfl, H01.out H1.out⟩
    · have hke : k = l.length := by omega
      subst hke
      have hR := YES.out ⟨by omega, HB.out⟩
      subst hR
      repeat (first | go_values | go_skip | go_guarded | go_step | go_upon)
      go_ret
      exact ⟨rfl, hkp⟩

end Go.Proofs.YtklgjhemcofhhaaDoor
