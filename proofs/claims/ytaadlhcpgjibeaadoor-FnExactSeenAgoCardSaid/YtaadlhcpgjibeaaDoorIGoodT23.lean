/-
  Things as they must be, in the program.
-/
import Derived.Test.YtaadlhcpgjibeaaDoorTab23
namespace Go.Proofs.YtaadlhcpgjibeaaDoor
open Go.ChangeShapes Go.WideShapes Go.ChangeAt Go.RowKit

set_option maxRecDepth 100000
set_option linter.unusedVariables false
set_option linter.unusedSimpArgs false

set_option maxHeartbeats 16000000 in
theorem igoodT (l : List ThingD) (v : Value) (w : World) (hT : Tab w) (hv : ThingAt w v l) (hn : l.length ≤ 9000000000000000000) :
    Calls Tryd.prog 21 #[v] w fun e w' => e = .returned (.bool (goodB l)) ∧ Kept w w' := by
  obtain ⟨ao, cap, hsl⟩ := row_nil hv
  subst hsl
  have NO : Hid (¬ ThingsP l → goodB l = false) := fun h => by
    cases hg : goodB l with
    | false => rfl
    | true => exact absurd ((goodB_iff l).1 hg) h
  have YES : Hid (ThingsP l → goodB l = true) := fun h => (goodB_iff l).2 h
  generalize goodB l = R at *
  by_cases h1 : 40 < l.length
  · rw [NO.out (fun h => by have := h.1; omega)]
    have d1 : decide ((l.length : Int) > 40) = true := decide_eq_true (by omega)
    go_enter Tryd.func21, Tryd.ntmps21
    repeat (first | go_values | go_skip | go_guarded | go_step | go_upon)
    go_ret
    exact ⟨rfl, But.refl _ _ _⟩
  have d1 : decide ((l.length : Int) > 40) = false := decide_eq_false (by omega)
  go_enter Tryd.func21, Tryd.ntmps21
  repeat (first | go_values | go_skip | go_guarded | go_step | go_upon)
  clear d1
  go_loopw [3, 11] (fun la i wr => ∃ (k : Nat) (z : Int), k ≤ l.length ∧ la = .int .i64 z ∧ i = .int .i64 k ∧ Hid (∀ j, j < k → ThOk l j) ∧ Hid ((k = 0 ∧ z = -1) ∨ (0 < k ∧ ∀ p, l[k - 1]? = some p → p.1 = z)) ∧ Kept w wr) (fun _ i _ => l.length - (intOf i).toNat)
  case atStart => exact ⟨0, -1, by omega, rfl, rfl, (fun j hj => by omega : ∀ j, j < 0 → ThOk l j), .inl ⟨rfl, rfl⟩, But.refl _ _ _⟩
  case round =>
    obtain ⟨j, z, hk, rfl, rfl, HB, HZ, hkp⟩ := hrel
    by_cases hlt : j < l.length
    · obtain ⟨d, hd⟩ : ∃ p, l[j]? = some p := ⟨_, List.getElem?_eq_getElem hlt⟩
      obtain ⟨b, o, cap', ee, c0, c1, c2, c3⟩ := thing_get (hv.kept hkp) hd
      cases ee
      have NJ : Hid (¬ ThOk l j → R = false) := fun h => NO.out (fun h' => h (h'.2 j hlt))
      have HP : Hid (l[j]? = some d) := hd
      have HK0 : Hid (Kept w wr) := hkp
      obtain ⟨y0, y1, y2, y3⟩ := d
      dsimp only at c0 c1 c2 c3
      have HV : Hid _ := hv
      clear hkp hd hv
      rcases (Decidable.em (z < y0)).symm with hz | hz
      · have dz : decide (y0 ≤ z) = true := decide_eq_true (by omega)
        have hR := NJ.out (fun h => by
          obtain ⟨h1, h2⟩ := h _ HP.out
          rcases HZ.out with ⟨rfl, rfl⟩ | ⟨h3, h4⟩
          · have := h1.1; dsimp only at this; omega
          · obtain ⟨q, hq⟩ : ∃ q, l[j - 1]? = some q := ⟨_, List.getElem?_eq_getElem (by omega)⟩
            have := h2 q h3 hq
            rw [h4 q hq] at this
            exact hz this)
        subst hR
        clear hz
        repeat (first | go_values | go_skip | go_guarded | go_step | go_upon)
        go_ret
        exact ⟨rfl, HK0.out.alloc _⟩
      · have dz : decide (y0 ≤ z) = false := decide_eq_false (by omega)
        have HZ2 : Hid (z < y0) := hz
        clear hz
        rcases (Decidable.em (GoodTP (y0, y1, y2, y3))).symm with hg | hg
        · have dg : decide (GoodTP (y0, y1, y2, y3)) = false := decide_eq_false hg
          have hR := NJ.out (fun h => hg (h _ HP.out).1)
          subst hR
          clear hg
          repeat (first | (go_at_call 69; refine (ithing _ _ _ _ _ (hT.kept (HK0.out.alloc _))).mono ?_; rintro e w3 ⟨rfl, k3⟩; have LT := (Loc.new wr [.int .i64 y0, .int .i64 y1, .int .i64 y2, .int .i64 y3] 57).kept k3; have a0 := LT.cell 0 rfl; have al := LT.lt; have K3 : Hid (Kept w w3) := (HK0.out.alloc _).trans k3; clear k3 LT c0 c1 c2 c3; rw [dg]; dsimp only) | go_values | go_skip | go_guarded | go_step | go_upon)
          go_ret
          exact ⟨rfl, K3.out⟩
        · have dg : decide (GoodTP (y0, y1, y2, y3)) = true := decide_eq_true hg
          have I : Hid (∀ i, i < j + 1 → ThOk l i) := all_more HB.out (fun y hy => by
            rw [HP.out] at hy
            cases hy
            refine ⟨hg, fun q h0 hq => ?_⟩
            rcases HZ.out with ⟨h3, _⟩ | ⟨h3, h4⟩
            · omega
            · rw [h4 q hq]; exact HZ2.out)
          clear hg
          repeat (first | (go_at_call 69; refine (ithing _ _ _ _ _ (hT.kept (HK0.out.alloc _))).mono ?_; rintro e w3 ⟨rfl, k3⟩; have LT := (Loc.new wr [.int .i64 y0, .int .i64 y1, .int .i64 y2, .int .i64 y3] 57).kept k3; have a0 := LT.cell 0 rfl; have al := LT.lt; have K3 : Hid (Kept w w3) := (HK0.out.alloc _).trans k3; clear k3 LT c0 c1 c2 c3; rw [dg]; dsimp only) | go_values | go_skip | go_guarded | go_step | go_upon)
          exact ⟨⟨j + 1, y0, hlt, rfl, by go_num, I, .inr ⟨by omega, fun p hp => by rw [show j + 1 - 1 = j by omega, HP.out] at hp; cases hp; rfl⟩, K3.out⟩, by simp [intOf]; omega⟩
    · have hke : j = l.length := by omega
      subst hke
      have HKP : Hid (Kept w wr) := hkp
      have hR := YES.out ⟨by omega, HB.out⟩
      subst hR
      clear hkp
      repeat (first | go_values | go_skip | go_guarded | go_step | go_upon)
      go_ret
      exact ⟨rfl, HKP.out⟩

end Go.Proofs.YtaadlhcpgjibeaaDoor
