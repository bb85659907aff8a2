/-
  Where a thing stands, in the specification.
-/
import Derived.Test.YtaadlhcpgjibeaaDoorSeenP23
import Derived.Test.YtaadlhcpgjibeaaDoorQuiet
namespace Go.Proofs.YtaadlhcpgjibeaaDoor
open Go.ChangeShapes Go.WideShapes Go.ChangeAt Go.RowKit

set_option maxRecDepth 100000
set_option linter.unusedVariables false
set_option linter.unusedSimpArgs false

set_option maxHeartbeats 8000000 in
theorem sat (l : List ThingD) (id : Int) (v : Value) (w : World) (hv : ThingAt w v l) (hn : l.length ≤ 1048576) :
    Calls Tryd.prog 59 #[v, .int .i64 id] w fun e w' => e = .returned (.int .i64 (atI l id)) ∧ Kept w w' := by
  obtain ⟨ao, cap, hsl⟩ := row_nil hv
  subst hsl
  have HA : Hid (∀ (j : Nat) (p : ThingD), l[j]? = some p → p.1 = id → (∀ i, i < j → ∀ q, l[i]? = some q → q.1 ≠ id) → atI l id = (j : Int)) := fun j p h1 h2 h3 => atI_yes h1 h2 h3
  have HN : Hid ((∀ i, i < l.length → ∀ q, l[i]? = some q → q.1 ≠ id) → atI l id = -1) := fun h => atI_no h
  generalize atI l id = R at *
  go_enter Tryd.func59, Tryd.ntmps59
  repeat (first | go_values | go_skip | go_guarded | go_step | go_upon)
  go_loopw [9] (fun i wr => ∃ (k : Nat), k ≤ l.length ∧ i = .int .i64 k ∧ Hid (∀ i, i < k → ∀ q, l[i]? = some q → q.1 ≠ id) ∧ Kept w wr) (fun i _ => l.length - (intOf i).toNat)
  case atStart => exact ⟨0, by omega, rfl, (fun j hj => by omega : ∀ j, j < 0 → ∀ q, l[j]? = some q → q.1 ≠ id), But.refl _ _ _⟩
  case round =>
    obtain ⟨j, hk, rfl, HB, hkp⟩ := hrel
    by_cases hlt : j < l.length
    · obtain ⟨d, hd⟩ : ∃ p, l[j]? = some p := ⟨_, List.getElem?_eq_getElem hlt⟩
      obtain ⟨b, o, cap', ee, c0, c1, c2, c3⟩ := thing_get (hv.kept hkp) hd
      cases ee
      have HK0 : Hid (Kept w wr) := hkp
      have HP : Hid (l[j]? = some d) := hd
      obtain ⟨y0, y1, y2, y3⟩ := d
      dsimp only at c0 c1 c2 c3
      clear hkp hd hv
      by_cases he : y0 = id
      · have hR := HA.out j _ HP.out he HB.out
        have de : (y0 == id) = true := by simpa using he
        subst hR
        clear he
        repeat (first | go_values | go_skip | go_guarded | go_step | go_upon)
        go_ret
        exact ⟨rfl, HK0.out.alloc _⟩
      · have de : (y0 == id) = false := by simpa using he
        have I : Hid (∀ i, i < j + 1 → ∀ q, l[i]? = some q → q.1 ≠ id) := fun i hi q hq => by
          rcases Nat.lt_or_ge i j with h1 | h1
          · exact HB.out i h1 q hq
          · obtain rfl : i = j := by omega
            rw [HP.out] at hq
            cases hq
            exact he
        clear he
        repeat (first | go_values | go_skip | go_guarded | go_step | go_upon)
        exact ⟨⟨j + 1, hlt, by go_num, I, HK0.out.alloc _⟩, by simp [intOf]; omega⟩
    · have hke : j = l.length := by omega
      subst hke
      have HKP : Hid (Kept w wr) := hkp
      have hR := HN.out HB.out
      subst hR
      clear hkp
      repeat (first | go_values | go_skip | go_guarded | go_step | go_upon)
      go_ret
      exact ⟨rfl, HKP.out⟩

end Go.Proofs.YtaadlhcpgjibeaaDoor
