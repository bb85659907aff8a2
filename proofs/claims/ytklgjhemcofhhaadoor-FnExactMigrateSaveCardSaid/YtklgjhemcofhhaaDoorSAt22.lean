/-
  The place of a name, in the specification.
-/
import Derived.Test.YtklgjhemcofhhaaDoorMigP22
namespace Go.Proofs.YtklgjhemcofhhaaDoor
open Go.ChangeShapes Go.WideShapes Go.ChangeAt Go.RowKit

set_option maxRecDepth 100000
set_option linter.unusedVariables false
set_option linter.unusedSimpArgs false

set_option maxHeartbeats 4000000 in
theorem sat (l : List ValD) (s : ByteArray) (v : Value) (w : World) (hv : ValAt w v l) (hn : l.length ≤ 1048576) :
    Calls Tryd.prog 33 #[v, .string s] w fun e w' => e = .returned (.int .i64 (atI l s)) ∧ Kept w w' := by
  obtain ⟨ao, cap, hsl⟩ := row_nil hv
  subst hsl
  have HIT : Hid (∀ k d, (∀ (j : Nat) (q : ValD), j < k → l[j]? = some q → (q.1.toList == s.toList) = false) → l[k]? = some d → (d.1.toList == s.toList) = true → atI l s = k) := fun k d => at_hit
  have NON : Hid ((∀ (j : Nat) (q : ValD), l[j]? = some q → (q.1.toList == s.toList) = false) → atI l s = -1) := at_none
  generalize atI l s = R at *
  go_enter Tryd.func33, Tryd.ntmps33
  repeat (first | go_values | go_skip | go_guarded | go_step | go_upon)
  go_loopw [9] (fun i wr => ∃ (k : Nat), k ≤ l.length ∧ i = .int .i64 k ∧ Hid (∀ (j : Nat) (q : ValD), j < k → l[j]? = some q → (q.1.toList == s.toList) = false) ∧ Kept w wr) (fun i _ => l.length - (intOf i).toNat)
  case atStart => exact ⟨0, by omega, rfl, fun j q hj => by omega, But.refl _ _ _⟩
  case round =>
    obtain ⟨k, hk, rfl, HB, hkp⟩ := hrel
    by_cases hlt : k < l.length
    · obtain ⟨d, hd⟩ : ∃ p, l[k]? = some p := ⟨_, List.getElem?_eq_getElem hlt⟩
      obtain ⟨b, o, cap', e, c0, c1, c2⟩ := val_get (hv.kept hkp) hd
      cases e
      have HP : Hid (l[k]? = some d) := hd
      have HK : Hid (Kept w wr) := hkp
      obtain ⟨d0, d1, d2⟩ := d
      dsimp only at c0 c1 c2
      have hgw : b < wr.heap.size := World.block_lt_of_cell? _ _ c0
      clear hd hkp hv
      cases q : (d0.toList == s.toList) with
      | true =>
        have hR := HIT.out k _ HB.out HP.out q
        subst hR
        repeat (first | go_values | go_skip | go_guarded | go_step | go_upon)
        go_ret
        exact ⟨rfl, HK.out.alloc _⟩
      | false =>
        have HQ : Hid ((d0.toList == s.toList) = false) := q
        repeat (first | go_values | go_skip | go_guarded | go_step | go_upon)
        refine ⟨⟨k + 1, hlt, by go_num, fun j r hj hr => ?_, HK.out.alloc _⟩, by simp [intOf]; omega⟩
        by_cases e : j = k
        · subst e
          rw [HP.out] at hr
          cases hr
          exact HQ.out
        · exact HB.out j r (by omega) hr
    · have hke : k = l.length := by omega
      subst hke
      have hR := NON.out (fun j q hq => HB.out j q (List.getElem?_eq_some_iff.1 hq).1 hq)
      subst hR
      repeat (first | go_values | go_skip | go_guarded | go_step | go_upon)
      go_ret
      exact ⟨rfl, hkp⟩

end Go.Proofs.YtklgjhemcofhhaaDoor
