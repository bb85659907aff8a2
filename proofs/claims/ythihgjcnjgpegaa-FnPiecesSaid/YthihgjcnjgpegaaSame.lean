/-
  Lists that are the same are told to be the same.
-/
import Derived.Test.YthihgjcnjgpegaaRunA
import Derived.Test.YthihgjcnjgpegaaCopy
import Derived.Test.YthihgjcnjgpegaaQuiet
import Derived.Test.YthihgjcnjgpegaaText
import Derived.BigQuiet
namespace Go.Proofs.Ythihgjcnjgpegaa
open Go.ChangeShapes Go.WideShapes Go.ChangeAt Go.RowKit

set_option maxRecDepth 100000 in
set_option maxHeartbeats 1000000 in
theorem sameFired (l : List FiredD) (v v' : Value) (w : World) (hv : FiredAt w v l) (hv' : FiredAt w v' l) (hn : l.length ≤ 1048576) :
    Calls Try.prog 13 #[v, v'] w fun e w' => e = .returned (.bool true) ∧ Kept w w' := by
  obtain ⟨ao, cap, hfm⟩ := row_nil hv
  subst hfm
  obtain ⟨ao', cap', hfm⟩ := row_nil hv'
  subst hfm
  go_enter Try.func13, Try.ntmps13
  repeat (first | go_values | go_skip | go_guarded | go_step | go_upon)
  go_loopw [13] (fun x wr => ∃ k : Nat, k ≤ l.length ∧ x = .int .i64 k ∧ Kept w wr) (fun x _ => l.length - (intOf x).toNat)
  case atStart => exact ⟨0, by omega, rfl, But.refl _ _ _⟩
  case round =>
    obtain ⟨k, hk, rfl, K1⟩ := hrel
    rename World => wo
    by_cases hlt : k < l.length
    · have hp : l[k]? = some l[k] := List.getElem?_eq_getElem hlt
      generalize l[k] = p at hp
      obtain ⟨b, o, c, e, h0, h1⟩ := fired_get (RowAt.kept hv K1) hp
      cases e
      obtain ⟨b', o', c', e', d0, d1⟩ := fired_get (RowAt.kept hv' K1) hp
      cases e'
      have H : Hid _ := hp
      clear hp
      repeat (first | go_values | go_skip | go_guarded | go_step | go_upon)
      refine wp_region_quiet_lit (by kernel_rfl) (by kernel_rfl) ?_
      repeat (go_big_quiet_step (fail))
      refine wpQuiet_nil ?_
      rintro _ ⟨nq, rfl⟩
      repeat (first | go_values | go_skip | go_guarded | go_step | go_upon)
      exact ⟨⟨k + 1, by omega, by go_num, K1.drewN _⟩, by simp [intOf]; omega⟩
    · repeat (first | go_values | go_skip | go_guarded | go_step | go_upon)
      go_ret
      exact ⟨rfl, K1⟩
set_option maxRecDepth 100000 in
set_option maxHeartbeats 1000000 in
theorem sameTimers (l : List TimerD) (v v' : Value) (w : World) (hv : TimerAt w v l) (hv' : TimerAt w v' l) (hn : l.length ≤ 1048576) :
    Calls Try.prog 14 #[v, v'] w fun e w' => e = .returned (.bool true) ∧ Kept w w' := by
  obtain ⟨ao, cap, hfm⟩ := row_nil hv
  subst hfm
  obtain ⟨ao', cap', hfm⟩ := row_nil hv'
  subst hfm
  go_enter Try.func14, Try.ntmps14
  repeat (first | go_values | go_skip | go_guarded | go_step | go_upon)
  go_loopw [13] (fun x wr => ∃ k : Nat, k ≤ l.length ∧ x = .int .i64 k ∧ Kept w wr) (fun x _ => l.length - (intOf x).toNat)
  case atStart => exact ⟨0, by omega, rfl, But.refl _ _ _⟩
  case round =>
    obtain ⟨k, hk, rfl, K1⟩ := hrel
    rename World => wo
    by_cases hlt : k < l.length
    · have hp : l[k]? = some l[k] := List.getElem?_eq_getElem hlt
      generalize l[k] = p at hp
      obtain ⟨b, o, c, e, h0, h1, h2, h3⟩ := timer_get (RowAt.kept hv K1) hp
      cases e
      obtain ⟨b', o', c', e', d0, d1, d2, d3⟩ := timer_get (RowAt.kept hv' K1) hp
      cases e'
      have H : Hid _ := hp
      clear hp
      repeat (first | go_values | go_skip | go_guarded | go_step | go_upon)
      refine wp_region_quiet_lit (by kernel_rfl) (by kernel_rfl) ?_
      repeat (go_big_quiet_step (fail))
      refine wpQuiet_nil ?_
      rintro _ ⟨nq, rfl⟩
      repeat (first | go_values | go_skip | go_guarded | go_step | go_upon)
      exact ⟨⟨k + 1, by omega, by go_num, K1.drewN _⟩, by simp [intOf]; omega⟩
    · repeat (first | go_values | go_skip | go_guarded | go_step | go_upon)
      go_ret
      exact ⟨rfl, K1⟩
end Go.Proofs.Ythihgjcnjgpegaa
