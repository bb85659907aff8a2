/-
  Values without one, in the specification.
-/
import Derived.Test.YtklgjhemcofhhaaDoorLists22
namespace Go.Proofs.YtklgjhemcofhhaaDoor
open Go.ChangeShapes Go.WideShapes Go.ChangeAt Go.RowKit

set_option maxRecDepth 100000
set_option linter.unusedVariables false
set_option linter.unusedSimpArgs false

set_option maxHeartbeats 4000000 in
theorem sdrop (l : List ValD) (k : Nat) (v : Value) (lo hi : Nat) (w : World) (hv0 : ValO w lo hi v l) (hn : l.length ≤ 1000) (hk : k < l.length) :
    Calls Tryd.prog 35 #[v, .int .i64 (k : Int)] w fun e w' => ∃ v', e = .returned v' ∧ ValO w' w.heap.size w'.heap.size v' (dropL l k) ∧ Kept w w' := by
  have hv := hv0.at
  obtain ⟨b, o, cap, rfl⟩ : ∃ b o cap, v = .slice (some ⟨b, o, none⟩) l.length cap := by
    obtain ⟨d, hd⟩ : ∃ d, l[k]? = some d := ⟨_, List.getElem?_eq_getElem hk⟩
    obtain ⟨b, o, cap, e, _⟩ := val_get hv hd
    exact ⟨b, o, cap, e⟩
  obtain ⟨hcl, hcm⟩ := cap_val hv0
  have z0 : (0 : Int) ≤ (k : Int) := by omega
  have z1 : (k : Int) ≤ (cap : Int) := by omega
  have z2 : (k : Int) ≤ (l.length : Int) := by omega
  have HV : Hid (ValAt w (.slice (some ⟨b, o, none⟩) l.length cap) l) := hv
  have HN : Hid (l.length ≤ 1000) := hn
  have hlt : (l.take k).length = k := by rw [List.length_take]; omega
  have hld : (l.drop (k + 1)).length = l.length - (k + 1) := List.length_drop
  have HT : Hid ((l.take k).length = k) := hlt
  have HDr : Hid ((l.drop (k + 1)).length = l.length - (k + 1)) := hld
  clear hv hv0 hn hlt hld
  go_enter Tryd.func35, Tryd.ntmps35
  repeat (first | (at_builtin; refine forgetL (fun w' => w' = _) rfl ?_) | go_values | go_skip | go_guarded | go_step | go_upon)
  intro W7 hW7
  rw [hW7]
  clear hW7 W7
  refine app_val rfl _ _ rfl (lo := w.heap.size) (hi := w.heap.size) rfl (nil_val _ _ _) (qs := l.take k) rfl (val_take HV.out (by omega)) HT.out.symm (by have := HN.out; have := HT.out; simp; omega) (Nat.le_refl _) ?_
  intro v1 w1 o1 b1
  obtain ⟨a1, p1, hf⟩ := o1.form
  subst hf
  have k1 : Kept w w1 := ⟨b1.os, b1.out, b1.size, fun i hi2 _ => b1.block i hi2 (by omega)⟩
  rw [List.nil_append] at o1 ⊢
  rw [HT.out]
  have O1 : Hid (ValO w1 w.heap.size w1.heap.size (.slice a1 k p1) (l.take k)) := by have := o1; rw [HT.out] at this; exact this
  have K1 : Hid (Kept w w1) := k1
  have s1 := k1.size
  clear o1 b1 k1
  have z3 : (0 : Int) ≤ (k : Int) + 1 := by omega
  have z4 : (k : Int) + 1 ≤ (l.length : Int) := by omega
  have z5 : (l.length : Int) ≤ (cap : Int) := by omega
  have e1 : IntKind.i64.wrap ((k : Int) + 1) = (k : Int) + 1 := IntWalk.i64_in _ (by omega)
  repeat (first | (at_builtin; refine forgetL (fun w' => w' = _) rfl ?_) | go_values | go_skip | go_guarded | go_step | go_upon)
  intro W7 hW7
  rw [hW7]
  clear hW7 W7
  have HV1 : Hid (ValAt w1 (.slice (some ⟨b, o, none⟩) l.length cap) l) := HV.out.kept K1.out
  refine app_val rfl _ _ rfl (lo := w.heap.size) (hi := w1.heap.size) rfl O1.out (qs := l.drop (k + 1)) rfl (val_drop HV1.out (by omega) _ (fun h => by rw [if_neg (by omega)])) HDr.out.symm (by have := HN.out; have := HT.out; have := HDr.out; omega) s1 ?_
  intro v2 w2 o2 b2
  have K2 : Hid (Kept w w2) := ⟨b2.os.trans K1.out.os, b2.out.trans K1.out.out, Nat.le_trans s1 b2.size, fun i hi2 _ => (b2.block i (Nat.lt_of_lt_of_le hi2 s1) (by omega)).trans (K1.out.block i hi2 (by omega))⟩
  have O2 : Hid (ValO w2 w.heap.size w2.heap.size v2 (l.take k ++ l.drop (k + 1))) := o2
  clear o2 b2
  repeat (first | go_values | go_skip | go_guarded | go_step | go_upon)
  go_ret
  exact ⟨_, rfl, O2.out, K2.out⟩

end Go.Proofs.YtklgjhemcofhhaaDoor
