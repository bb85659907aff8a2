/-
  The program's bodies as bodies again.
-/
import Derived.Test.YthpjjpgahmkpdaaRows10
namespace Go.Proofs.Ythpjjpgahmkpdaa
open Go.ChangeShapes Go.WideShapes Go.ChangeAt Go.RowKit

set_option maxRecDepth 100000
set_option linter.unusedVariables false
set_option linter.unusedSimpArgs false

set_option maxHeartbeats 8000000 in
theorem bodiesOf (ps : List BodyD) (v : Value) (w : World) (hv : SolidAt w v ps) (hn : ps.length ≤ 20) :
    Calls Try.prog 58 #[v] w fun e w' => ∃ v', e = .returned v' ∧ BodyO w' w.heap.size w'.heap.size v' ps ∧ Kept w w' := by
  obtain ⟨ao, cap, hsl⟩ := row_nil hv
  subst hsl
  obtain ⟨i0, hi0, hz0, hz1, hz2⟩ := info_parts infoBody
  go_enter Try.func58, Try.ntmps58
  repeat (first | go_values | go_skip | go_guarded | go_step | go_upon)
  go_loopw [3, 8] (fun e i wr => ∃ (j : Nat) (ao' : Option Addr) (c' : Nat), j ≤ ps.length ∧ i = .int .i64 j ∧ e = .slice ao' j c' ∧ wr.ownsRow w.heap.size 33 4 (.slice ao' j c') j ((ps.take j).flatMap bodyC) ∧ Kept w wr) (fun e i _ => ps.length - (intOf i).toNat)
  case atStart => exact ⟨0, none, 0, by omega, rfl, rfl, World.ownsRow_nil _ _ _ _, But.refl _ _ _⟩
  case round =>
    obtain ⟨j, ao', c', hk, rfl, rfl, hown, hkp⟩ := hrel
    have HO : Hid (wr.ownsRow w.heap.size 33 4 (.slice ao' j c') j ((ps.take j).flatMap bodyC)) := hown
    have HK : Hid (Kept w wr) := hkp
    have hwz := hkp.size
    clear hown
    by_cases hlt : j < ps.length
    · obtain ⟨b, hp⟩ : ∃ b, ps[j]? = some b := ⟨_, List.getElem?_eq_getElem hlt⟩
      obtain ⟨bb, o, cap', e, c0, c1, c2, c3⟩ := solid_get (hv.kept hkp) hp
      cases e
      have HT : Hid (ps.take (j + 1) = ps.take j ++ [b]) := take_snoc hp
      clear hkp hp
      obtain ⟨x, p, m, r⟩ := b
      dsimp only at c0 c1 c2 c3
      repeat (first
        | (go_at_call 76; refine (ibody _ _ _ _ _).mono ?_; rintro e w1 ⟨rfl, k1⟩
           have HK1 : Hid (Kept w w1) := (show Kept w w1 from (by refine But.trans ?_ k1; repeat (first | with_reducible exact HK.out | with_reducible apply But.alloc | with_reducible apply But.drew | (with_reducible refine But.setNew ?_ (by simp; try omega) _))))
           have HO1 : Hid (w1.ownsRow w.heap.size 33 4 (.slice ao' j c') j ((ps.take j).flatMap bodyC)) := (own_kept HO.out (by refine But.trans ?_ k1; repeat (first | with_reducible exact (But.refl _ _ _) | with_reducible apply But.drew | with_reducible apply But.alloc)))
           have hw1 := HK1.out.size
           clear k1
           dsimp only)
        | (at_builtin
           refine wpList_append_own _ rfl _ _ 23 rfl w.heap.size 33 i0 (.agg #[.int .i64 0, .int .i64 0, .int .i64 0, .int .i64 0]) 4 32 Try.underlying23 hi0 hz0 hz1 hz2 rfl (by decide) _ _ _ rfl (own_kept HO1.out ((But.refl _ _ w1).alloc _)) ⟨w1.heap.size, 0, none⟩ 1 1 (bodyC (x, p, m, r)) rfl rfl (news_body (Loc.new w1 (bodyC (x, p, m, r)) 33)) (one_body _) (by unfold maxLen; omega) (by omega) (by simp; omega) ?_
           intro v' w7 hown' hgrow _
           obtain ⟨ao5, cap5, hf5, _⟩ := own_form hown'
           subst hf5
           have HK7 : Hid (Kept w w7) := (HK1.out.alloc _).grown hgrow (by intro x hx; have := own_lt HO1.out hx; omega)
           have HW : Hid (w7.ownsRow w.heap.size 33 4 (.slice ao5 (j + 1) cap5) (j + 1) ((ps.take j).flatMap bodyC ++ bodyC (x, p, m, r))) := hown'
           clear hgrow hown')
        | go_values | go_skip | go_guarded | go_step | go_upon)
      refine ⟨⟨j + 1, ao5, cap5, hlt, by go_num, rfl, ?_, HK7.out⟩, by simp [intOf]; omega⟩
      rw [HT.out, List.flatMap_append]
      simpa using HW.out
    · have hke : j = ps.length := by omega
      subst hke
      rw [List.take_length] at HO
      repeat (first | go_values | go_skip | go_guarded | go_step | go_upon)
      refine bodyPost_ret (v := .slice ao' ps.length c') (by simp [results, Try.results58, go_sem]) rfl ?_
      exact ⟨_, rfl, RowO.top HO.out, HK.out⟩

end Go.Proofs.Ythpjjpgahmkpdaa
