/-
  At every filter, memory and row of floats the program's RunFilter answers what the specification's RunFilter answers, bit by bit; it writes into no argument, and its answer owns its memory.
-/
import Derived.Test.YtghmnhohdbombaaRows
import Derived.Test.YtghmnhohdbombaaRunW16
import Derived.Test.YtghmnhohdbombaaQuiet
import Derived.ChangeMaps
namespace Go.Proofs.Ytghmnhohdbombaa.fnExactRunFilter
open Go.ChangeShapes Go.WideShapes Go.ChangeAt Go.RowKit
set_option linter.unusedVariables false

theorem own : ownKnob Try.prog.godebug = none := by kernel_rfl

set_option maxRecDepth 100000 in
set_option maxHeartbeats 1000000 in
theorem big (f0 f1 f2 f3 f4 s1 s2 : Nat) (l : List Nat) (v : Value) (w : World) (hv : FltAt w v l) (hl : l.length ≤ maxLen) (hb : 1048576 < l.length) :
    Calls Try.prog 5 #[.agg #[.float .f64 f0, .float .f64 f1, .float .f64 f2, .float .f64 f3, .float .f64 f4], .agg #[.float .f64 s1, .float .f64 s2], v] w fun e w' => e = .returned (.bool true) ∧ Kept w w' := by
  unfold maxLen at hl
  have hd0 : decide ((1048576 : Int) < (l.length : Int)) = true := by simp; omega
  obtain ⟨ao, cap, hfm⟩ := row_nil hv
  subst hfm
  go_enter Try.func5, Try.ntmps5
  repeat (first | go_values | go_skip | go_guarded | go_step | go_upon)
  go_ret
  exact ⟨rfl, by (repeat (first | with_reducible exact But.refl _ _ _ | with_reducible apply But.drewN | with_reducible apply But.drew | with_reducible apply But.alloc | (with_reducible refine But.setNew ?_ (by simp; try omega) _)))⟩
theorem run_le (p : FilterD) (m : MemoryD) (l : List Nat) : (runF p m l).1.length ≤ l.length := by
  unfold runF
  split
  · split
    · rename_i q hq
      exact Nat.le_of_eq (run_len _ _ _ _ hq)
    · simp
  · simp
theorem all (p : FilterD) (hp : FilterOk p) (m : MemoryD) (hm : MemoryOk m) (l : List Nat) (v : Value) {w : World} (hv : FltAt w v l) (hq : ∀ p ∈ l, p < 18446744073709551616) (hl : l.length ≤ maxLen) (w' : World) (_ : w' = w) :
    Calls Try.prog 5 #[.agg (filterC p).toArray, .agg (memoryC m).toArray, v] w fun e w' => e = .returned (.bool true) ∧ Kept w w' := by
  obtain ⟨h0, h1, h2, h3, h4⟩ := hp
  obtain ⟨g0, g1⟩ := hm
  by_cases hb : l.length ≤ 1048576
  · have hle := run_le p m l
    exact walk _ _ _ _ _ _ _ (runF p m l).2.1.1 (runF p m l).2.1.2 l (runF p m l).1 (runF p m l).2.2 v w hv hb (by omega)
      (fun u v h => srun _ _ _ _ _ _ _ h0 h1 h2 h3 h4 g0 g1 l v u h hq hb)
      (fun u v h => irun _ _ _ _ _ _ _ h0 h1 h2 h3 h4 g0 g1 l v u h hq hb)
  · exact big _ _ _ _ _ _ _ l v w hv hl (by omega)


set_option maxRecDepth 100000 in
theorem lifted (os : Os) (started : os.Started) (H : Type) (enc : TypeId × Value → H) :
    ReturnsInHanded {} Try.checked os 5 .any (Rows.fnExactRunFilterSpec.pre6 enc Try.prog Try.f5 Rows.fnExactRunFilterRow.domain false) (Rows.fnExactRunFilterSpec.post enc Try.prog Try.f5 false true false false) := by
  refine returnsInHanded_of_change (C := Try.checked) own started (by kernel_rfl) Try.func5
    (ChangeSpec.witness6 (enc := enc) (C := Try.checked) false ⟨#[], #[.agg #[.float .f64 0, .float .f64 0, .float .f64 0, .float .f64 0, .float .f64 0], .agg #[.float .f64 0, .float .f64 0], .slice none 0 0], []⟩ 8 (by kernel_rfl) (by kernel_rfl) (by kernel_rfl) (by kernel_rfl)) ?_
  intro W base args ds gs before hval0 hW hcnd _
  have hval : ∀ (j : Nat) t v, Try.f5.params[j]? = some t → args[j]? = some v → Value.okWide Try.prog W .any base t v := hval0
  have hW' := hW
  obtain ⟨p, q, hA0, hV, rfl, hfz, hnd⟩ := hW
  have hA : DataW.TrodAll enc Try.prog W 0 (fun _ => true) true Try.f5.params.toList args.toList ds p := hA0
  rw [Try.params5] at hA hval
  obtain ⟨v0, vs0, d0, ds0, p0, q0, hargs, rfl, rfl, h0, r0⟩ := trodAll_cons hA
  obtain ⟨v1, vs1, d1, ds1, p1, q1, rfl, rfl, rfl, h1, r1⟩ := trodAll_cons r0
  obtain ⟨v2, vs2, d2, ds2, p2, q2, rfl, rfl, rfl, h2, r2⟩ := trodAll_cons r1
  obtain ⟨rfl, rfl, rfl⟩ := trodAll_nil r2
  obtain rfl : args = #[v0, v1, v2] := by cases args; simp_all
  obtain ⟨rfl, rfl⟩ := trodVars_none hV
  obtain ⟨a0, e0, q0'⟩ := open_filterV (hval 0 34 v0 rfl rfl) h0
  subst e0
  obtain ⟨a1, e1, q1'⟩ := open_memoryV (hval 1 38 v1 rfl rfl) h1
  subst e1
  obtain ⟨l2, hv2, hq2, hl2⟩ := open_fltS (hval 2 28 v2 rfl rfl) h2
  clear hA0 hval0
  simp only [List.append_nil] at hW'
  refine (all a0 q0' a1 q1' l2 v2 hv2 hq2 hl2 W rfl).mono fun e W' ⟨he, hg⟩ => ?_
  subst he
  exact ⟨_, rfl, post_of_kept (pa := _) (pv := []) hW' (fun _ _ _ => (trodAll_cons_mk (shut_bool Try.underlying4 _) trodAll_mk0)) (fun sp hsp => (trodAll_cons_mk (kept_trod (by kernel_rfl) (of_decide_eq_true (by kernel_rfl)) h0 hg (fun x hx => hW'.lt x (by simp [hx])) (fun x hx => hsp x (by simp [hx]))) (trodAll_cons_mk (kept_trod (by kernel_rfl) (of_decide_eq_true (by kernel_rfl)) h1 hg (fun x hx => hW'.lt x (by simp [hx])) (fun x hx => hsp x (by simp [hx]))) (trodAll_cons_mk (kept_trod (by kernel_rfl) (of_decide_eq_true (by kernel_rfl)) h2 hg (fun x hx => hW'.lt x (by simp [hx])) (fun x hx => hsp x (by simp [hx]))) trodAll_mk0)))) (fun _ _ => rfl) hg⟩

theorem over : Rows.fnExactRunFilterRow.holds Try.pinned (OpenSpec.ofChange Rows.fnExactRunFilterSpec) :=
  OpenClaim.holds_of_wide 5 Try.f5 rfl rfl rfl rfl rfl rfl rfl ⟨rfl, rfl, rfl, rfl, rfl⟩ rfl rfl rfl rfl rfl (by kernel_rfl) Try.func5 (by kernel_rfl)
    (of_decide_eq_true (by kernel_rfl)) (by unfold Func.isWrapper; first | (rw [if_pos (by decide +kernel)]; kernel_rfl) | (rw [if_neg (by decide +kernel)]; exact ⟨rfl, rfl⟩))
    (fun os started H enc _ => lifted os started H enc)

theorem proved : Rows.FnExactRunFilterSaid :=
  over
#print axioms proved
end Go.Proofs.Ytghmnhohdbombaa.fnExactRunFilter
