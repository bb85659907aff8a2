/-
  At every emitter and every two ints, where the sine table lies as the program lays it, the program's SparksAt answers what the specification's SparksAt answers, and writes into no argument.
-/
import Derived.Test.YtpeiblodefaajaaDoorKit
import Derived.Test.YtpeiblodefaajaaDoorTie
import Derived.Test.YtpeiblodefaajaaDoorCards
import Derived.Test.YtpeiblodefaajaaDoorAt12
import Derived.Test.YtpeiblodefaajaaDoorTo
import Derived.Test.YtpeiblodefaajaaDoorOpen
import Derived.SevenTiedAt
namespace Go.Proofs.YtpeiblodefaajaaDoor.fnExactSparksAt
open Go.ChangeShapes Go.WideShapes Go.ChangeAt Go.RowKit
set_option linter.unusedVariables false

theorem var_kept {W W' : World} (hT : Tab W) (hg : Kept W W') (h : W.var? Tryd.prog "loop.example/g00064/impl.sineTable" = some cells17) : W'.var? Tryd.prog "loop.example/g00064/impl.sineTable" = some cells17 := by
  have e := hg.block 0 hT.size (by omega)
  simp only [World.var?, gTab, Option.bind_some] at h ⊢
  rw [e]
  exact h

set_option maxRecDepth 100000 in
set_option maxHeartbeats 4000000 in
theorem walk (x y ev bu li sv fa sd kk : Int) (w : World) (hT : Tab w) : Calls Tryd.prog 6 #[.agg #[.int .i64 x, .int .i64 y, .int .i64 ev, .int .i64 bu, .int .i64 li, .int .i64 sv, .int .i64 fa], .int .i64 sd, .int .i64 kk] w fun e w' => e = .returned (.bool true) ∧ Kept w w' := by
  have HSA : Hid (∀ W, Tab W → Calls Tryd.prog 22 #[.agg #[.int .i64 x, .int .i64 y, .int .i64 ev, .int .i64 bu, .int .i64 li, .int .i64 sv, .int .i64 fa], .int .i64 sd, .int .i64 kk] W fun r w' => r = .returned (.tuple #[.int .i64 ((runA (x, y, ev, bu, li, sv, fa) (sd, 0, []) kk).1.2.2.length : Nat), .bool (runA (x, y, ev, bu, li, sv, fa) (sd, 0, []) kk).2]) ∧ Kept W w') := fun W h => sat x y ev bu li sv fa sd kk W h
  have HIA : Hid (∀ W, Tab W → Calls Tryd.prog 23 #[.agg #[.int .i64 x, .int .i64 y, .int .i64 ev, .int .i64 bu, .int .i64 li, .int .i64 sv, .int .i64 fa], .int .i64 sd, .int .i64 kk] W fun r w' => r = .returned (.tuple #[.int .i64 ((runA (x, y, ev, bu, li, sv, fa) (sd, 0, []) kk).1.2.2.length : Nat), .bool (runA (x, y, ev, bu, li, sv, fa) (sd, 0, []) kk).2]) ∧ Kept W w') := fun W h => iat x y ev bu li sv fa sd kk W h
  generalize runA (x, y, ev, bu, li, sv, fa) (sd, 0, []) kk = R at HSA HIA
  obtain ⟨c9, b9⟩ := R
  go_enter Tryd.func6, Tryd.ntmps6
  repeat (first | go_values | go_skip | go_guarded | go_step | go_upon)
  go_at_call 16
  refine (toEmitter _ _ _ _ _ _ _ _).mono ?_
  rintro e w1 ⟨rfl, k1⟩
  have La := (Loc.new w [.int .i64 x, .int .i64 y, .int .i64 ev, .int .i64 bu, .int .i64 li, .int .i64 sv, .int .i64 fa] 40).kept k1
  have K1 : Kept w w1 := ((But.refl _ _ _).alloc _).trans k1
  dsimp only
  repeat (first | go_values | go_skip | go_guarded | go_step | go_upon)
  go_at_call 22
  refine (HSA.out _ (hT.kept K1)).mono ?_
  rintro e w2 ⟨rfl, k2⟩
  have K2 := K1.trans k2
  have La := La.kept k2
  have a0 := La.cell 0 rfl
  have a1 := La.cell 1 rfl
  have a2 := La.cell 2 rfl
  have a3 := La.cell 3 rfl
  have a4 := La.cell 4 rfl
  have a5 := La.cell 5 rfl
  have a6 := La.cell 6 rfl
  have al := La.lt
  dsimp only
  repeat (first | go_values | go_skip | go_guarded | go_step | go_upon)
  go_at_call 16
  refine (toEmitter _ _ _ _ _ _ _ _).mono ?_
  rintro e w3 ⟨rfl, k3⟩
  have K3 := K2.trans k3
  have La := La.kept k3
  clear a0 a1 a2 a3 a4 a5 a6 al
  dsimp only
  repeat (first | go_values | go_skip | go_guarded | go_step | go_upon)
  go_at_call 23
  refine (HIA.out _ (hT.kept K3)).mono ?_
  rintro e w4 ⟨rfl, k4⟩
  have K4 := K3.trans k4
  have La := La.kept k4
  dsimp only
  repeat (first | go_values | go_skip | go_guarded | go_step | go_upon)
  go_ret
  exact ⟨rfl, K4⟩

theorem all (p : EmitterD) (sd kk : Int) {w : World} (hT : Tab w) : Calls Tryd.prog 6 #[.agg (emitterC p).toArray, .int .i64 sd, .int .i64 kk] w fun e w' => e = .returned (.bool true) ∧ Kept w w' := by
  obtain ⟨x, y, ev, bu, li, sv, fa⟩ := p
  exact walk x y ev bu li sv fa sd kk w hT


set_option maxRecDepth 100000 in
theorem lifted (os : Os) (started : os.Started) (H : Type) (enc : TypeId × Value → H) :
    ReturnsInHanded {} Tryd.checked os 6 .any (fun w args => (Rows.fnExactSparksAtSpec.pre enc Tryd.prog Tryd.f6 [] false w args ∧ laidMetH Tryd.prog laid1 w) ∧ sizedMet enc Tryd.prog Tryd.f6 (OpenSpec.ofChange Rows.fnExactSparksAtSpec) false w args)
      (Rows.fnExactSparksAtSpec.post enc Tryd.prog Tryd.f6 false true false false) := by
  refine returnsInHanded_of_change_and (C := Tryd.checked) (X := fun w _ => laidMetH Tryd.prog laid1 w) (fun _ _ _ hh h => h.of_heap hh) own started (by kernel_rfl) Tryd.func6
    (ChangeSpec.witness_shaped (enc := enc) (C := Tryd.checked) (os := os) (X := fun w _ => laidMetH Tryd.prog laid1 w) false (World.doorLaid Tryd.prog 400 os) #[.agg #[.int .i64 0, .int .i64 0, .int .i64 0, .int .i64 0, .int .i64 0, .int .i64 0, .int .i64 0], .int .i64 0, .int .i64 0] 8 rfl (World.shaped_of_RefB (by kernel_rfl) (by kernel_rfl)) (by kernel_rfl) (by kernel_rfl) (by kernel_rfl) (door_met os _)) ?_
  intro W base args ds gs before hval0 hW _ _ hL _
  have hval : ∀ (j : Nat) t v, Tryd.f6.params[j]? = some t → args[j]? = some v → Value.okWide Tryd.prog W .any base t v := hval0
  have hW' := hW
  obtain ⟨p, q, hA0, hV0, rfl, hfz, hnd⟩ := hW
  have hA : DataW.TrodAll enc Tryd.prog W 0 (fun _ => true) true Tryd.f6.params.toList args.toList ds p := hA0
  have hV : DataW.TrodVars enc Tryd.prog W (fun _ => true) ["loop.example/g00064/impl.sineTable"] gs q := hV0
  rw [Tryd.params6] at hA hval
  obtain ⟨v0, vs0, d0, ds0, p0, q0, hargs, rfl, rfl, h0, r0⟩ := trodAll_cons hA
  obtain ⟨v1, vs1, d1, ds1, p1, q1, rfl, rfl, rfl, h1, r1⟩ := trodAll_cons r0
  obtain ⟨v2, vs2, d2, ds2, p2, q2, rfl, rfl, rfl, h2, r2⟩ := trodAll_cons r1
  obtain ⟨rfl, rfl, rfl⟩ := trodAll_nil r2
  obtain rfl : args = #[v0, v1, v2] := by cases args; simp_all
  obtain ⟨a0, e0⟩ := open_emitterV (hval 0 40 v0 rfl rfl) h0
  subst e0
  obtain ⟨a1, rfl, rfl, rfl, w1⟩ := open_int Tryd.underlying3 (hval 1 3 v1 rfl rfl) h1
  obtain ⟨a2, rfl, rfl, rfl, w2⟩ := open_int Tryd.underlying3 (hval 2 3 v2 rfl rfl) h2
  obtain ⟨g, t, cs, fuel, d, p', rfl, hg, ht, hvar, hd, rfl⟩ := trodVars_one hV
  obtain rfl := Option.some.inj (gTab.symm.trans hg)
  obtain rfl := Option.some.inj (tTab.symm.trans ht)
  have hI := tabIs_of hL
  obtain rfl : cs = cells17 := Option.some.inj (hvar.symm.trans hI)
  obtain ⟨rfl, rfl⟩ := DataW.Trod.unique (v := .agg cells17) ⟨fuel, hd⟩ ⟨3, reads_table enc W _⟩
  have hT := Tab.of hI
  clear hA0 hV0 hval0
  refine (all a0 a1 a2 hT).mono fun e W' ⟨he, hgr⟩ => ?_
  subst he
  exact ⟨_, rfl, post_of_kept hW' (fun _ _ _ => (trodAll_cons_mk (shut_bool Tryd.underlying4 _) trodAll_mk0)) (fun sp hsp => (trodAll_cons_mk (kept_trod (by kernel_rfl) (of_decide_eq_true (by kernel_rfl)) h0 hgr (fun x hx => hW'.lt x (by simp [hx])) (fun x hx => hsp x (by simp [hx]))) (trodAll_cons_mk (shut_int Tryd.underlying3 w1) (trodAll_cons_mk (shut_int Tryd.underlying3 w2) trodAll_mk0)))) (fun sp _ => vars_again (var_kept hT hgr hvar) sp) hgr⟩

theorem holds : Rows.FnExactSparksAtSaid :=
  OpenClaim.holds_of_wide 6 Tryd.f6 rfl rfl rfl rfl rfl rfl rfl ⟨rfl, rfl, rfl, rfl, rfl⟩ rfl rfl rfl rfl rfl (by kernel_rfl) Tryd.func6 (by kernel_rfl)
    (of_decide_eq_true (by kernel_rfl)) (by unfold Func.isWrapper; first | (rw [if_pos (by decide +kernel)]; kernel_rfl) | (rw [if_neg (by decide +kernel)]; exact ⟨rfl, rfl⟩))
    (fun os started H enc _ => lifted os started H enc)

theorem proved : Rows.FnExactSparksAtCardSaid :=
  Claim7.holds_tied_plain_at .later [] [.data] true (true, "e391dac4bf4da29ac09014e52266773481af6335a063ce2e7b13c4694a8e5486") false
    holds (fun _ h => by cases h) (by kernel_rfl) (fun _ h => by cases h) fnExactSparksAt_row_tie rfl ⟨rfl, rfl⟩ (by kernel_rfl) rfl
    (fun f fn hf hfn => by
      obtain rfl : f = 6 := Option.some.inj ((show Tryd.prog.funcNamed "loop.example/g00064/laws.FnExactSparksAt" = some 6 by kernel_rfl).symm.trans hf) |>.symm
      obtain rfl : fn = Tryd.f6 := (Option.some.inj (Tryd.func6.symm.trans hfn)).symm
      exact ⟨by kernel_rfl, fun j t ht => by
        rw [Tryd.params6] at ht
        have hm : t ∈ [40, 3, 3] := by simpa using Array.mem_of_getElem? ht
        have hall : ([40, 3, 3].all fun u => !Tryd.prog.wantsStandIn u) = true := by kernel_rfl
        exact (show Tryd.prog.wantsStandIn t = false by simpa using List.all_eq_true.1 hall t (by simpa using hm))⟩)
    (by kernel_rfl)
#print axioms proved
end Go.Proofs.YtpeiblodefaajaaDoor.fnExactSparksAt
