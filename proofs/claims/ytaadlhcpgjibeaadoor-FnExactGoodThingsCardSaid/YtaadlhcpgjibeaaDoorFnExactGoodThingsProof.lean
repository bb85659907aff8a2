/-
  At all things the program's GoodThings answers what the specification's GoodThings answers, and writes into no argument; the program's table is as the row lists it.
-/
import Derived.Test.YtaadlhcpgjibeaaDoorKit23
import Derived.Test.YtaadlhcpgjibeaaDoorTie
import Derived.Test.YtaadlhcpgjibeaaDoorCards
import Derived.Test.YtaadlhcpgjibeaaDoorSGoodT23
import Derived.Test.YtaadlhcpgjibeaaDoorIGoodT23
import Derived.Test.YtaadlhcpgjibeaaDoorThingT
import Derived.Test.YtaadlhcpgjibeaaDoorThingO
import Derived.SevenTiedAt
namespace Go.Proofs.YtaadlhcpgjibeaaDoor.fnExactGoodThings
open Go.ChangeShapes Go.WideShapes Go.ChangeAt Go.RowKit
set_option linter.unusedVariables false

theorem var_kept {W W' : World} (hT : Tab W) (hg : Kept W W') (h : W.var? Tryd.prog "loop.example/g00064/impl.fieldWidths" = some cellsW) : W'.var? Tryd.prog "loop.example/g00064/impl.fieldWidths" = some cellsW := by
  have e := hg.block 0 hT.size (by omega)
  simp only [World.var?, gTab, Option.bind_some] at h ⊢
  rw [e]
  exact h

set_option maxRecDepth 100000 in
set_option maxHeartbeats 16000000 in
theorem walk (l : List ThingD) (J : Bool) (v : Value) (w : World) (hT : Tab w) (hv : ThingAt w v l) (hl : l.length ≤ 1048576)
    (hS : ∀ (u : World) (v : Value), Tab u → ThingAt u v l → Calls Tryd.prog 19 #[v] u fun e u' => e = .returned (.bool J) ∧ Kept u u')
    (hI : ∀ (u : World) (v : Value), Tab u → ThingAt u v l → Calls Tryd.prog 21 #[v] u fun e u' => e = .returned (.bool J) ∧ Kept u u') :
    Calls Tryd.prog 4 #[v] w fun e w' => e = .returned (.bool true) ∧ Kept w w' := by
  have hdl : decide ((1048576 : Int) - (l.length : Int) < 0) = false := by simp; omega
  have HS : Hid (∀ (u : World) (v : Value), Tab u → ThingAt u v l → Calls Tryd.prog 19 #[v] u fun e u' => e = .returned (.bool J) ∧ Kept u u') := hS
  have HI : Hid (∀ (u : World) (v : Value), Tab u → ThingAt u v l → Calls Tryd.prog 21 #[v] u fun e u' => e = .returned (.bool J) ∧ Kept u u') := hI
  clear hS hI
  obtain ⟨ao, cap, hfm⟩ := row_nil hv
  subst hfm
  go_enter Tryd.func4, Tryd.ntmps4
  repeat (first | go_values | go_skip | go_guarded | go_step | go_upon)
  go_at_call 18
  refine (szThingS l _ _ _ hv (by omega) (by omega) (by omega)).mono ?_
  rintro e u1 ⟨rfl, k1⟩
  rw [leftOf_yes (by omega)]
  have K1 := k1
  have s1 := k1.size
  clear k1
  dsimp only
  repeat (first | go_values | go_skip | go_guarded | go_step | go_upon)
  go_at_call 20
  refine (toThingS l _ _ (hv.kept K1) (by omega)).mono ?_
  rintro e u2 ⟨v2, rfl, o2, k2⟩
  have K2 := K1.trans k2
  have s2 := k2.size
  clear k2 K1
  obtain ⟨ao2, cap2, hfm⟩ := o2.form
  subst hfm
  dsimp only
  repeat (first | go_values | go_skip | go_guarded | go_step | go_upon)
  go_at_call 19
  refine (HS.out _ _ (hT.kept K2) o2.at).mono ?_
  rintro e u3 ⟨rfl, k3⟩
  have K3 := K2.trans k3
  have o2 := o2.kept k3
  have s3 := k3.size
  clear k3 K2
  clear o2
  dsimp only
  repeat (first | go_values | go_skip | go_guarded | go_step | go_upon)
  go_at_call 20
  refine (toThingS l _ _ (hv.kept K3) (by omega)).mono ?_
  rintro e u4 ⟨v4, rfl, ox, k4⟩
  have K4 := K3.trans k4
  have s4 := k4.size
  clear k4 K3
  obtain ⟨ao4, cap4, hfm⟩ := ox.form
  subst hfm
  dsimp only
  repeat (first | go_values | go_skip | go_guarded | go_step | go_upon)
  go_at_call 21
  refine (HI.out _ _ (hT.kept K4) ox.at).mono ?_
  rintro e u5 ⟨rfl, k5⟩
  have K5 := K4.trans k5
  have ox := ox.kept k5
  have s5 := k5.size
  clear k5 K4
  dsimp only
  repeat (first | go_values | go_skip | go_guarded | go_step | go_upon)
  go_at_call 20
  refine (toThingS l _ _ (hv.kept K5) (by omega)).mono ?_
  rintro e u6 ⟨v6, rfl, oz, k6⟩
  have K6 := K5.trans k6
  have ox := ox.kept k6
  have s6 := k6.size
  clear k6 K5
  obtain ⟨ao6, cap6, hfm⟩ := oz.form
  subst hfm
  dsimp only
  repeat (first | go_values | go_skip | go_guarded | go_step | go_upon)
  go_at_call 22
  refine (eqThingS l _ _ _ ox.at oz.at (by omega)).mono ?_
  rintro e u7 ⟨rfl, k7⟩
  have K7 := K6.trans k7
  have ox := ox.kept k7
  have oz := oz.kept k7
  have s7 := k7.size
  clear k7 K6
  dsimp only
  repeat (first | go_values | go_skip | go_guarded | go_step | go_upon)
  go_ret
  exact ⟨rfl, K7⟩
set_option maxRecDepth 100000 in
set_option maxHeartbeats 16000000 in
theorem big (l : List ThingD) (v : Value) (w : World) (hv : ThingAt w v l) (hlen : l.length ≤ maxLen) (hl : 1048576 < l.length) :
    Calls Tryd.prog 4 #[v] w fun e w' => e = .returned (.bool true) ∧ Kept w w' := by
  unfold maxLen at hlen
  obtain ⟨ao, cap, hfm⟩ := row_nil hv
  subst hfm
  go_enter Tryd.func4, Tryd.ntmps4
  repeat (first | go_values | go_skip | go_guarded | go_step | go_upon)
  go_at_call 18
  refine (szThingS l _ _ _ hv (by omega) (by omega) (by omega)).mono ?_
  rintro e u1 ⟨rfl, k1⟩
  rw [leftOf_no (by omega)]
  dsimp only
  repeat (first | go_values | go_skip | go_guarded | go_step | go_upon)
  go_ret
  exact ⟨rfl, k1⟩
theorem all (l : List ThingD) (v : Value) {w : World} (hv : ThingAt w v l) (hq : (∀ p ∈ l, True) ∧ l.length ≤ maxLen) (hT : Tab w) :
    Calls Tryd.prog 4 #[v] w fun e w' => e = .returned (.bool true) ∧ Kept w w' := by
  obtain ⟨-, hlen⟩ := hq
  by_cases hl : l.length ≤ 1048576
  · exact walk l  _ v w hT hv hl (fun u v hT h => sgoodT l v u h (by omega)) (fun u v hT h => igoodT l v u hT h (by omega))
  · exact big l  v w hv hlen (by omega)


set_option maxRecDepth 100000 in
theorem lifted (os : Os) (started : os.Started) (H : Type) (enc : TypeId × Value → H) :
    ReturnsInHanded {} Tryd.checked os 4 .any (fun w args => (Rows.fnExactGoodThingsSpec.pre enc Tryd.prog Tryd.f4 [] false w args ∧ laidMetH Tryd.prog laid1 w) ∧ sizedMet enc Tryd.prog Tryd.f4 (OpenSpec.ofChange Rows.fnExactGoodThingsSpec) false w args)
      (Rows.fnExactGoodThingsSpec.post enc Tryd.prog Tryd.f4 false true false false) := by
  refine returnsInHanded_of_change_and (C := Tryd.checked) (X := fun w _ => laidMetH Tryd.prog laid1 w) (fun _ _ _ hh h => h.of_heap hh) own started (by kernel_rfl) Tryd.func4
    (ChangeSpec.witness_shaped (enc := enc) (C := Tryd.checked) (os := os) (X := fun w _ => laidMetH Tryd.prog laid1 w) false (World.doorLaid Tryd.prog 400 os) #[.slice none 0 0] 8 rfl (World.shaped_of_RefB (by kernel_rfl) (by kernel_rfl)) (by kernel_rfl) (by kernel_rfl) (by kernel_rfl) (door_met os _)) ?_
  intro W base args ds gs before hval0 hW _ _ hL _
  have hval : ∀ (j : Nat) t v, Tryd.f4.params[j]? = some t → args[j]? = some v → Value.okWide Tryd.prog W .any base t v := hval0
  have hW' := hW
  obtain ⟨p, q, hA0, hV0, rfl, hfz, hnd⟩ := hW
  have hA : DataW.TrodAll enc Tryd.prog W 0 (fun _ => true) true Tryd.f4.params.toList args.toList ds p := hA0
  have hV : DataW.TrodVars enc Tryd.prog W (fun _ => true) ["loop.example/g00064/impl.fieldWidths"] gs q := hV0
  rw [Tryd.params4] at hA hval
  obtain ⟨v0, vs0, d0, ds0, p0, q0, hargs, rfl, rfl, h0, r0⟩ := trodAll_cons hA
  obtain ⟨rfl, rfl, rfl⟩ := trodAll_nil r0
  obtain rfl : args = #[v0] := by cases args; simp_all
  obtain ⟨c0, hv0, hl0⟩ := open_thingS (hval 0 39 v0 rfl rfl) h0
  obtain ⟨g, t, cs, fuel, d, p', rfl, hg, ht, hvar, hd, rfl⟩ := trodVars_one hV
  obtain rfl := Option.some.inj (gTab.symm.trans hg)
  obtain rfl := Option.some.inj (tTab.symm.trans ht)
  have hI := tabIs_of hL
  obtain rfl : cs = cellsW := Option.some.inj (hvar.symm.trans hI)
  obtain ⟨rfl, rfl⟩ := DataW.Trod.unique (v := .agg cellsW) ⟨fuel, hd⟩ ⟨3, reads_table enc W _⟩
  have hT := Tab.of hI
  clear hA0 hV0 hval0
  refine (all c0 v0 hv0 hl0 hT).mono fun e W' ⟨he, hgr⟩ => ?_
  subst he
  exact ⟨_, rfl, post_of_kept hW' (fun _ _ _ => (trodAll_cons_mk (shut_bool Tryd.underlying4 _) trodAll_mk0)) (fun sp hsp => (trodAll_cons_mk (kept_trod (by kernel_rfl) (of_decide_eq_true (by kernel_rfl)) h0 hgr (fun x hx => hW'.lt x (by simp [hx])) (fun x hx => hsp x (by simp [hx]))) trodAll_mk0)) (fun sp _ => vars_again (var_kept hT hgr hvar) sp) hgr⟩

theorem holds : Rows.FnExactGoodThingsSaid :=
  OpenClaim.holds_of_wide 4 Tryd.f4 rfl rfl rfl rfl rfl rfl rfl ⟨rfl, rfl, rfl, rfl, rfl⟩ rfl rfl rfl rfl rfl (by kernel_rfl) Tryd.func4 (by kernel_rfl)
    (of_decide_eq_true (by kernel_rfl)) (by unfold Func.isWrapper; first | (rw [if_pos (by decide +kernel)]; kernel_rfl) | (rw [if_neg (by decide +kernel)]; exact ⟨rfl, rfl⟩))
    (fun os started H enc _ => lifted os started H enc)

theorem proved : Rows.FnExactGoodThingsCardSaid :=
  Claim7.holds_tied_plain_at .later [] [.data] true (true, "e88eefa4a3c2a9ec6de71181edf8a09ac7d7eee333181281073f4ed70c8e8e2b") false
    holds (fun _ h => by cases h) (by kernel_rfl) (fun _ h => by cases h) fnExactGoodThings_row_tie rfl ⟨rfl, rfl⟩ (by kernel_rfl) rfl
    (fun f fn hf hfn => by
      obtain rfl : f = 4 := Option.some.inj ((show Tryd.prog.funcNamed "loop.example/g00064/laws.FnExactGoodThings" = some 4 by kernel_rfl).symm.trans hf) |>.symm
      obtain rfl : fn = Tryd.f4 := (Option.some.inj (Tryd.func4.symm.trans hfn)).symm
      exact ⟨by kernel_rfl, fun j t ht => by
        rw [Tryd.params4] at ht
        have hm : t ∈ [39] := by simpa using Array.mem_of_getElem? ht
        have hall : ([39].all fun u => !Tryd.prog.wantsStandIn u) = true := by kernel_rfl
        exact (show Tryd.prog.wantsStandIn t = false by simpa using List.all_eq_true.1 hall t (by simpa using hm))⟩)
    (by kernel_rfl)
#print axioms proved
end Go.Proofs.YtaadlhcpgjibeaaDoor.fnExactGoodThings
