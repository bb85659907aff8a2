/-
  At every two ints the program's AngleOf answers what the specification's AngleOf answers; that the table starts as the program's text lays it is tied by the given tie.
-/
import Derived.Test.YtocjgpmplmillaaDoorKit
import Derived.Test.YtocjgpmplmillaaDoorTie
import Derived.Test.YtocjgpmplmillaaDoorCards
import Derived.Test.YtocjgpmplmillaaDoorAngle
import Derived.SevenTiedAt
namespace Go.Proofs.YtocjgpmplmillaaDoor.fnExactAngleOf
open Go.ChangeShapes Go.WideShapes Go.ChangeAt Go.RowKit
set_option linter.unusedVariables false

theorem walk (a0 : Int) (a1 : Int) (w0 : (Lit.int .i64 a0).wf = true) (w1 : (Lit.int .i64 a1).wf = true) (w : World) (hT : Tab w) :
    Calls Tryd.prog 6 #[.int .i64 a0, .int .i64 a1] w fun e w' => e = .returned (.bool true) ∧ Grown w w' := by
  by_cases h : (a0 < -1099511627776 ∨ 1099511627776 < a0) ∨ (-1099511627776 ≤ a0 ∧ a0 ≤ 1099511627776 ∧ (a1 < -1099511627776 ∨ 1099511627776 < a1))
  · have Hh : Hid _ := h
    clear h
    go_enter Tryd.func6, Tryd.ntmps6
    go_wp2_with (first
      | (go_at_call 16; refine (sang_bad _ _ _ Hh.out).mono ?_; rintro e w1 ⟨rfl, rfl⟩)
      | (go_at_call 17; refine (iang_bad _ _ _ Hh.out).mono ?_; rintro e w2 ⟨rfl, rfl⟩))
    go_ret
    exact ⟨rfl, Grown.refl _⟩
  · have h1 : -1099511627776 ≤ a0 := by omega
    have h2 : a0 ≤ 1099511627776 := by omega
    have h3 : -1099511627776 ≤ a1 := by omega
    have h4 : a1 ≤ 1099511627776 := by omega
    clear h
    cases z1 : (a0 == 0) with
    | false =>
      go_enter Tryd.func6, Tryd.ntmps6
      go_wp2_with (first
        | (go_at_call 16; refine (sang_a _ _ _ h1 h2 h3 h4 z1).mono ?_; rintro e w1 ⟨rfl, hg1⟩; have hT1 := hT.grown hg1)
        | (go_at_call 17; refine (iang_a _ _ _ h1 h2 h3 h4 z1 hT1).mono ?_; rintro e w2 ⟨rfl, hg2⟩))
      go_ret
      exact ⟨rfl, gtrans hg1 hg2⟩
    | true =>
      cases z2 : (a1 == 0) with
      | false =>
        go_enter Tryd.func6, Tryd.ntmps6
        go_wp2_with (first
          | (go_at_call 16; refine (sang_b _ _ _ h1 h2 h3 h4 z1 z2).mono ?_; rintro e w1 ⟨rfl, hg1⟩; have hT1 := hT.grown hg1)
          | (go_at_call 17; refine (iang_b _ _ _ h1 h2 h3 h4 z1 z2 hT1).mono ?_; rintro e w2 ⟨rfl, hg2⟩))
        go_ret
        exact ⟨rfl, gtrans hg1 hg2⟩
      | true =>
        obtain rfl : a0 = 0 := by simpa using z1
        obtain rfl : a1 = 0 := by simpa using z2
        go_enter Tryd.func6, Tryd.ntmps6
        go_wp2_with (first
          | (go_at_call 16; refine (sang_zero _).mono ?_; rintro e w1 ⟨rfl, rfl⟩)
          | (go_at_call 17; refine (iang_zero _).mono ?_; rintro e w2 ⟨rfl, rfl⟩))
        go_ret
        exact ⟨rfl, Grown.refl _⟩

set_option maxRecDepth 100000 in
theorem lifted (os : Os) (started : os.Started) (H : Type) (enc : TypeId × Value → H) :
    ReturnsInHanded {} Tryd.checked os 6 .any (fun w args => (Rows.fnExactAngleOfSpec.pre enc Tryd.prog Tryd.f6 [] false w args ∧ laidMetH Tryd.prog laid1 w) ∧ sizedMet enc Tryd.prog Tryd.f6 (OpenSpec.ofChange Rows.fnExactAngleOfSpec) false w args)
      (Rows.fnExactAngleOfSpec.post enc Tryd.prog Tryd.f6 false true false false) := by
  refine returnsInHanded_of_change_and (C := Tryd.checked) (X := fun w _ => laidMetH Tryd.prog laid1 w) (fun _ _ _ hh h => h.of_heap hh) own started (by kernel_rfl) Tryd.func6
    (ChangeSpec.witness_shaped (enc := enc) (C := Tryd.checked) (os := os) (X := fun w _ => laidMetH Tryd.prog laid1 w) false (World.doorLaid Tryd.prog 400 os) #[.int .i64 0, .int .i64 0] 8 rfl (World.shaped_of_RefB (by kernel_rfl) (by kernel_rfl)) (by kernel_rfl) (by kernel_rfl) (by kernel_rfl) (door_met os _)) ?_
  intro W base args ds gs before hval0 hW _ _ hL _
  have hval : ∀ (j : Nat) t v, Tryd.f6.params[j]? = some t → args[j]? = some v → Value.okWide Tryd.prog W .any base t v := hval0
  have hW' := hW
  obtain ⟨p, q, hA0, hV0, rfl, hfz, hnd⟩ := hW
  have hA : DataW.TrodAll enc Tryd.prog W 0 (fun _ => true) true Tryd.f6.params.toList args.toList ds p := hA0
  have hV : DataW.TrodVars enc Tryd.prog W (fun _ => true) ["loop.example/g00064/impl.sineTable"] gs q := hV0
  rw [Tryd.params6] at hA hval
  obtain ⟨v0, vs0, d0, ds0, p0, q0, hargs, rfl, rfl, h0, r0⟩ := trodAll_cons hA
  obtain ⟨v1, vs1, d1, ds1, p1, q1, rfl, rfl, rfl, h1, r1⟩ := trodAll_cons r0
  obtain ⟨rfl, rfl, rfl⟩ := trodAll_nil r1
  obtain rfl : args = #[v0, v1] := by cases args; simp_all
  obtain ⟨a0, rfl, rfl, rfl, w0⟩ := open_int Tryd.underlying3 (hval 0 3 v0 rfl rfl) h0
  obtain ⟨a1, rfl, rfl, rfl, w1⟩ := open_int Tryd.underlying3 (hval 1 3 v1 rfl rfl) h1
  obtain ⟨g, t, cs, fuel, d, p', rfl, hg, ht, hvar, hd, rfl⟩ := trodVars_one hV
  obtain rfl := Option.some.inj (gTab.symm.trans hg)
  obtain rfl := Option.some.inj (tTab.symm.trans ht)
  have hI := tabIs_of hL
  obtain rfl : cs = cells17 := Option.some.inj (hvar.symm.trans hI)
  obtain ⟨rfl, rfl⟩ := DataW.Trod.unique (v := .agg cells17) ⟨fuel, hd⟩ ⟨3, reads_table enc W _⟩
  have hT := Tab.of hI
  clear hA0 hV0 hval0
  refine (walk a0 a1 w0 w1 W hT).mono fun e W' ⟨he, hgr⟩ => ?_
  subst he
  exact ⟨_, rfl, post_of_same (pa := []) hW' (fun _ _ _ => (trodAll_cons_mk (shut_bool Tryd.underlying4 _) trodAll_mk0)) (fun sp _ => (trodAll_cons_mk (shut_int Tryd.underlying3 w0) (trodAll_cons_mk (shut_int Tryd.underlying3 w1) trodAll_mk0))) (fun sp _ => vars_again (var_grown hT hgr hvar) sp) (by simp)
    (hgr.frame _) hgr.2.1 (ok_one (by kernel_rfl) rfl (okWide_bool_mk Tryd.underlying4 _))⟩

theorem holds : Rows.FnExactAngleOfSaid :=
  OpenClaim.holds_of_wide 6 Tryd.f6 rfl rfl rfl rfl rfl rfl rfl ⟨rfl, rfl, rfl, rfl, rfl⟩ rfl rfl rfl rfl rfl (by kernel_rfl) Tryd.func6 (by kernel_rfl)
    (of_decide_eq_true (by kernel_rfl)) (by unfold Func.isWrapper; first | (rw [if_pos (by decide +kernel)]; kernel_rfl) | (rw [if_neg (by decide +kernel)]; exact ⟨rfl, rfl⟩))
    (fun os started H enc _ => lifted os started H enc)

theorem proved : Rows.FnExactAngleOfCardSaid :=
  Claim7.holds_tied_plain_at .later [] [.data] true (true, "16f142150e251f5b7a807395511ea9e6c2eac8210596b8d543622b255f5360c5") false
    holds (fun _ h => by cases h) (by kernel_rfl) (fun _ h => by cases h) fnExactAngleOf_row_tie rfl ⟨rfl, rfl⟩ (by kernel_rfl) rfl
    (fun f fn hf hfn => by
      obtain rfl : f = 6 := Option.some.inj ((show Tryd.prog.funcNamed "loop.example/g00064/laws.FnExactAngleOf" = some 6 by kernel_rfl).symm.trans hf) |>.symm
      obtain rfl : fn = Tryd.f6 := (Option.some.inj (Tryd.func6.symm.trans hfn)).symm
      exact ⟨by kernel_rfl, fun j t ht => by
        rw [Tryd.params6] at ht
        have hm : t ∈ [3, 3] := by simpa using Array.mem_of_getElem? ht
        have hall : ([3, 3].all fun u => !Tryd.prog.wantsStandIn u) = true := by kernel_rfl
        exact (show Tryd.prog.wantsStandIn t = false by simpa using List.all_eq_true.1 hall t hm)⟩)
    (by kernel_rfl)
#print axioms proved
end Go.Proofs.YtocjgpmplmillaaDoor.fnExactAngleOf
