/-
  At every int the program's KeyParts answers what the specification's KeyParts answers; the program's table is as the row lists it.
-/
import Derived.Test.YtoimpkhgdpkhkaaDoorKit20
import Derived.Test.YtoimpkhgdpkhkaaDoorTie
import Derived.Test.YtoimpkhgdpkhkaaDoorCards
import Derived.Test.YtoimpkhgdpkhkaaDoorItemT
import Derived.Test.YtoimpkhgdpkhkaaDoorItemO
import Derived.Test.YtoimpkhgdpkhkaaDoorIKpA20
import Derived.Test.YtoimpkhgdpkhkaaDoorSParts20
import Derived.SevenTiedAt
namespace Go.Proofs.YtoimpkhgdpkhkaaDoor.fnExactKeyParts
open Go.ChangeShapes Go.WideShapes Go.ChangeAt Go.RowKit
set_option linter.unusedVariables false

theorem var_kept {W W' : World} (hT : Tab W) (hg : Kept W W') (h : W.var? Tryd.prog "loop.example/g00064/impl.bitsOfPart" = some cells5) : W'.var? Tryd.prog "loop.example/g00064/impl.bitsOfPart" = some cells5 := by
  have e := hg.block 0 hT.size (by omega)
  simp only [World.var?, gTab, Option.bind_some] at h ⊢
  rw [e]
  exact h

set_option maxRecDepth 100000 in
set_option maxHeartbeats 8000000 in
theorem walk (k : Int) (f0 f1 f2 f3 : Int) (f4 : Bool) (f5 f6 f7 f8 : Int) (jb : Bool) (w : World) (hT : Tab w) (hS : ∀ u : World, Calls Tryd.prog 16 #[.int .i64 k] u fun e u' => e = .returned (.tuple #[.agg #[.int .i64 f0, .int .i64 f1, .int .i64 f2, .int .i64 f3, .bool f4, .int .i64 f5, .int .i64 f6, .int .i64 f7, .int .i64 f8], .bool jb]) ∧ Kept u u') (hI : ∀ u : World, Tab u → Calls Tryd.prog 10 #[.int .i64 k] u fun e u' => e = .returned (.tuple #[.agg #[.int .i64 f0, .int .i64 f1, .int .i64 f2, .int .i64 f3, .bool f4, .int .i64 f5, .int .i64 f6, .int .i64 f7, .int .i64 f8], .bool jb]) ∧ Kept u u') :
    Calls Tryd.prog 5 #[.int .i64 k] w fun e w' => e = .returned (.bool true) ∧ Kept w w' := by
  have HS : Hid (∀ u : World, Calls Tryd.prog 16 #[.int .i64 k] u fun e u' => e = .returned (.tuple #[.agg #[.int .i64 f0, .int .i64 f1, .int .i64 f2, .int .i64 f3, .bool f4, .int .i64 f5, .int .i64 f6, .int .i64 f7, .int .i64 f8], .bool jb]) ∧ Kept u u') := hS
  have HI : Hid (∀ u : World, Tab u → Calls Tryd.prog 10 #[.int .i64 k] u fun e u' => e = .returned (.tuple #[.agg #[.int .i64 f0, .int .i64 f1, .int .i64 f2, .int .i64 f3, .bool f4, .int .i64 f5, .int .i64 f6, .int .i64 f7, .int .i64 f8], .bool jb]) ∧ Kept u u') := hI
  clear hS hI
  go_enter Tryd.func5, Tryd.ntmps5
  repeat (first | go_values | go_skip | go_guarded | go_step | go_upon)
  go_at_call 16
  refine (HS.out _).mono ?_
  rintro e u1 ⟨rfl, k1⟩
  dsimp only
  repeat (first | go_values | go_skip | go_guarded | go_step | go_upon)
  go_at_call 10
  refine (HI.out _ (hT.kept (k1.alloc _))).mono ?_
  rintro e u2 ⟨rfl, k2⟩
  have La := (Loc.new u1 [.int .i64 f0, .int .i64 f1, .int .i64 f2, .int .i64 f3, .bool f4, .int .i64 f5, .int .i64 f6, .int .i64 f7, .int .i64 f8] 26).kept k2
  have K2 : Kept w u2 := (k1.alloc _).trans k2
  have a0 := La.cell 0 rfl; have a1 := La.cell 1 rfl; have a2 := La.cell 2 rfl; have a3 := La.cell 3 rfl; have a4 := La.cell 4 rfl; have a5 := La.cell 5 rfl; have a6 := La.cell 6 rfl; have a7 := La.cell 7 rfl; have a8 := La.cell 8 rfl; have al := La.lt
  dsimp only
  repeat (first | go_values | go_skip | go_guarded | go_step | go_upon)
  go_at_call 17
  refine (eqItem _ _ _ _ _ _ _ _ _ _).mono ?_
  rintro e u3 ⟨rfl, k3⟩
  have K3 : Kept w u3 := (K2.alloc _).trans k3
  clear a0 a1 a2 a3 a4 a5 a6 a7 a8 al
  dsimp only
  repeat (first | go_values | go_skip | go_guarded | go_step | go_upon)
  go_ret
  exact ⟨rfl, K3⟩
theorem all (k : Int) (w0 : (Lit.int .i64 k).wf = true) {w : World} (hT : Tab w) :
    Calls Tryd.prog 5 #[.int .i64 k] w fun e w' => e = .returned (.bool true) ∧ Kept w w' := by
  have hk := wf_bd k w0
  by_cases h : 0 ≤ k ∧ k ≤ 4294967295
  · have hI : ∀ u, Tab u → Calls Tryd.prog 10 #[.int .i64 k] u fun e u' => e = .returned (.tuple #[.agg (itemC (partsM k)).toArray, .bool true]) ∧ Kept u u' := fun u hu => by
      have := ikp k u hu hk
      rw [if_pos h] at this
      exact this
    have hS : ∀ u, Calls Tryd.prog 16 #[.int .i64 k] u fun e u' => e = .returned (.tuple #[.agg (itemC (partsM k)).toArray, .bool true]) ∧ Kept u u' := fun u => sparts_yes k u h
    obtain ⟨⟨f0, f1, f2, f3, f4, f5, f6, f7, f8⟩, hp⟩ : ∃ p, partsM k = p := ⟨_, rfl⟩
    rw [hp] at hI hS
    exact walk k f0 f1 f2 f3 f4 f5 f6 f7 f8 true w hT hS hI
  · have hI : ∀ u, Tab u → Calls Tryd.prog 10 #[.int .i64 k] u fun e u' => e = .returned (.tuple #[.agg #[.int .i64 0, .int .i64 0, .int .i64 0, .int .i64 0, .bool false, .int .i64 0, .int .i64 0, .int .i64 0, .int .i64 0], .bool false]) ∧ Kept u u' := fun u hu => by
      have := ikp k u hu hk
      rw [if_neg h] at this
      exact this
    exact walk k 0 0 0 0 false 0 0 0 0 false w hT (fun u => sparts_no k u h) hI


set_option maxRecDepth 100000 in
theorem lifted (os : Os) (started : os.Started) (H : Type) (enc : TypeId × Value → H) :
    ReturnsInHanded {} Tryd.checked os 5 .any (fun w args => (Rows.fnExactKeyPartsSpec.pre enc Tryd.prog Tryd.f5 [] false w args ∧ laidMetH Tryd.prog laid1 w) ∧ sizedMet enc Tryd.prog Tryd.f5 (OpenSpec.ofChange Rows.fnExactKeyPartsSpec) false w args)
      (Rows.fnExactKeyPartsSpec.post enc Tryd.prog Tryd.f5 false true false false) := by
  refine returnsInHanded_of_change_and (C := Tryd.checked) (X := fun w _ => laidMetH Tryd.prog laid1 w) (fun _ _ _ hh h => h.of_heap hh) own started (by kernel_rfl) Tryd.func5
    (ChangeSpec.witness_shaped (enc := enc) (C := Tryd.checked) (os := os) (X := fun w _ => laidMetH Tryd.prog laid1 w) false (World.doorLaid Tryd.prog 400 os) #[.int .i64 0] 8 rfl (World.shaped_of_RefB (by kernel_rfl) (by kernel_rfl)) (by kernel_rfl) (by kernel_rfl) (by kernel_rfl) (door_met os _)) ?_
  intro W base args ds gs before hval0 hW _ _ hL _
  have hval : ∀ (j : Nat) t v, Tryd.f5.params[j]? = some t → args[j]? = some v → Value.okWide Tryd.prog W .any base t v := hval0
  have hW' := hW
  obtain ⟨p, q, hA0, hV0, rfl, hfz, hnd⟩ := hW
  have hA : DataW.TrodAll enc Tryd.prog W 0 (fun _ => true) true Tryd.f5.params.toList args.toList ds p := hA0
  have hV : DataW.TrodVars enc Tryd.prog W (fun _ => true) ["loop.example/g00064/impl.bitsOfPart"] gs q := hV0
  rw [Tryd.params5] at hA hval
  obtain ⟨v0, vs0, d0, ds0, p0, q0, hargs, rfl, rfl, h0, r0⟩ := trodAll_cons hA
  obtain ⟨rfl, rfl, rfl⟩ := trodAll_nil r0
  obtain rfl : args = #[v0] := by cases args; simp_all
  obtain ⟨a0, rfl, rfl, rfl, w0⟩ := open_int Tryd.underlying3 (hval 0 3 v0 rfl rfl) h0
  obtain ⟨g, t, cs, fuel, d, p', rfl, hg, ht, hvar, hd, rfl⟩ := trodVars_one hV
  obtain rfl := Option.some.inj (gTab.symm.trans hg)
  obtain rfl := Option.some.inj (tTab.symm.trans ht)
  have hI := tabIs_of hL
  obtain rfl : cs = cells5 := Option.some.inj (hvar.symm.trans hI)
  obtain ⟨rfl, rfl⟩ := DataW.Trod.unique (v := .agg cells5) ⟨fuel, hd⟩ ⟨3, reads_table enc W _⟩
  have hT := Tab.of hI
  clear hA0 hV0 hval0
  refine (all a0 w0 hT).mono fun e W' ⟨he, hgr⟩ => ?_
  subst he
  exact ⟨_, rfl, post_of_kept hW' (fun _ _ _ => (trodAll_cons_mk (shut_bool Tryd.underlying4 _) trodAll_mk0)) (fun sp hsp => (trodAll_cons_mk (shut_int Tryd.underlying3 w0) trodAll_mk0)) (fun sp _ => vars_again (var_kept hT hgr hvar) sp) hgr⟩

theorem holds : Rows.FnExactKeyPartsSaid :=
  OpenClaim.holds_of_wide 5 Tryd.f5 rfl rfl rfl rfl rfl rfl rfl ⟨rfl, rfl, rfl, rfl, rfl⟩ rfl rfl rfl rfl rfl (by kernel_rfl) Tryd.func5 (by kernel_rfl)
    (of_decide_eq_true (by kernel_rfl)) (by unfold Func.isWrapper; first | (rw [if_pos (by decide +kernel)]; kernel_rfl) | (rw [if_neg (by decide +kernel)]; exact ⟨rfl, rfl⟩))
    (fun os started H enc _ => lifted os started H enc)

theorem proved : Rows.FnExactKeyPartsCardSaid :=
  Claim7.holds_tied_plain_at .later [] [.data] true (true, "1a8ffa2f0d0814a1bdf14bc4a5b45dc7dfcf7101f78dd4b0dda7a3154137368a") false
    holds (fun _ h => by cases h) (by kernel_rfl) (fun _ h => by cases h) fnExactKeyParts_row_tie rfl ⟨rfl, rfl⟩ (by kernel_rfl) rfl
    (fun f fn hf hfn => by
      obtain rfl : f = 5 := Option.some.inj ((show Tryd.prog.funcNamed "loop.example/g00064/laws.FnExactKeyParts" = some 5 by kernel_rfl).symm.trans hf) |>.symm
      obtain rfl : fn = Tryd.f5 := (Option.some.inj (Tryd.func5.symm.trans hfn)).symm
      exact ⟨by kernel_rfl, fun j t ht => by
        rw [Tryd.params5] at ht
        have hm : t ∈ [3] := by simpa using Array.mem_of_getElem? ht
        have hall : ([3].all fun u => !Tryd.prog.wantsStandIn u) = true := by kernel_rfl
        exact (show Tryd.prog.wantsStandIn t = false by simpa using List.all_eq_true.1 hall t (by simpa using hm))⟩)
    (by kernel_rfl)
#print axioms proved
end Go.Proofs.YtoimpkhgdpkhkaaDoor.fnExactKeyParts
