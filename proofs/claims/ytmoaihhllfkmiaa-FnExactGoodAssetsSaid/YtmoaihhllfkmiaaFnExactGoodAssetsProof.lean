/-
  At every list of assets the program's GoodAssets answers what the specification's GoodAssets answers, and writes into no argument.
-/
import Derived.Test.YtmoaihhllfkmiaaRows
import Derived.Test.YtmoaihhllfkmiaaAssetF
import Derived.Test.YtmoaihhllfkmiaaAssetO
import Derived.Test.YtmoaihhllfkmiaaEnd21
import Derived.ChangeMaps
namespace Go.Proofs.Ytmoaihhllfkmiaa.fnExactGoodAssets
open Go.ChangeShapes Go.WideShapes Go.ChangeAt Go.RowKit
set_option linter.unusedVariables false

theorem own : ownKnob Try.prog.godebug = none := by kernel_rfl


theorem size_of {l : List AssetE} (h : assetCost l ≤ 1048576) : DSz (l.map stripA) := by
  have h9 := h
  unfold assetCost at h
  refine ⟨by rw [List.length_map]; omega, fun d hd => ?_⟩
  obtain ⟨p, hp, rfl⟩ := List.mem_map.1 hd
  obtain ⟨j, hj⟩ := List.mem_iff_getElem?.1 hp
  have h1 := assetSum_le hj
  unfold assetOne at h1
  refine ⟨by show p.1.size ≤ _; omega, by show p.2.1.2.length ≤ _; unfold txtCost at h1; omega, fun q hq => ?_, by show p.2.2.2.length ≤ _; omega⟩
  obtain ⟨i, hi⟩ := List.mem_iff_getElem?.1 hq
  have h2 : q.size ≤ txtSum p.2.1.2 := txtSum_le hi
  unfold txtCost at h1
  omega
set_option maxRecDepth 100000 in
set_option maxHeartbeats 8000000 in
theorem walk (l : List AssetE) (ds : List AssetD) (J : Bool) (v : Value) (w : World) (hvp : AssetAt w v l) (hf : AssetFit l) (hv : AssetsAt w v ds) (hz : DSz ds) (hl : assetCost l ≤ 1048576)
    (hS : ∀ (u : World) (v : Value), AssetsAt u v ds → Calls Try.prog 17 #[v] u fun e u' => e = .returned (.bool J) ∧ Kept u u')
    (hI : ∀ (u : World) (v : Value), AssetsAt u v ds → Calls Try.prog 19 #[v] u fun e u' => e = .returned (.bool J) ∧ Kept u u') :
    Calls Try.prog 4 #[v] w fun e w' => e = .returned (.bool true) ∧ Kept w w' := by
  have hn : l.length ≤ 1048576 := by unfold assetCost at hl; omega
  have hd1 : decide ((1048576 : Int) - (assetCost l : Int) < 0) = false := by simp; omega
  obtain ⟨ao, cap, hfm⟩ := hv.form
  subst hfm
  have HS : Hid _ := hS
  have HI : Hid _ := hI
  clear hS hI
  go_enter Try.func4, Try.ntmps4
  repeat (first | go_values | go_skip | go_guarded | go_step | go_upon)
  go_at_call 16
  refine (szAssetS l _ _ _ hvp (by omega) (by omega) (by omega) hf).mono ?_
  rintro e u1 ⟨rfl, k1⟩
  rw [leftOf_yes (by omega)]
  have K1 := k1
  have s1 := k1.size
  clear k1
  dsimp only
  repeat (first | go_values | go_skip | go_guarded | go_step | go_upon)
  go_at_call 18
  refine (toAssets ds _ _ (hv.kept K1) hz).mono ?_
  rintro e u2 ⟨v2, rfl, t1, k2⟩
  have K2 := K1.trans k2
  have s2 := k2.size
  clear k2 K1
  obtain ⟨ao2, cap2, hfm⟩ := t1.form
  subst hfm
  dsimp only
  repeat (first | go_values | go_skip | go_guarded | go_step | go_upon)
  go_at_call 17
  refine (HS.out _ _ t1.at).mono ?_
  rintro e u3 ⟨rfl, k3⟩
  have K3 := K2.trans k3
  have t1 := t1.kept k3
  have s3 := k3.size
  clear k3 K2
  clear t1
  dsimp only
  repeat (first | go_values | go_skip | go_guarded | go_step | go_upon)
  go_at_call 18
  refine (toAssets ds _ _ (hv.kept K3) hz).mono ?_
  rintro e u4 ⟨v4, rfl, x0, k4⟩
  have K4 := K3.trans k4
  have s4 := k4.size
  clear k4 K3
  obtain ⟨ao4, cap4, hfm⟩ := x0.form
  subst hfm
  dsimp only
  repeat (first | go_values | go_skip | go_guarded | go_step | go_upon)
  go_at_call 19
  refine (HI.out _ _ x0.at).mono ?_
  rintro e u5 ⟨rfl, k5⟩
  have K5 := K4.trans k5
  have x0 := x0.kept k5
  have s5 := k5.size
  clear k5 K4
  dsimp only
  repeat (first | go_values | go_skip | go_guarded | go_step | go_upon)
  go_at_call 18
  refine (toAssets ds _ _ (hv.kept K5) hz).mono ?_
  rintro e u6 ⟨v6, rfl, y0, k6⟩
  have K6 := K5.trans k6
  have x0 := x0.kept k6
  have s6 := k6.size
  clear k6 K5
  obtain ⟨ao6, cap6, hfm⟩ := y0.form
  subst hfm
  dsimp only
  repeat (first | go_values | go_skip | go_guarded | go_step | go_upon)
  go_at_call 20
  refine (eqAssets ds _ _ _ x0.at y0.at hz).mono ?_
  rintro e u7 ⟨rfl, k7⟩
  have K7 := K6.trans k7
  have x0 := x0.kept k7
  have y0 := y0.kept k7
  have s7 := k7.size
  clear k7 K6
  clear y0 x0
  dsimp only
  repeat (first | go_values | go_skip | go_guarded | go_step | go_upon)
  go_ret
  exact ⟨rfl, K7⟩
set_option maxRecDepth 100000 in
set_option maxHeartbeats 8000000 in
theorem big (l : List AssetE) (v : Value) (w : World) (hv : AssetAt w v l) (hq : AssetFit l) (hlen : l.length ≤ maxLen) (hc : 1048576 < assetCost l) :
    Calls Try.prog 4 #[v] w fun e w' => e = .returned (.bool true) ∧ Kept w w' := by
  unfold maxLen at hlen
  obtain ⟨ao, cap, hfm⟩ := row_nil hv.1
  subst hfm
  go_enter Try.func4, Try.ntmps4
  repeat (first | go_values | go_skip | go_guarded | go_step | go_upon)
  go_at_call 16
  refine (szAssetS l _ _ _ hv (by omega) (by omega) (by omega) hq).mono ?_
  rintro e u1 ⟨rfl, k1⟩
  rw [leftOf_no (by omega)]
  dsimp only
  repeat (first | go_values | go_skip | go_guarded | go_step | go_upon)
  go_ret
  exact ⟨rfl, k1⟩
theorem all (l : List AssetE) (v : Value) {w : World} (hv : AssetAt w v l) (hq : AssetFit l) (hlen : l.length ≤ maxLen) (w' : World) (_ : w' = w) :
    Calls Try.prog 4 #[v] w fun e w' => e = .returned (.bool true) ∧ Kept w w' := by
  by_cases hc : assetCost l ≤ 1048576
  · exact walk l (l.map stripA) (goodD (l.map stripA)) v w hv hq ⟨l, hv, rfl⟩ (size_of hc) hc (fun u v h => sgaD _ v u h (size_of hc)) (fun u v h => igaD _ v u h (size_of hc))
  · exact big l v w hv hq hlen (by omega)


set_option maxRecDepth 100000 in
theorem lifted (os : Os) (started : os.Started) (H : Type) (enc : TypeId × Value → H) :
    ReturnsInHanded {} Try.checked os 4 .any (Rows.fnExactGoodAssetsSpec.pre6 enc Try.prog Try.f4 Rows.fnExactGoodAssetsRow.domain false) (Rows.fnExactGoodAssetsSpec.post enc Try.prog Try.f4 false true false false) := by
  refine returnsInHanded_of_change (C := Try.checked) own started (by kernel_rfl) Try.func4
    (ChangeSpec.witness6 (enc := enc) (C := Try.checked) false ⟨#[], #[.slice none 0 0], []⟩ 8 (by kernel_rfl) (by kernel_rfl) (by kernel_rfl) (by kernel_rfl)) ?_
  intro W base args ds gs before hval0 hW hcnd _
  have hval : ∀ (j : Nat) t v, Try.f4.params[j]? = some t → args[j]? = some v → Value.okWide Try.prog W .any base t v := hval0
  have hW' := hW
  obtain ⟨p, q, hA0, hV, rfl, hfz, hnd⟩ := hW
  have hA : DataW.TrodAll enc Try.prog W 0 (fun _ => true) true Try.f4.params.toList args.toList ds p := hA0
  rw [Try.params4] at hA hval
  obtain ⟨v0, vs0, d0, ds0, p0, q0, hargs, rfl, rfl, h0, r0⟩ := trodAll_cons hA
  obtain ⟨rfl, rfl, rfl⟩ := trodAll_nil r0
  obtain rfl : args = #[v0] := by cases args; simp_all
  obtain ⟨rfl, rfl⟩ := trodVars_none hV
  obtain ⟨l0, hv0, hq0, hl0⟩ := open_assetS (hval 0 41 v0 rfl rfl) h0
  clear hA0 hval0
  simp only [List.append_nil] at hW'
  refine (all l0 v0 hv0 hq0 hl0 W rfl).mono fun e W' ⟨he, hg⟩ => ?_
  subst he
  exact ⟨_, rfl, post_of_kept (pa := _) (pv := []) hW' (fun _ _ _ => (trodAll_cons_mk (shut_bool Try.underlying4 _) trodAll_mk0)) (fun sp hsp => (trodAll_cons_mk (kept_trod (by kernel_rfl) (of_decide_eq_true (by kernel_rfl)) h0 hg (fun x hx => hW'.lt x (by simp [hx])) (fun x hx => hsp x (by simp [hx]))) trodAll_mk0)) (fun _ _ => rfl) hg⟩

theorem over : Rows.fnExactGoodAssetsRow.holds Try.pinned (OpenSpec.ofChange Rows.fnExactGoodAssetsSpec) :=
  OpenClaim.holds_of_wide 4 Try.f4 rfl rfl rfl rfl rfl rfl rfl ⟨rfl, rfl, rfl, rfl, rfl⟩ rfl rfl rfl rfl rfl (by kernel_rfl) Try.func4 (by kernel_rfl)
    (of_decide_eq_true (by kernel_rfl)) (by unfold Func.isWrapper; first | (rw [if_pos (by decide +kernel)]; kernel_rfl) | (rw [if_neg (by decide +kernel)]; exact ⟨rfl, rfl⟩))
    (fun os started H enc _ => lifted os started H enc)

theorem proved : Rows.FnExactGoodAssetsSaid :=
  over
#print axioms proved
end Go.Proofs.Ytmoaihhllfkmiaa.fnExactGoodAssets
