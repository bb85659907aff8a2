/-
  At every list of assets the program's MakeOrder answers what the specification's MakeOrder answers, writes into no argument and keeps nothing of one; its answer owns its memory.
-/
import Derived.Test.YtmoaihhllfkmiaaRows
import Derived.Test.YtmoaihhllfkmiaaAssetF
import Derived.Test.YtmoaihhllfkmiaaAssetO
import Derived.Test.YtmoaihhllfkmiaaAMk21
import Derived.ChangeMaps
namespace Go.Proofs.Ytmoaihhllfkmiaa.fnExactMakeOrder
open Go.ChangeShapes Go.WideShapes Go.ChangeAt Go.RowKit
set_option linter.unusedVariables false

theorem own : ownKnob Try.prog.godebug = none := by kernel_rfl


theorem size_of {l : List AssetE} (h : assetCost l ≤ 1048576) : DSz (l.map stripA) := by
  have h9 := h
  unfold assetCost at h
  refine ⟨by rw [List.length_map]; omega, fun d hd => ?_⟩
  obtain ⟨p, hp, rfl⟩ := List.mem_map.1 hd
  obtain ⟨j, hj⟩ := List.mem_iff_getElem?.1 hp
  have h1 := assetSum_le hj
  unfold assetOne at h1
  refine ⟨by show p.1.size ≤ _; omega, by show p.2.1.2.length ≤ _; unfold txtCost at h1; omega, fun q hq => ?_, by show p.2.2.2.length ≤ _; omega⟩
  obtain ⟨i, hi⟩ := List.mem_iff_getElem?.1 hq
  have h2 : q.size ≤ txtSum p.2.1.2 := txtSum_le hi
  unfold txtCost at h1
  omega
theorem dMk_cost (l : List AssetE) : dMk (l.map stripA) ≤ assetCost l := by
  rw [← aMk_strip]
  unfold aMk assetCost assetSum
  induction l with
  | nil => simp
  | cons d ds ih =>
    simp only [List.map_cons, List.sum_cons, List.length_cons] at ih ⊢
    have : d.2.1.2.length + d.2.2.2.length ≤ assetOne d := by unfold assetOne txtCost; omega
    omega
theorem ordD_len (ds : List AssetD) : (ordD ds).length ≤ ds.length := by
  unfold ordD
  split
  · have := ord_len (mkA ds) (mkA ds).length
    rw [show (mkA ds).length = ds.length by simp [mkA]] at this
    unfold ordL
    rw [show (mkA ds).length = ds.length by simp [mkA]]
    exact this
  · simp
set_option maxRecDepth 100000 in
set_option maxHeartbeats 8000000 in
theorem walk (l : List AssetE) (ds : List AssetD) (J : Bool) (R : List TxtD) (v : Value) (w : World) (hvp : AssetAt w v l) (hf : AssetFit l) (hv : AssetsAt w v ds) (hz : DSz ds) (hl : assetCost l ≤ 1048576) (hm2 : dMk ds ≤ 1048576) (hR : R.length ≤ 1048576)
    (hS : ∀ (u : World) (v : Value), AssetsAt u v ds → Calls Try.prog 11 #[v] u fun e u' => ∃ v', e = .returned (.tuple #[v', .bool J]) ∧ TxtO u' u.heap.size u'.heap.size v' R ∧ Kept u u')
    (hI : ∀ (u : World) (v : Value), AssetsAt u v ds → Calls Try.prog 10 #[v] u fun e u' => ∃ v', e = .returned (.tuple #[v', .bool J]) ∧ TxtO u' u.heap.size u'.heap.size v' R ∧ Kept u u') :
    Calls Try.prog 5 #[v] w fun e w' => e = .returned (.bool true) ∧ Kept w w' := by
  have hn : l.length ≤ 1048576 := by unfold assetCost at hl; omega
  have hd1 : decide ((1048576 : Int) - (assetCost l : Int) < 0) = false := by simp; omega
  obtain ⟨qa, hHA⟩ : ∃ q : Nat, 1 + dMk ds = q := ⟨_, rfl⟩
  have HA : Hid (1 + dMk ds = qa) := hHA
  have bHA : qa ≤ 200000000 := by omega
  have dHA : decide ((qa : Int) < 0) = false := by simp
  clear hHA
  obtain ⟨qd, hHD⟩ : ∃ q : Nat, 1 + R.length = q := ⟨_, rfl⟩
  have HD : Hid (1 + R.length = qd) := hHD
  have bHD : qd ≤ 200000000 := by omega
  have dHD : decide ((qd : Int) < 0) = false := by simp
  clear hHD
  obtain ⟨ao, cap, hfm⟩ := hv.form
  subst hfm
  have HS : Hid _ := hS
  have HI : Hid _ := hI
  clear hS hI
  go_enter Try.func5, Try.ntmps5
  repeat (first | go_values | go_skip | go_guarded | go_step | go_upon)
  go_at_call 16
  refine (szAssetS l _ _ _ hvp (by omega) (by omega) (by omega) hf).mono ?_
  rintro e u1 ⟨rfl, k1⟩
  rw [leftOf_yes (by omega)]
  have K1 := k1
  have s1 := k1.size
  clear k1
  dsimp only
  repeat (first | go_values | go_skip | go_guarded | go_step | go_upon)
  go_at_call 18
  refine (toAssets ds _ _ (hv.kept K1) hz).mono ?_
  rintro e u2 ⟨v2, rfl, t1, k2⟩
  have K2 := K1.trans k2
  have s2 := k2.size
  clear k2 K1
  obtain ⟨ao2, cap2, hfm⟩ := t1.form
  subst hfm
  dsimp only
  repeat (first | go_values | go_skip | go_guarded | go_step | go_upon)
  go_at_call 11
  refine (HS.out _ _ t1.at).mono ?_
  rintro e u3 ⟨v3, rfl, ow, k3⟩
  have K3 := K2.trans k3
  have t1 := t1.kept k3
  have s3 := k3.size
  clear k3 K2
  obtain ⟨ao3, cap3, hfm⟩ := ow.form
  subst hfm
  clear t1
  dsimp only
  repeat (first | go_values | go_skip | go_guarded | go_step | go_upon)
  go_at_call 18
  refine (toAssets ds _ _ (hv.kept K3) hz).mono ?_
  rintro e u4 ⟨v4, rfl, x0, k4⟩
  have K4 := K3.trans k4
  have ow := ow.kept k4
  have s4 := k4.size
  clear k4 K3
  obtain ⟨ao4, cap4, hfm⟩ := x0.form
  subst hfm
  dsimp only
  repeat (first | go_values | go_skip | go_guarded | go_step | go_upon)
  go_at_call 10
  refine (HI.out _ _ x0.at).mono ?_
  rintro e u5 ⟨v5, rfl, og, k5⟩
  have K5 := K4.trans k5
  have ow := ow.kept k5
  have x0 := x0.kept k5
  have s5 := k5.size
  clear k5 K4
  obtain ⟨ao5, cap5, hfm⟩ := og.form
  subst hfm
  dsimp only
  repeat (first | go_values | go_skip | go_guarded | go_step | go_upon)
  go_at_call 21
  refine (eqTxtS R _ _ _ og.at ow.at (by omega)).mono ?_
  rintro e u6 ⟨rfl, k6⟩
  have K6 := K5.trans k6
  have ow := ow.kept k6
  have x0 := x0.kept k6
  have og := og.kept k6
  have s6 := k6.size
  clear k6 K5
  dsimp only
  repeat (first | go_values | go_skip | go_guarded | go_step | go_upon)
  go_at_call 18
  refine (toAssets ds _ _ (hv.kept K6) hz).mono ?_
  rintro e u7 ⟨v7, rfl, y0, k7⟩
  have K7 := K6.trans k7
  have ow := ow.kept k7
  have x0 := x0.kept k7
  have og := og.kept k7
  have s7 := k7.size
  clear k7 K6
  obtain ⟨ao7, cap7, hfm⟩ := y0.form
  subst hfm
  dsimp only
  repeat (first | go_values | go_skip | go_guarded | go_step | go_upon)
  go_at_call 20
  refine (eqAssets ds _ _ _ x0.at y0.at hz).mono ?_
  rintro e u8 ⟨rfl, k8⟩
  have K8 := K7.trans k8
  have ow := ow.kept k8
  have x0 := x0.kept k8
  have og := og.kept k8
  have y0 := y0.kept k8
  have s8 := k8.size
  clear k8 K7
  clear y0
  dsimp only
  repeat (first | go_values | go_skip | go_guarded | go_step | go_upon)
  go_at_call 22
  refine (markAssets ds _ 1 u3.heap.size u4.heap.size _ x0 (by omega)).mono ?_
  rintro e u9 ⟨rfl, -, b9⟩
  rw [HA.out]
  have k9 := b9
  have K9 := K8.onto k9 (by omega)
  have ow := ow.but k9 (by omega)
  have og := og.but k9 (by omega)
  have s9 := k9.size
  clear b9 k9 K8 x0
  dsimp only
  repeat (first | go_values | go_skip | go_guarded | go_step | go_upon)
  go_at_call 21
  refine (eqTxtS R _ _ _ og.at ow.at (by omega)).mono ?_
  rintro e u10 ⟨rfl, k10⟩
  have K10 := K9.trans k10
  have ow := ow.kept k10
  have og := og.kept k10
  have s10 := k10.size
  clear k10 K9
  dsimp only
  repeat (first | go_values | go_skip | go_guarded | go_step | go_upon)
  go_at_call 23
  refine (markTxtS R _ 1 u4.heap.size u5.heap.size _ og (by omega)).mono ?_
  rintro e u11 ⟨rfl, og2, b11⟩
  rw [HD.out]
  have k11 := b11.inner og
  have K11 := K10.onto k11 (by omega)
  have ow := ow.but k11 (by omega)
  have s11 := k11.size
  clear b11 k11 K10 og
  dsimp only
  repeat (first | go_values | go_skip | go_guarded | go_step | go_upon)
  go_at_call 24
  refine (heldTxtS R.length _ 1 _ og2.at (by omega)).mono ?_
  rintro e u12 ⟨rfl, k12⟩
  rw [HD.out]
  have K12 := K11.trans k12
  have ow := ow.kept k12
  have og2 := og2.kept k12
  have s12 := k12.size
  clear k12 K11
  dsimp only
  repeat (first | go_values | go_skip | go_guarded | go_step | go_upon)
  go_at_call 18
  refine (toAssets ds _ _ (hv.kept K12) hz).mono ?_
  rintro e u13 ⟨v13, rfl, z0, k13⟩
  have K13 := K12.trans k13
  have ow := ow.kept k13
  have og2 := og2.kept k13
  have s13 := k13.size
  clear k13 K12
  obtain ⟨ao13, cap13, hfm⟩ := z0.form
  subst hfm
  dsimp only
  repeat (first | go_values | go_skip | go_guarded | go_step | go_upon)
  go_at_call 10
  refine (HI.out _ _ z0.at).mono ?_
  rintro e u14 ⟨v14, rfl, oh, k14⟩
  have K14 := K13.trans k14
  have ow := ow.kept k14
  have og2 := og2.kept k14
  have z0 := z0.kept k14
  have s14 := k14.size
  clear k14 K13
  obtain ⟨ao14, cap14, hfm⟩ := oh.form
  subst hfm
  clear z0
  dsimp only
  repeat (first | go_values | go_skip | go_guarded | go_step | go_upon)
  go_at_call 21
  refine (eqTxtS R _ _ _ oh.at ow.at (by omega)).mono ?_
  rintro e u15 ⟨rfl, k15⟩
  have K15 := K14.trans k15
  have ow := ow.kept k15
  have og2 := og2.kept k15
  have oh := oh.kept k15
  have s15 := k15.size
  clear k15 K14
  clear oh ow
  dsimp only
  repeat (first | go_values | go_skip | go_guarded | go_step | go_upon)
  go_at_call 24
  refine (heldTxtS R.length _ 1 _ og2.at (by omega)).mono ?_
  rintro e u16 ⟨rfl, k16⟩
  rw [HD.out]
  have K16 := K15.trans k16
  have og2 := og2.kept k16
  have s16 := k16.size
  clear k16 K15
  dsimp only
  repeat (first | go_values | go_skip | go_guarded | go_step | go_upon)
  go_ret
  exact ⟨rfl, K16⟩
set_option maxRecDepth 100000 in
set_option maxHeartbeats 8000000 in
theorem big (l : List AssetE) (v : Value) (w : World) (hv : AssetAt w v l) (hq : AssetFit l) (hlen : l.length ≤ maxLen) (hc : 1048576 < assetCost l) :
    Calls Try.prog 5 #[v] w fun e w' => e = .returned (.bool true) ∧ Kept w w' := by
  unfold maxLen at hlen
  obtain ⟨ao, cap, hfm⟩ := row_nil hv.1
  subst hfm
  go_enter Try.func5, Try.ntmps5
  repeat (first | go_values | go_skip | go_guarded | go_step | go_upon)
  go_at_call 16
  refine (szAssetS l _ _ _ hv (by omega) (by omega) (by omega) hq).mono ?_
  rintro e u1 ⟨rfl, k1⟩
  rw [leftOf_no (by omega)]
  dsimp only
  repeat (first | go_values | go_skip | go_guarded | go_step | go_upon)
  go_ret
  exact ⟨rfl, k1⟩
theorem all (l : List AssetE) (v : Value) {w : World} (hv : AssetAt w v l) (hq : AssetFit l) (hlen : l.length ≤ maxLen) (w' : World) (_ : w' = w) :
    Calls Try.prog 5 #[v] w fun e w' => e = .returned (.bool true) ∧ Kept w w' := by
  by_cases hc : assetCost l ≤ 1048576
  · exact walk l (l.map stripA) (goodD (l.map stripA)) (ordD (l.map stripA)) v w hv hq ⟨l, hv, rfl⟩ (size_of hc) hc (Nat.le_trans (dMk_cost l) hc) (Nat.le_trans (ordD_len _) (size_of hc).1) (fun u v h => smoD _ v u h (size_of hc)) (fun u v h => imoD _ v u h (size_of hc))
  · exact big l v w hv hq hlen (by omega)


set_option maxRecDepth 100000 in
theorem lifted (os : Os) (started : os.Started) (H : Type) (enc : TypeId × Value → H) :
    ReturnsInHanded {} Try.checked os 5 .any (Rows.fnExactMakeOrderSpec.pre6 enc Try.prog Try.f5 Rows.fnExactMakeOrderRow.domain false) (Rows.fnExactMakeOrderSpec.post enc Try.prog Try.f5 false true false false) := by
  refine returnsInHanded_of_change (C := Try.checked) own started (by kernel_rfl) Try.func5
    (ChangeSpec.witness6 (enc := enc) (C := Try.checked) false ⟨#[], #[.slice none 0 0], []⟩ 8 (by kernel_rfl) (by kernel_rfl) (by kernel_rfl) (by kernel_rfl)) ?_
  intro W base args ds gs before hval0 hW hcnd _
  have hval : ∀ (j : Nat) t v, Try.f5.params[j]? = some t → args[j]? = some v → Value.okWide Try.prog W .any base t v := hval0
  have hW' := hW
  obtain ⟨p, q, hA0, hV, rfl, hfz, hnd⟩ := hW
  have hA : DataW.TrodAll enc Try.prog W 0 (fun _ => true) true Try.f5.params.toList args.toList ds p := hA0
  rw [Try.params5] at hA hval
  obtain ⟨v0, vs0, d0, ds0, p0, q0, hargs, rfl, rfl, h0, r0⟩ := trodAll_cons hA
  obtain ⟨rfl, rfl, rfl⟩ := trodAll_nil r0
  obtain rfl : args = #[v0] := by cases args; simp_all
  obtain ⟨rfl, rfl⟩ := trodVars_none hV
  obtain ⟨l0, hv0, hq0, hl0⟩ := open_assetS (hval 0 41 v0 rfl rfl) h0
  clear hA0 hval0
  simp only [List.append_nil] at hW'
  refine (all l0 v0 hv0 hq0 hl0 W rfl).mono fun e W' ⟨he, hg⟩ => ?_
  subst he
  exact ⟨_, rfl, post_of_kept (pa := _) (pv := []) hW' (fun _ _ _ => (trodAll_cons_mk (shut_bool Try.underlying4 _) trodAll_mk0)) (fun sp hsp => (trodAll_cons_mk (kept_trod (by kernel_rfl) (of_decide_eq_true (by kernel_rfl)) h0 hg (fun x hx => hW'.lt x (by simp [hx])) (fun x hx => hsp x (by simp [hx]))) trodAll_mk0)) (fun _ _ => rfl) hg⟩

theorem over : Rows.fnExactMakeOrderRow.holds Try.pinned (OpenSpec.ofChange Rows.fnExactMakeOrderSpec) :=
  OpenClaim.holds_of_wide 5 Try.f5 rfl rfl rfl rfl rfl rfl rfl ⟨rfl, rfl, rfl, rfl, rfl⟩ rfl rfl rfl rfl rfl (by kernel_rfl) Try.func5 (by kernel_rfl)
    (of_decide_eq_true (by kernel_rfl)) (by unfold Func.isWrapper; first | (rw [if_pos (by decide +kernel)]; kernel_rfl) | (rw [if_neg (by decide +kernel)]; exact ⟨rfl, rfl⟩))
    (fun os started H enc _ => lifted os started H enc)

theorem proved : Rows.FnExactMakeOrderSaid :=
  over
#print axioms proved
end Go.Proofs.Ytmoaihhllfkmiaa.fnExactMakeOrder
