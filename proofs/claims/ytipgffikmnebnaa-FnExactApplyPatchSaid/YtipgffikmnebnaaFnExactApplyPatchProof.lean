/-
  At all bytes and chunks the program's ApplyPatch answers what the specification's ApplyPatch answers, writes into no argument and keeps nothing of one; its answer owns its memory.
-/
import Derived.Test.YtipgffikmnebnaaRows
import Derived.Test.YtipgffikmnebnaaChunksO
import Derived.Test.YtipgffikmnebnaaCMk21
import Derived.Test.YtipgffikmnebnaaBytM
import Derived.Test.YtipgffikmnebnaaSApply21
import Derived.Test.YtipgffikmnebnaaIApply21
import Derived.ChangeMaps
namespace Go.Proofs.Ytipgffikmnebnaa.fnExactApplyPatch
open Go.ChangeShapes Go.WideShapes Go.ChangeAt Go.RowKit
set_option linter.unusedVariables false

theorem own : ownKnob Try.prog.godebug = none := by kernel_rfl


def ChunksMA (w : World) (v : Value) (k : Nat) (ds : List ChunkD) : Prop := ∃ ts, ChunkAt w v (mkE k ts) ∧ ts.map stripChunk = ds
theorem ChunksM.at {w : World} {lo hi : Nat} {v : Value} {k : Nat} {ds : List ChunkD} (h : ChunksM w lo hi v k ds) : ChunksMA w v k ds := by obtain ⟨ts, h, e⟩ := h; exact ⟨ts, h.at, e⟩
theorem heldChunksA (ds : List ChunkD) (v : Value) (k : Nat) (w : World) (hv : ChunksMA w v k ds) (hb : k + dMk ds ≤ 300000000) :
    Calls Try.prog 53 #[v, .int .i64 (k : Int)] w fun e w' => e = .returned (.int .i64 ((k + dMk ds : Nat) : Int)) ∧ Kept w w' := by
  obtain ⟨ts, h, e⟩ := hv
  have hm := cMk_strip ts
  rw [e] at hm
  have hl : ts.length ≤ cMk ts := by
    clear h hm e
    induction ts with
    | nil => simp
    | cons a t ih => unfold cMk at ih ⊢; simp only [List.map_cons, List.sum_cons, List.length_cons]; omega
  have := heldCs ts v k w h (by omega) (by omega)
  rw [hm] at this
  exact this
set_option maxRecDepth 100000 in
set_option maxHeartbeats 8000000 in
theorem walk (l : List BytD) (m : List ChunkD) (R : List BytD) (jb : Bool) (v v2 : Value) (w : World) (hv : BytAt w v l) (hv2 : ChunksAt w v2 m) (hf2 : ChunksFit m) (hl : l.length ≤ 1048576) (hm : chunksCost m ≤ 1048576) (hR : R.length ≤ 100000000)
    (hS : ∀ (u : World) (lo hi : Nat) (v v2 : Value), BytO u lo hi v l → ChunksAt u v2 m → Calls Try.prog 55 #[v, v2] u fun e u' => ∃ v', e = .returned (.tuple #[v', .bool jb]) ∧ BytO u' u.heap.size u'.heap.size v' R ∧ Kept u u')
    (hI : ∀ (u : World) (lo hi : Nat) (v v2 : Value), BytO u lo hi v l → ChunksAt u v2 m → Calls Try.prog 24 #[v, v2] u fun e u' => ∃ v', e = .returned (.tuple #[v', .bool jb]) ∧ BytO u' u.heap.size u'.heap.size v' R ∧ Kept u u') :
    Calls Try.prog 13 #[v, v2] w fun e w' => e = .returned (.bool true) ∧ Kept w w' := by
  have hn2 : m.length ≤ 1048576 := by unfold chunksCost at hm; omega
  have hm2 := dMk_cost m
  have hd0 : decide (1048576 < (l.length : Int)) = false := decide_eq_false (by omega)
  have hd1 : decide ((1048576 : Int) - (chunksCost m : Int) < 0) = false := by simp; omega
  obtain ⟨qa, hHA⟩ : ∃ q : Nat, 1 + l.length = q := ⟨_, rfl⟩
  have HA : Hid (1 + l.length = qa) := hHA
  have bHA : qa ≤ 200000000 := by omega
  have dHA : decide ((qa : Int) < 0) = false := by simp
  clear hHA
  obtain ⟨qb, hHB⟩ : ∃ q : Nat, qa + dMk m = q := ⟨_, rfl⟩
  have HB : Hid (qa + dMk m = qb) := hHB
  have bHB : qb ≤ 300000000 := by omega
  have dHB : decide ((qb : Int) < 0) = false := by simp
  clear hHB
  obtain ⟨qd, hHD⟩ : ∃ q : Nat, 1 + R.length = q := ⟨_, rfl⟩
  have HD : Hid (1 + R.length = qd) := hHD
  have bHD : qd ≤ 200000000 := by omega
  have dHD : decide ((qd : Int) < 0) = false := by simp
  clear hHD
  obtain ⟨ao, cap, hfm⟩ := row_nil hv
  subst hfm
  obtain ⟨ap, caq, hfm⟩ := hv2.form
  subst hfm
  have HS : Hid _ := hS
  have HI : Hid _ := hI
  clear hS hI
  go_enter Try.func13, Try.ntmps13
  repeat (first | go_values | go_skip | go_guarded | go_step | go_upon)
  go_at_call 54
  refine (szChunks m _ _ _ hv2 (by omega) (by omega) (by omega) hf2).mono ?_
  rintro e u1 ⟨rfl, k1⟩
  rw [leftOf_yes (by omega)]
  have K1 := k1
  have s1 := k1.size
  clear k1
  dsimp only
  repeat (first | go_values | go_skip | go_guarded | go_step | go_upon)
  go_at_call 48
  refine (toBytS l _ _ (hv.kept K1) hl).mono ?_
  rintro e u2 ⟨v2, rfl, t1, k2⟩
  have K2 := K1.trans k2
  have s2 := k2.size
  clear k2 K1
  obtain ⟨ao2, cap2, hfm⟩ := t1.form
  subst hfm
  dsimp only
  repeat (first | go_values | go_skip | go_guarded | go_step | go_upon)
  go_at_call 56
  refine (toChunks m _ _ (hv2.kept K2) hm).mono ?_
  rintro e u3 ⟨v3, rfl, t2, k3⟩
  have K3 := K2.trans k3
  have t1 := t1.kept k3
  have s3 := k3.size
  clear k3 K2
  obtain ⟨ao3, cap3, hfm⟩ := t2.form
  subst hfm
  dsimp only
  repeat (first | go_values | go_skip | go_guarded | go_step | go_upon)
  go_at_call 55
  refine (HS.out _ _ _ _ _ t1 t2.at).mono ?_
  rintro e u4 ⟨v4, rfl, ow, k4⟩
  have K4 := K3.trans k4
  have t1 := t1.kept k4
  have t2 := t2.kept k4
  have s4 := k4.size
  clear k4 K3
  obtain ⟨ao4, cap4, hfm⟩ := ow.form
  subst hfm
  clear t1 t2
  dsimp only
  repeat (first | go_values | go_skip | go_guarded | go_step | go_upon)
  go_at_call 48
  refine (toBytS l _ _ (hv.kept K4) hl).mono ?_
  rintro e u5 ⟨v5, rfl, x0, k5⟩
  have K5 := K4.trans k5
  have ow := ow.kept k5
  have s5 := k5.size
  clear k5 K4
  obtain ⟨ao5, cap5, hfm⟩ := x0.form
  subst hfm
  dsimp only
  repeat (first | go_values | go_skip | go_guarded | go_step | go_upon)
  go_at_call 56
  refine (toChunks m _ _ (hv2.kept K5) hm).mono ?_
  rintro e u6 ⟨v6, rfl, x1, k6⟩
  have K6 := K5.trans k6
  have ow := ow.kept k6
  have x0 := x0.kept k6
  have s6 := k6.size
  clear k6 K5
  obtain ⟨ao6, cap6, hfm⟩ := x1.form
  subst hfm
  dsimp only
  repeat (first | go_values | go_skip | go_guarded | go_step | go_upon)
  go_at_call 24
  refine (HI.out _ _ _ _ _ x0 x1.at).mono ?_
  rintro e u7 ⟨v7, rfl, og, k7⟩
  have K7 := K6.trans k7
  have ow := ow.kept k7
  have x0 := x0.kept k7
  have x1 := x1.kept k7
  have s7 := k7.size
  clear k7 K6
  obtain ⟨ao7, cap7, hfm⟩ := og.form
  subst hfm
  dsimp only
  repeat (first | go_values | go_skip | go_guarded | go_step | go_upon)
  go_at_call 50
  refine (eqBytS R _ _ _ og.at ow.at (by omega)).mono ?_
  rintro e u8 ⟨rfl, k8⟩
  have K8 := K7.trans k8
  have ow := ow.kept k8
  have x0 := x0.kept k8
  have x1 := x1.kept k8
  have og := og.kept k8
  have s8 := k8.size
  clear k8 K7
  dsimp only
  repeat (first | go_values | go_skip | go_guarded | go_step | go_upon)
  go_at_call 48
  refine (toBytS l _ _ (hv.kept K8) hl).mono ?_
  rintro e u9 ⟨v9, rfl, y0, k9⟩
  have K9 := K8.trans k9
  have ow := ow.kept k9
  have x0 := x0.kept k9
  have x1 := x1.kept k9
  have og := og.kept k9
  have s9 := k9.size
  clear k9 K8
  obtain ⟨ao9, cap9, hfm⟩ := y0.form
  subst hfm
  dsimp only
  repeat (first | go_values | go_skip | go_guarded | go_step | go_upon)
  go_at_call 50
  refine (eqBytS l _ _ _ x0.at y0.at (by omega)).mono ?_
  rintro e u10 ⟨rfl, k10⟩
  have K10 := K9.trans k10
  have ow := ow.kept k10
  have x0 := x0.kept k10
  have x1 := x1.kept k10
  have og := og.kept k10
  have y0 := y0.kept k10
  have s10 := k10.size
  clear k10 K9
  clear y0
  dsimp only
  repeat (first | go_values | go_skip | go_guarded | go_step | go_upon)
  go_at_call 56
  refine (toChunks m _ _ (hv2.kept K10) hm).mono ?_
  rintro e u11 ⟨v11, rfl, y1, k11⟩
  have K11 := K10.trans k11
  have ow := ow.kept k11
  have x0 := x0.kept k11
  have x1 := x1.kept k11
  have og := og.kept k11
  have s11 := k11.size
  clear k11 K10
  obtain ⟨ao11, cap11, hfm⟩ := y1.form
  subst hfm
  dsimp only
  repeat (first | go_values | go_skip | go_guarded | go_step | go_upon)
  go_at_call 49
  refine (eqChunks m _ _ _ x1.at y1.at (by omega)).mono ?_
  rintro e u12 ⟨rfl, k12⟩
  have K12 := K11.trans k12
  have ow := ow.kept k12
  have x0 := x0.kept k12
  have x1 := x1.kept k12
  have og := og.kept k12
  have y1 := y1.kept k12
  have s12 := k12.size
  clear k12 K11
  clear y1
  dsimp only
  repeat (first | go_values | go_skip | go_guarded | go_step | go_upon)
  go_at_call 51
  refine (markBytS l _ 1 u4.heap.size u5.heap.size _ x0 (by omega)).mono ?_
  rintro e u13 ⟨rfl, -, b13⟩
  rw [HA.out]
  have k13 := b13.inner x0
  have K13 := K12.onto k13 (by omega)
  have ow := ow.but k13 (by omega)
  have x1 := x1.but k13 (by omega)
  have og := og.but k13 (by omega)
  have s13 := k13.size
  clear b13 k13 K12 x0
  dsimp only
  repeat (first | go_values | go_skip | go_guarded | go_step | go_upon)
  go_at_call 52
  refine (markChunks m _ qa u5.heap.size u6.heap.size _ x1 (by omega)).mono ?_
  rintro e u14 ⟨rfl, -, b14⟩
  rw [HB.out]
  have k14 := b14
  have K14 := K13.onto k14 (by omega)
  have ow := ow.but k14 (by omega)
  have og := og.but k14 (by omega)
  have s14 := k14.size
  clear b14 k14 K13 x1
  dsimp only
  repeat (first | go_values | go_skip | go_guarded | go_step | go_upon)
  go_at_call 50
  refine (eqBytS R _ _ _ og.at ow.at (by omega)).mono ?_
  rintro e u15 ⟨rfl, k15⟩
  have K15 := K14.trans k15
  have ow := ow.kept k15
  have og := og.kept k15
  have s15 := k15.size
  clear k15 K14
  dsimp only
  repeat (first | go_values | go_skip | go_guarded | go_step | go_upon)
  go_at_call 51
  refine (markBytS R _ 1 u6.heap.size u7.heap.size _ og (by omega)).mono ?_
  rintro e u16 ⟨rfl, og2, b16⟩
  rw [HD.out]
  have k16 := b16.inner og
  have K16 := K15.onto k16 (by omega)
  have ow := ow.but k16 (by omega)
  have s16 := k16.size
  clear b16 k16 K15 og
  dsimp only
  repeat (first | go_values | go_skip | go_guarded | go_step | go_upon)
  go_at_call 57
  refine (heldBytS R.length _ 1 _ og2.at (by omega)).mono ?_
  rintro e u17 ⟨rfl, k17⟩
  rw [HD.out]
  have K17 := K16.trans k17
  have ow := ow.kept k17
  have og2 := og2.kept k17
  have s17 := k17.size
  clear k17 K16
  dsimp only
  repeat (first | go_values | go_skip | go_guarded | go_step | go_upon)
  go_at_call 48
  refine (toBytS l _ _ (hv.kept K17) hl).mono ?_
  rintro e u18 ⟨v18, rfl, z0, k18⟩
  have K18 := K17.trans k18
  have ow := ow.kept k18
  have og2 := og2.kept k18
  have s18 := k18.size
  clear k18 K17
  obtain ⟨ao18, cap18, hfm⟩ := z0.form
  subst hfm
  dsimp only
  repeat (first | go_values | go_skip | go_guarded | go_step | go_upon)
  go_at_call 56
  refine (toChunks m _ _ (hv2.kept K18) hm).mono ?_
  rintro e u19 ⟨v19, rfl, z1, k19⟩
  have K19 := K18.trans k19
  have ow := ow.kept k19
  have og2 := og2.kept k19
  have z0 := z0.kept k19
  have s19 := k19.size
  clear k19 K18
  obtain ⟨ao19, cap19, hfm⟩ := z1.form
  subst hfm
  dsimp only
  repeat (first | go_values | go_skip | go_guarded | go_step | go_upon)
  go_at_call 24
  refine (HI.out _ _ _ _ _ z0 z1.at).mono ?_
  rintro e u20 ⟨v20, rfl, oh, k20⟩
  have K20 := K19.trans k20
  have ow := ow.kept k20
  have og2 := og2.kept k20
  have z0 := z0.kept k20
  have z1 := z1.kept k20
  have s20 := k20.size
  clear k20 K19
  obtain ⟨ao20, cap20, hfm⟩ := oh.form
  subst hfm
  clear z0 z1
  dsimp only
  repeat (first | go_values | go_skip | go_guarded | go_step | go_upon)
  go_at_call 50
  refine (eqBytS R _ _ _ oh.at ow.at (by omega)).mono ?_
  rintro e u21 ⟨rfl, k21⟩
  have K21 := K20.trans k21
  have ow := ow.kept k21
  have og2 := og2.kept k21
  have oh := oh.kept k21
  have s21 := k21.size
  clear k21 K20
  clear oh ow
  dsimp only
  repeat (first | go_values | go_skip | go_guarded | go_step | go_upon)
  go_at_call 57
  refine (heldBytS R.length _ 1 _ og2.at (by omega)).mono ?_
  rintro e u22 ⟨rfl, k22⟩
  rw [HD.out]
  have K22 := K21.trans k22
  have og2 := og2.kept k22
  have s22 := k22.size
  clear k22 K21
  dsimp only
  repeat (first | go_values | go_skip | go_guarded | go_step | go_upon)
  go_ret
  exact ⟨rfl, K22⟩
set_option maxRecDepth 100000 in
set_option maxHeartbeats 8000000 in
theorem big1 (l : List BytD) (m : List ChunkD) (v v2 : Value) (w : World) (hv : BytAt w v l) (hv2 : ChunksAt w v2 m) (hf2 : ChunksFit m) (hlen : l.length ≤ maxLen) (hl : 1048576 < l.length) :
    Calls Try.prog 13 #[v, v2] w fun e w' => e = .returned (.bool true) ∧ Kept w w' := by
  unfold maxLen at hlen
  have hd0 : decide (1048576 < (l.length : Int)) = true := decide_eq_true (by omega)
  obtain ⟨ao, cap, hfm⟩ := row_nil hv
  subst hfm
  obtain ⟨ap, caq, hfm⟩ := hv2.form
  subst hfm
  go_enter Try.func13, Try.ntmps13
  repeat (first | go_values | go_skip | go_guarded | go_step | go_upon)
  go_ret
  exact ⟨rfl, But.refl _ _ _⟩
set_option maxRecDepth 100000 in
set_option maxHeartbeats 8000000 in
theorem big2 (l : List BytD) (m : List ChunkD) (v v2 : Value) (w : World) (hv : BytAt w v l) (hv2 : ChunksAt w v2 m) (hf2 : ChunksFit m) (hlen : l.length ≤ maxLen) (hlen2 : m.length ≤ maxLen) (hl : l.length ≤ 1048576) (hc : 1048576 < chunksCost m) :
    Calls Try.prog 13 #[v, v2] w fun e w' => e = .returned (.bool true) ∧ Kept w w' := by
  unfold maxLen at hlen hlen2
  have hd0 : decide (1048576 < (l.length : Int)) = false := decide_eq_false (by omega)
  obtain ⟨ao, cap, hfm⟩ := row_nil hv
  subst hfm
  obtain ⟨ap, caq, hfm⟩ := hv2.form
  subst hfm
  go_enter Try.func13, Try.ntmps13
  repeat (first | go_values | go_skip | go_guarded | go_step | go_upon)
  go_at_call 54
  refine (szChunks m _ _ _ hv2 (by omega) (by omega) (by omega) hf2).mono ?_
  rintro e u1 ⟨rfl, k1⟩
  rw [leftOf_no (by omega)]
  dsimp only
  repeat (first | go_values | go_skip | go_guarded | go_step | go_upon)
  go_ret
  exact ⟨rfl, k1⟩
theorem applyL_len {old : List UInt8} : ∀ (cs : List ChunkD) (acc r : List UInt8), acc.length ≤ 400 → applyL old acc cs = some r → r.length ≤ 400
  | [], acc, r, ha, h => by cases h; exact ha
  | c :: cs, acc, r, ha, h => by
    unfold applyL at h
    split at h
    · cases h
    · split at h
      · exact applyL_len cs _ r (by rw [List.length_append]; assumption) h
      · cases h
theorem apply_len {old : List UInt8} {cs : List ChunkD} {r : List UInt8} (h : applyA old cs = some r) : r.length ≤ 400 := by
  unfold applyA at h
  split at h
  · exact applyL_len cs [] r (by simp) h
  · cases h
theorem all (l : List BytD) (v : Value) {w : World} (hv : BytAt w v l) (_ : ∀ p ∈ l, True) (hlen : l.length ≤ maxLen) (m : List ChunkD) (v2 : Value) (hv2 : ChunksAt w v2 m) (hf2 : ChunksFit m) (hlen2 : m.length ≤ maxLen ∧ ∀ p ∈ m, -9223372036854775808 ≤ p.1 ∧ p.1 ≤ 9223372036854775807) (w' : World) (_ : w' = w) :
    Calls Try.prog 13 #[v, v2] w fun e w' => e = .returned (.bool true) ∧ Kept w w' := by
  by_cases hl : l.length ≤ 1048576
  · by_cases hc : chunksCost m ≤ 1048576
    · refine walk l m ((applyA l m).getD []) (applyA l m).isSome v v2 w hv hv2 hf2 hl hc ?_ (fun u lo hi v v2 h1 h2 => ?_) (fun u lo hi v v2 h1 h2 => ?_)
      · cases h : applyA l m with
        | none => simp
        | some r => have := apply_len h; simp; omega
      · obtain ⟨ao, co, rfl⟩ := h1.form
        exact sapply l m ao co v2 u h1.at (cap_byt h1) h2 hl hc hlen2.2
      · obtain ⟨ao, co, rfl⟩ := h1.form
        exact iapply l m ao co v2 u h1.at (cap_byt h1) h2 hl hc hlen2.2
    · exact big2 l m v v2 w hv hv2 hf2 hlen hlen2.1 hl (by omega)
  · exact big1 l m v v2 w hv hv2 hf2 hlen (by omega)


set_option maxRecDepth 100000 in
theorem lifted (os : Os) (started : os.Started) (H : Type) (enc : TypeId × Value → H) :
    ReturnsInHanded {} Try.checked os 13 .any (Rows.fnExactApplyPatchSpec.pre6 enc Try.prog Try.f13 Rows.fnExactApplyPatchRow.domain false) (Rows.fnExactApplyPatchSpec.post enc Try.prog Try.f13 false true false false) := by
  refine returnsInHanded_of_change (C := Try.checked) own started (by kernel_rfl) Try.func13
    (ChangeSpec.witness6 (enc := enc) (C := Try.checked) false ⟨#[], #[.slice none 0 0, .slice none 0 0], []⟩ 8 (by kernel_rfl) (by kernel_rfl) (by kernel_rfl) (by kernel_rfl)) ?_
  intro W base args ds gs before hval0 hW hcnd _
  have hval : ∀ (j : Nat) t v, Try.f13.params[j]? = some t → args[j]? = some v → Value.okWide Try.prog W .any base t v := hval0
  have hW' := hW
  obtain ⟨p, q, hA0, hV, rfl, hfz, hnd⟩ := hW
  have hA : DataW.TrodAll enc Try.prog W 0 (fun _ => true) true Try.f13.params.toList args.toList ds p := hA0
  rw [Try.params13] at hA hval
  obtain ⟨v0, vs0, d0, ds0, p0, q0, hargs, rfl, rfl, h0, r0⟩ := trodAll_cons hA
  obtain ⟨v1, vs1, d1, ds1, p1, q1, rfl, rfl, rfl, h1, r1⟩ := trodAll_cons r0
  obtain ⟨rfl, rfl, rfl⟩ := trodAll_nil r1
  obtain rfl : args = #[v0, v1] := by cases args; simp_all
  obtain ⟨rfl, rfl⟩ := trodVars_none hV
  obtain ⟨l0, hv0, hq0, hl0⟩ := open_bytS (hval 0 22 v0 rfl rfl) h0
  obtain ⟨l1, hv1, hq1, hl1⟩ := open_chunks (hval 1 80 v1 rfl rfl) h1
  clear hA0 hval0
  simp only [List.append_nil] at hW'
  refine (all l0 v0 hv0 hq0 hl0 l1 v1 hv1 hq1 hl1 W rfl).mono fun e W' ⟨he, hg⟩ => ?_
  subst he
  exact ⟨_, rfl, post_of_kept (pa := _) (pv := []) hW' (fun _ _ _ => (trodAll_cons_mk (shut_bool Try.underlying4 _) trodAll_mk0)) (fun sp hsp => (trodAll_cons_mk (kept_trod (by kernel_rfl) (of_decide_eq_true (by kernel_rfl)) h0 hg (fun x hx => hW'.lt x (by simp [hx])) (fun x hx => hsp x (by simp [hx]))) (trodAll_cons_mk (kept_trod (by kernel_rfl) (of_decide_eq_true (by kernel_rfl)) h1 hg (fun x hx => hW'.lt x (by simp [hx])) (fun x hx => hsp x (by simp [hx]))) trodAll_mk0))) (fun _ _ => rfl) hg⟩

theorem over : Rows.fnExactApplyPatchRow.holds Try.pinned (OpenSpec.ofChange Rows.fnExactApplyPatchSpec) :=
  OpenClaim.holds_of_wide 13 Try.f13 rfl rfl rfl rfl rfl rfl rfl ⟨rfl, rfl, rfl, rfl, rfl⟩ rfl rfl rfl rfl rfl (by kernel_rfl) Try.func13 (by kernel_rfl)
    (of_decide_eq_true (by kernel_rfl)) (by unfold Func.isWrapper; first | (rw [if_pos (by decide +kernel)]; kernel_rfl) | (rw [if_neg (by decide +kernel)]; exact ⟨rfl, rfl⟩))
    (fun os started H enc _ => lifted os started H enc)

theorem proved : Rows.FnExactApplyPatchSaid :=
  over
#print axioms proved
end Go.Proofs.Ytipgffikmnebnaa.fnExactApplyPatch
