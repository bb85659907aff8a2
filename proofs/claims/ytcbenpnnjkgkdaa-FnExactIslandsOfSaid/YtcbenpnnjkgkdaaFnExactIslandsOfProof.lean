/-
  At every number of things and all ties the program's IslandsOf answers what the specification's IslandsOf answers, writes into no argument and keeps nothing of one; its answer owns its memory.
-/
import Derived.Test.YtcbenpnnjkgkdaaRows
import Derived.Test.YtcbenpnnjkgkdaaSIs10
import Derived.Test.YtcbenpnnjkgkdaaTo
import Derived.Test.YtcbenpnnjkgkdaaEq
import Derived.Test.YtcbenpnnjkgkdaaMarks
import Derived.Test.YtcbenpnnjkgkdaaOpen
import Derived.Test.YtcbenpnnjkgkdaaLL
import Derived.ChangeMaps
namespace Go.Proofs.Ytcbenpnnjkgkdaa.fnExactIslandsOf
open Go.ChangeShapes Go.WideShapes Go.ChangeAt Go.RowKit
set_option linter.unusedVariables false

theorem own : ownKnob Try.prog.godebug = none := by kernel_rfl


theorem rt_len (of : List Int) (n : Nat) : (rtL of n).length ≤ n := by
  have := List.length_filter_le (rootB of) (List.range n)
  rw [List.length_range] at this
  exact this
theorem me_len (of : List Int) (n i : Nat) : (meL of n i).length ≤ n := by
  unfold meL
  rw [List.length_map]
  have := List.length_filter_le (fun k => of[k]? == some (i : Int)) (List.range n)
  rw [List.length_range] at this
  exact this
theorem sum_small (l : List (List NumD)) (h : ∀ p ∈ l, p.length ≤ 40) : lLSum l ≤ 40 * l.length := by
  induction l with
  | nil => simp [lLSum]
  | cons a l ih =>
    have h1 := h a (by simp)
    have h2 := ih fun p hp => h p (List.mem_cons_of_mem _ hp)
    simp [lLSum] at h2 ⊢
    omega
theorem isA_small (m : Int) (ts : List PairD) : (isA m ts).length ≤ 40 ∧ ∀ p ∈ isA m ts, p.length ≤ 40 := by
  unfold isA
  split
  · rename_i h
    have hn : m.toNat ≤ 40 := by have := h.1; have := h.2.1; omega
    unfold isL
    refine ⟨by rw [List.length_map]; exact Nat.le_trans (rt_len _ _) hn, fun p hp => ?_⟩
    obtain ⟨i, hi, rfl⟩ := List.mem_map.1 hp
    exact Nat.le_trans (me_len _ _ _) hn
  · exact ⟨by simp, fun p hp => by simp at hp⟩
def Sm (R : List (List NumD)) : Prop := R.length ≤ 40 ∧ ∀ p ∈ R, p.length ≤ 40
theorem eqLLs (R : List (List NumD)) (v v' : Value) (w : World) (hv : LLAt w v R) (hv' : LLAt w v' R) (hs : Sm R) :
    Calls Try.prog 8 #[v, v'] w fun e w' => e = .returned (.bool true) ∧ Kept w w' := eqLL R v v' w hv hv' (by have := hs.1; omega) (fun p hp => by have := hs.2 p hp; omega)
theorem markLLs (R : List (List NumD)) (v : Value) (k lo hi : Nat) (w : World) (hv : LLO w lo hi v R) (hb : k ≤ 1000 ∧ Sm R) :
    Calls Try.prog 11 #[v, .int .i64 (k : Int)] w fun e w' => e = .returned (.int .i64 ((k + lLSum R : Nat) : Int)) ∧ LLO w' lo hi v (mLL k R) ∧ But lo hi w w' := markLL R v k lo hi w hv (by have := sum_small R hb.2.2; have := hb.2.1; omega) (by have := hb.2.1; omega)
theorem heldLLs (R : List (List NumD)) (v : Value) (k : Nat) (w : World) (hv : LLAt w v (mLL k R)) (hb : k ≤ 1000 ∧ Sm R) :
    Calls Try.prog 12 #[v, .int .i64 (k : Int)] w fun e w' => e = .returned (.int .i64 ((k + lLSum R : Nat) : Int)) ∧ Kept w w' := heldLL R v k w hv (by have := sum_small R hb.2.2; have := hb.2.1; omega) (by have := hb.2.1; omega)
theorem mLL_len : ∀ (k : Nat) (R : List (List NumD)), (mLL k R).length = R.length
  | _, [] => rfl
  | k, l :: R => by rw [mLL, List.length_cons, mLL_len, List.length_cons]
set_option maxRecDepth 100000 in
set_option maxHeartbeats 8000000 in
theorem walk (m : Int) (l : List PairD) (J : Bool) (R : List (List NumD)) (hR : Sm R) (v : Value) (w : World) (hv : PairAt w v l) (hl : l.length ≤ 1048576)
    (hS : ∀ (u : World) (v : Value), PairAt u v l → Calls Try.prog 5 #[.int .i64 m, v] u fun e u' => ∃ v', e = .returned (.tuple #[v', .bool J]) ∧ LLO u' u.heap.size u'.heap.size v' R ∧ Kept u u')
    (hI : ∀ (u : World) (v : Value), PairAt u v l → Calls Try.prog 7 #[.int .i64 m, v] u fun e u' => ∃ v', e = .returned (.tuple #[v', .bool J]) ∧ LLO u' u.heap.size u'.heap.size v' R ∧ Kept u u') :
    Calls Try.prog 3 #[.int .i64 m, v] w fun e w' => e = .returned (.bool true) ∧ Kept w w' := by
  have hsr := sum_small R hR.2
  have hr4 := hR.1
  have hd1 : decide ((1048576 : Int) - (l.length : Int) < 0) = false := by simp; omega
  obtain ⟨qa, hHA⟩ : ∃ q : Nat, 1 + 2 * l.length = q := ⟨_, rfl⟩
  have HA : Hid (1 + 2 * l.length = qa) := hHA
  have bHA : qa ≤ 200000000 := by omega
  have dHA : decide ((qa : Int) < 0) = false := by simp
  clear hHA
  obtain ⟨qd, hHD⟩ : ∃ q : Nat, 1 + lLSum R = q := ⟨_, rfl⟩
  have HD : Hid (1 + lLSum R = qd) := hHD
  have bHD : qd ≤ 200000000 := by omega
  have dHD : decide ((qd : Int) < 0) = false := by simp
  clear hHD
  obtain ⟨ao, cap, hfm⟩ := row_nil hv
  subst hfm
  have HS : Hid _ := hS
  have HI : Hid _ := hI
  clear hS hI
  go_enter Try.func3, Try.ntmps3
  repeat (first | go_values | go_skip | go_guarded | go_step | go_upon)
  go_at_call 4
  refine (szPairS l _ _ _ hv (by omega) (by omega) (by omega)).mono ?_
  rintro e u1 ⟨rfl, k1⟩
  rw [leftOf_yes (by omega)]
  have K1 := k1
  have s1 := k1.size
  clear k1
  dsimp only
  repeat (first | go_values | go_skip | go_guarded | go_step | go_upon)
  go_at_call 6
  refine (toPairS l _ _ (hv.kept K1) hl).mono ?_
  rintro e u2 ⟨v2, rfl, t1, k2⟩
  have K2 := K1.trans k2
  have s2 := k2.size
  clear k2 K1
  obtain ⟨ao2, cap2, hfm⟩ := t1.form
  subst hfm
  dsimp only
  repeat (first | go_values | go_skip | go_guarded | go_step | go_upon)
  go_at_call 5
  refine (HS.out _ _ t1.at).mono ?_
  rintro e u3 ⟨v3, rfl, ow, k3⟩
  have K3 := K2.trans k3
  have t1 := t1.kept k3
  have s3 := k3.size
  clear k3 K2
  obtain ⟨ao3, cap3, hfm⟩ := ow.form
  subst hfm
  clear t1
  dsimp only
  repeat (first | go_values | go_skip | go_guarded | go_step | go_upon)
  go_at_call 6
  refine (toPairS l _ _ (hv.kept K3) hl).mono ?_
  rintro e u4 ⟨v4, rfl, x0, k4⟩
  have K4 := K3.trans k4
  have ow := ow.kept k4
  have s4 := k4.size
  clear k4 K3
  obtain ⟨ao4, cap4, hfm⟩ := x0.form
  subst hfm
  dsimp only
  repeat (first | go_values | go_skip | go_guarded | go_step | go_upon)
  go_at_call 7
  refine (HI.out _ _ x0.at).mono ?_
  rintro e u5 ⟨v5, rfl, og, k5⟩
  have K5 := K4.trans k5
  have ow := ow.kept k5
  have x0 := x0.kept k5
  have s5 := k5.size
  clear k5 K4
  obtain ⟨ao5, cap5, hfm⟩ := og.form
  subst hfm
  dsimp only
  repeat (first | go_values | go_skip | go_guarded | go_step | go_upon)
  go_at_call 8
  refine (eqLLs R _ _ _ og.at ow.at hR).mono ?_
  rintro e u6 ⟨rfl, k6⟩
  have K6 := K5.trans k6
  have ow := ow.kept k6
  have x0 := x0.kept k6
  have og := og.kept k6
  have s6 := k6.size
  clear k6 K5
  dsimp only
  repeat (first | go_values | go_skip | go_guarded | go_step | go_upon)
  go_at_call 6
  refine (toPairS l _ _ (hv.kept K6) hl).mono ?_
  rintro e u7 ⟨v7, rfl, y0, k7⟩
  have K7 := K6.trans k7
  have ow := ow.kept k7
  have x0 := x0.kept k7
  have og := og.kept k7
  have s7 := k7.size
  clear k7 K6
  obtain ⟨ao7, cap7, hfm⟩ := y0.form
  subst hfm
  dsimp only
  repeat (first | go_values | go_skip | go_guarded | go_step | go_upon)
  go_at_call 9
  refine (eqPairS l _ _ _ x0.at y0.at (by omega)).mono ?_
  rintro e u8 ⟨rfl, k8⟩
  have K8 := K7.trans k8
  have ow := ow.kept k8
  have x0 := x0.kept k8
  have og := og.kept k8
  have y0 := y0.kept k8
  have s8 := k8.size
  clear k8 K7
  clear y0
  dsimp only
  repeat (first | go_values | go_skip | go_guarded | go_step | go_upon)
  go_at_call 10
  refine (markPairS l _ 1 u3.heap.size u4.heap.size _ x0 (by omega)).mono ?_
  rintro e u9 ⟨rfl, -, b9⟩
  rw [HA.out]
  have k9 := b9.inner x0
  have K9 := K8.onto k9 (by omega)
  have ow := ow.but k9 (by omega)
  have og := og.but k9 (by omega)
  have s9 := k9.size
  clear b9 k9 K8 x0
  dsimp only
  repeat (first | go_values | go_skip | go_guarded | go_step | go_upon)
  go_at_call 8
  refine (eqLLs R _ _ _ og.at ow.at hR).mono ?_
  rintro e u10 ⟨rfl, k10⟩
  have K10 := K9.trans k10
  have ow := ow.kept k10
  have og := og.kept k10
  have s10 := k10.size
  clear k10 K9
  dsimp only
  repeat (first | go_values | go_skip | go_guarded | go_step | go_upon)
  go_at_call 11
  refine (markLLs R _ 1 u4.heap.size u5.heap.size _ og ⟨by omega, hR⟩).mono ?_
  rintro e u11 ⟨rfl, og2, b11⟩
  rw [HD.out]
  have k11 := b11
  have K11 := K10.onto k11 (by omega)
  have ow := ow.but k11 (by omega)
  have s11 := k11.size
  clear b11 k11 K10 og
  dsimp only
  repeat (first | go_values | go_skip | go_guarded | go_step | go_upon)
  go_at_call 12
  refine (heldLLs R _ 1 _ og2.at ⟨by omega, hR⟩).mono ?_
  rintro e u12 ⟨rfl, k12⟩
  rw [HD.out]
  have K12 := K11.trans k12
  have ow := ow.kept k12
  have og2 := og2.kept k12
  have s12 := k12.size
  clear k12 K11
  dsimp only
  repeat (first | go_values | go_skip | go_guarded | go_step | go_upon)
  go_at_call 6
  refine (toPairS l _ _ (hv.kept K12) hl).mono ?_
  rintro e u13 ⟨v13, rfl, z0, k13⟩
  have K13 := K12.trans k13
  have ow := ow.kept k13
  have og2 := og2.kept k13
  have s13 := k13.size
  clear k13 K12
  obtain ⟨ao13, cap13, hfm⟩ := z0.form
  subst hfm
  dsimp only
  repeat (first | go_values | go_skip | go_guarded | go_step | go_upon)
  go_at_call 7
  refine (HI.out _ _ z0.at).mono ?_
  rintro e u14 ⟨v14, rfl, oh, k14⟩
  have K14 := K13.trans k14
  have ow := ow.kept k14
  have og2 := og2.kept k14
  have z0 := z0.kept k14
  have s14 := k14.size
  clear k14 K13
  obtain ⟨ao14, cap14, hfm⟩ := oh.form
  subst hfm
  clear z0
  dsimp only
  repeat (first | go_values | go_skip | go_guarded | go_step | go_upon)
  go_at_call 8
  refine (eqLLs R _ _ _ oh.at ow.at hR).mono ?_
  rintro e u15 ⟨rfl, k15⟩
  have K15 := K14.trans k15
  have ow := ow.kept k15
  have og2 := og2.kept k15
  have oh := oh.kept k15
  have s15 := k15.size
  clear k15 K14
  clear oh ow
  dsimp only
  repeat (first | go_values | go_skip | go_guarded | go_step | go_upon)
  go_at_call 12
  refine (heldLLs R _ 1 _ og2.at ⟨by omega, hR⟩).mono ?_
  rintro e u16 ⟨rfl, k16⟩
  rw [HD.out]
  have K16 := K15.trans k16
  have og2 := og2.kept k16
  have s16 := k16.size
  clear k16 K15
  dsimp only
  repeat (first | go_values | go_skip | go_guarded | go_step | go_upon)
  go_ret
  exact ⟨rfl, K16⟩
set_option maxRecDepth 100000 in
set_option maxHeartbeats 8000000 in
theorem big (m : Int) (l : List PairD) (v : Value) (w : World) (hv : PairAt w v l) (hlen : l.length ≤ maxLen) (hc : ¬ l.length ≤ 1048576) :
    Calls Try.prog 3 #[.int .i64 m, v] w fun e w' => e = .returned (.bool true) ∧ Kept w w' := by
  unfold maxLen at hlen
  obtain ⟨ao, cap, hfm⟩ := row_nil hv
  subst hfm
  go_enter Try.func3, Try.ntmps3
  repeat (first | go_values | go_skip | go_guarded | go_step | go_upon)
  go_at_call 4
  refine (szPairS l _ _ _ hv (by omega) (by omega) (by omega)).mono ?_
  rintro e u1 ⟨rfl, k1⟩
  rw [leftOf_no (by omega)]
  dsimp only
  repeat (first | go_values | go_skip | go_guarded | go_step | go_upon)
  go_ret
  exact ⟨rfl, k1⟩
theorem all (m : Int) (l : List PairD) (v : Value) {w : World} (hv : PairAt w v l) (_ : ∀ p ∈ l, True) (hlen : l.length ≤ maxLen) (w' : World) (_ : w' = w) :
    Calls Try.prog 3 #[.int .i64 m, v] w fun e w' => e = .returned (.bool true) ∧ Kept w w' := by
  by_cases hc : l.length ≤ 1048576
  · exact walk m l (decide (IslP m l)) (isA m l) (isA_small m l) v w hv hc (fun u v h => sis m l v u h hc) (fun u v h => iis m l v u h hc)
  · exact big m l v w hv hlen (by omega)


set_option maxRecDepth 100000 in
theorem lifted (os : Os) (started : os.Started) (H : Type) (enc : TypeId × Value → H) :
    ReturnsInHanded {} Try.checked os 3 .any (Rows.fnExactIslandsOfSpec.pre6 enc Try.prog Try.f3 Rows.fnExactIslandsOfRow.domain false) (Rows.fnExactIslandsOfSpec.post enc Try.prog Try.f3 false true false false) := by
  refine returnsInHanded_of_change (C := Try.checked) own started (by kernel_rfl) Try.func3
    (ChangeSpec.witness6 (enc := enc) (C := Try.checked) false ⟨#[], #[.int .i64 0, .slice none 0 0], []⟩ 8 (by kernel_rfl) (by kernel_rfl) (by kernel_rfl) (by kernel_rfl)) ?_
  intro W base args ds gs before hval0 hW hcnd _
  have hval : ∀ (j : Nat) t v, Try.f3.params[j]? = some t → args[j]? = some v → Value.okWide Try.prog W .any base t v := hval0
  have hW' := hW
  obtain ⟨p, q, hA0, hV, rfl, hfz, hnd⟩ := hW
  have hA : DataW.TrodAll enc Try.prog W 0 (fun _ => true) true Try.f3.params.toList args.toList ds p := hA0
  rw [Try.params3] at hA hval
  obtain ⟨v0, vs0, d0, ds0, p0, q0, hargs, rfl, rfl, h0, r0⟩ := trodAll_cons hA
  obtain ⟨v1, vs1, d1, ds1, p1, q1, rfl, rfl, rfl, h1, r1⟩ := trodAll_cons r0
  obtain ⟨rfl, rfl, rfl⟩ := trodAll_nil r1
  obtain rfl : args = #[v0, v1] := by cases args; simp_all
  obtain ⟨rfl, rfl⟩ := trodVars_none hV
  obtain ⟨a0, rfl, rfl, rfl, w0⟩ := open_int Try.underlying3 (hval 0 3 v0 rfl rfl) h0
  obtain ⟨l1, hv1, hq1, hl1⟩ := open_pairS (hval 1 22 v1 rfl rfl) h1
  clear hA0 hval0
  simp only [List.append_nil] at hW'
  refine (all a0 l1 v1 hv1 hq1 hl1 W rfl).mono fun e W' ⟨he, hg⟩ => ?_
  subst he
  exact ⟨_, rfl, post_of_kept (pa := _) (pv := []) hW' (fun _ _ _ => (trodAll_cons_mk (shut_bool Try.underlying4 _) trodAll_mk0)) (fun sp hsp => (trodAll_cons_mk (shut_int Try.underlying3 w0) (trodAll_cons_mk (kept_trod (by kernel_rfl) (of_decide_eq_true (by kernel_rfl)) h1 hg (fun x hx => hW'.lt x (by simp [hx])) (fun x hx => hsp x (by simp [hx]))) trodAll_mk0))) (fun _ _ => rfl) hg⟩

theorem over : Rows.fnExactIslandsOfRow.holds Try.pinned (OpenSpec.ofChange Rows.fnExactIslandsOfSpec) :=
  OpenClaim.holds_of_wide 3 Try.f3 rfl rfl rfl rfl rfl rfl rfl ⟨rfl, rfl, rfl, rfl, rfl⟩ rfl rfl rfl rfl rfl (by kernel_rfl) Try.func3 (by kernel_rfl)
    (of_decide_eq_true (by kernel_rfl)) (by unfold Func.isWrapper; first | (rw [if_pos (by decide +kernel)]; kernel_rfl) | (rw [if_neg (by decide +kernel)]; exact ⟨rfl, rfl⟩))
    (fun os started H enc _ => lifted os started H enc)

theorem proved : Rows.FnExactIslandsOfSaid :=
  over
#print axioms proved
end Go.Proofs.Ytcbenpnnjkgkdaa.fnExactIslandsOf
