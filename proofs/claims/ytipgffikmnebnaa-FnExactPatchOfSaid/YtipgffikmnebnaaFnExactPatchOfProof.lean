/-
  At all rows of bytes the program's PatchOf answers what the specification's PatchOf answers, writes into no argument and keeps nothing of one; its answer owns its memory.
-/
import Derived.Test.YtipgffikmnebnaaRows
import Derived.Test.YtipgffikmnebnaaChunksO
import Derived.Test.YtipgffikmnebnaaCMk21
import Derived.Test.YtipgffikmnebnaaBytM
import Derived.Test.YtipgffikmnebnaaSPatch21
import Derived.Test.YtipgffikmnebnaaIPatch21
import Derived.ChangeMaps
namespace Go.Proofs.Ytipgffikmnebnaa.fnExactPatchOf
open Go.ChangeShapes Go.WideShapes Go.ChangeAt Go.RowKit
set_option linter.unusedVariables false

theorem own : ownKnob Try.prog.godebug = none := by kernel_rfl


def ChunksMA (w : World) (v : Value) (k : Nat) (ds : List ChunkD) : Prop := ∃ ts, ChunkAt w v (mkE k ts) ∧ ts.map stripChunk = ds
theorem ChunksM.at {w : World} {lo hi : Nat} {v : Value} {k : Nat} {ds : List ChunkD} (h : ChunksM w lo hi v k ds) : ChunksMA w v k ds := by obtain ⟨ts, h, e⟩ := h; exact ⟨ts, h.at, e⟩
theorem heldChunksA (ds : List ChunkD) (v : Value) (k : Nat) (w : World) (hv : ChunksMA w v k ds) (hb : k + dMk ds ≤ 300000000) :
    Calls Try.prog 53 #[v, .int .i64 (k : Int)] w fun e w' => e = .returned (.int .i64 ((k + dMk ds : Nat) : Int)) ∧ Kept w w' := by
  obtain ⟨ts, h, e⟩ := hv
  have hm := cMk_strip ts
  rw [e] at hm
  have hl : ts.length ≤ cMk ts := by
    clear h hm e
    induction ts with
    | nil => simp
    | cons a t ih => unfold cMk at ih ⊢; simp only [List.map_cons, List.sum_cons, List.length_cons]; omega
  have := heldCs ts v k w h (by omega) (by omega)
  rw [hm] at this
  exact this
set_option maxRecDepth 100000 in
set_option maxHeartbeats 8000000 in
theorem walk (l m : List BytD) (R : List ChunkD) (jb : Bool) (v v2 : Value) (w : World) (hv : BytAt w v l) (hv2 : BytAt w v2 m) (hl : l.length ≤ 1048576) (hm : m.length ≤ 1048576) (hR : chunksCost R ≤ 100000000)
    (hS : ∀ (u : World) (lo hi lo2 hi2 : Nat) (v v2 : Value), BytO u lo hi v l → BytO u lo2 hi2 v2 m → Calls Try.prog 23 #[v, v2] u fun e u' => ∃ v', e = .returned (.tuple #[v', .bool jb]) ∧ ChunksO u' u.heap.size u'.heap.size v' R ∧ Kept u u')
    (hI : ∀ (u : World) (lo hi lo2 hi2 : Nat) (v v2 : Value), BytO u lo hi v l → BytO u lo2 hi2 v2 m → Calls Try.prog 22 #[v, v2] u fun e u' => ∃ v', e = .returned (.tuple #[v', .bool jb]) ∧ ChunksO u' u.heap.size u'.heap.size v' R ∧ Kept u u') :
    Calls Try.prog 12 #[v, v2] w fun e w' => e = .returned (.bool true) ∧ Kept w w' := by
  have hRm := dMk_cost R
  have hd0 : decide (1048576 < (l.length : Int)) = false := decide_eq_false (by omega)
  have hd1 : decide (1048576 < (m.length : Int)) = false := decide_eq_false (by omega)
  obtain ⟨qa, hHA⟩ : ∃ q : Nat, 1 + l.length = q := ⟨_, rfl⟩
  have HA : Hid (1 + l.length = qa) := hHA
  have bHA : qa ≤ 200000000 := by omega
  have dHA : decide ((qa : Int) < 0) = false := by simp
  clear hHA
  obtain ⟨qb, hHB⟩ : ∃ q : Nat, qa + m.length = q := ⟨_, rfl⟩
  have HB : Hid (qa + m.length = qb) := hHB
  have bHB : qb ≤ 300000000 := by omega
  have dHB : decide ((qb : Int) < 0) = false := by simp
  clear hHB
  obtain ⟨qd, hHD⟩ : ∃ q : Nat, 1 + dMk R = q := ⟨_, rfl⟩
  have HD : Hid (1 + dMk R = qd) := hHD
  have bHD : qd ≤ 300000000 := by omega
  have dHD : decide ((qd : Int) < 0) = false := by simp
  clear hHD
  obtain ⟨ao, cap, hfm⟩ := row_nil hv
  subst hfm
  obtain ⟨ap, caq, hfm⟩ := row_nil hv2
  subst hfm
  have HS : Hid _ := hS
  have HI : Hid _ := hI
  clear hS hI
  go_enter Try.func12, Try.ntmps12
  repeat (first | go_values | go_skip | go_guarded | go_step | go_upon)
  go_at_call 48
  refine (toBytS l _ _ hv hl).mono ?_
  rintro e u1 ⟨v1, rfl, t1, k1⟩
  have K1 := k1
  have s1 := k1.size
  clear k1
  obtain ⟨ao1, cap1, hfm⟩ := t1.form
  subst hfm
  dsimp only
  repeat (first | go_values | go_skip | go_guarded | go_step | go_upon)
  go_at_call 48
  refine (toBytS m _ _ (hv2.kept K1) hm).mono ?_
  rintro e u2 ⟨v2, rfl, t2, k2⟩
  have K2 := K1.trans k2
  have t1 := t1.kept k2
  have s2 := k2.size
  clear k2 K1
  obtain ⟨ao2, cap2, hfm⟩ := t2.form
  subst hfm
  dsimp only
  repeat (first | go_values | go_skip | go_guarded | go_step | go_upon)
  go_at_call 23
  refine (HS.out _ _ _ _ _ _ _ t1 t2).mono ?_
  rintro e u3 ⟨v3, rfl, ow, k3⟩
  have K3 := K2.trans k3
  have t1 := t1.kept k3
  have t2 := t2.kept k3
  have s3 := k3.size
  clear k3 K2
  obtain ⟨ao3, cap3, hfm⟩ := ow.form
  subst hfm
  clear t1 t2
  dsimp only
  repeat (first | go_values | go_skip | go_guarded | go_step | go_upon)
  go_at_call 48
  refine (toBytS l _ _ (hv.kept K3) hl).mono ?_
  rintro e u4 ⟨v4, rfl, x0, k4⟩
  have K4 := K3.trans k4
  have ow := ow.kept k4
  have s4 := k4.size
  clear k4 K3
  obtain ⟨ao4, cap4, hfm⟩ := x0.form
  subst hfm
  dsimp only
  repeat (first | go_values | go_skip | go_guarded | go_step | go_upon)
  go_at_call 48
  refine (toBytS m _ _ (hv2.kept K4) hm).mono ?_
  rintro e u5 ⟨v5, rfl, x1, k5⟩
  have K5 := K4.trans k5
  have ow := ow.kept k5
  have x0 := x0.kept k5
  have s5 := k5.size
  clear k5 K4
  obtain ⟨ao5, cap5, hfm⟩ := x1.form
  subst hfm
  dsimp only
  repeat (first | go_values | go_skip | go_guarded | go_step | go_upon)
  go_at_call 22
  refine (HI.out _ _ _ _ _ _ _ x0 x1).mono ?_
  rintro e u6 ⟨v6, rfl, og, k6⟩
  have K6 := K5.trans k6
  have ow := ow.kept k6
  have x0 := x0.kept k6
  have x1 := x1.kept k6
  have s6 := k6.size
  clear k6 K5
  obtain ⟨ao6, cap6, hfm⟩ := og.form
  subst hfm
  dsimp only
  repeat (first | go_values | go_skip | go_guarded | go_step | go_upon)
  go_at_call 49
  refine (eqChunks R _ _ _ og.at ow.at (by omega)).mono ?_
  rintro e u7 ⟨rfl, k7⟩
  have K7 := K6.trans k7
  have ow := ow.kept k7
  have x0 := x0.kept k7
  have x1 := x1.kept k7
  have og := og.kept k7
  have s7 := k7.size
  clear k7 K6
  dsimp only
  repeat (first | go_values | go_skip | go_guarded | go_step | go_upon)
  go_at_call 48
  refine (toBytS l _ _ (hv.kept K7) hl).mono ?_
  rintro e u8 ⟨v8, rfl, y0, k8⟩
  have K8 := K7.trans k8
  have ow := ow.kept k8
  have x0 := x0.kept k8
  have x1 := x1.kept k8
  have og := og.kept k8
  have s8 := k8.size
  clear k8 K7
  obtain ⟨ao8, cap8, hfm⟩ := y0.form
  subst hfm
  dsimp only
  repeat (first | go_values | go_skip | go_guarded | go_step | go_upon)
  go_at_call 50
  refine (eqBytS l _ _ _ x0.at y0.at (by omega)).mono ?_
  rintro e u9 ⟨rfl, k9⟩
  have K9 := K8.trans k9
  have ow := ow.kept k9
  have x0 := x0.kept k9
  have x1 := x1.kept k9
  have og := og.kept k9
  have y0 := y0.kept k9
  have s9 := k9.size
  clear k9 K8
  clear y0
  dsimp only
  repeat (first | go_values | go_skip | go_guarded | go_step | go_upon)
  go_at_call 48
  refine (toBytS m _ _ (hv2.kept K9) hm).mono ?_
  rintro e u10 ⟨v10, rfl, y1, k10⟩
  have K10 := K9.trans k10
  have ow := ow.kept k10
  have x0 := x0.kept k10
  have x1 := x1.kept k10
  have og := og.kept k10
  have s10 := k10.size
  clear k10 K9
  obtain ⟨ao10, cap10, hfm⟩ := y1.form
  subst hfm
  dsimp only
  repeat (first | go_values | go_skip | go_guarded | go_step | go_upon)
  go_at_call 50
  refine (eqBytS m _ _ _ x1.at y1.at (by omega)).mono ?_
  rintro e u11 ⟨rfl, k11⟩
  have K11 := K10.trans k11
  have ow := ow.kept k11
  have x0 := x0.kept k11
  have x1 := x1.kept k11
  have og := og.kept k11
  have y1 := y1.kept k11
  have s11 := k11.size
  clear k11 K10
  clear y1
  dsimp only
  repeat (first | go_values | go_skip | go_guarded | go_step | go_upon)
  go_at_call 51
  refine (markBytS l _ 1 u3.heap.size u4.heap.size _ x0 (by omega)).mono ?_
  rintro e u12 ⟨rfl, -, b12⟩
  rw [HA.out]
  have k12 := b12.inner x0
  have K12 := K11.onto k12 (by omega)
  have ow := ow.but k12 (by omega)
  have x1 := x1.but k12 (by omega)
  have og := og.but k12 (by omega)
  have s12 := k12.size
  clear b12 k12 K11 x0
  dsimp only
  repeat (first | go_values | go_skip | go_guarded | go_step | go_upon)
  go_at_call 51
  refine (markBytS m _ qa u4.heap.size u5.heap.size _ x1 (by omega)).mono ?_
  rintro e u13 ⟨rfl, -, b13⟩
  rw [HB.out]
  have k13 := b13.inner x1
  have K13 := K12.onto k13 (by omega)
  have ow := ow.but k13 (by omega)
  have og := og.but k13 (by omega)
  have s13 := k13.size
  clear b13 k13 K12 x1
  dsimp only
  repeat (first | go_values | go_skip | go_guarded | go_step | go_upon)
  go_at_call 49
  refine (eqChunks R _ _ _ og.at ow.at (by omega)).mono ?_
  rintro e u14 ⟨rfl, k14⟩
  have K14 := K13.trans k14
  have ow := ow.kept k14
  have og := og.kept k14
  have s14 := k14.size
  clear k14 K13
  dsimp only
  repeat (first | go_values | go_skip | go_guarded | go_step | go_upon)
  go_at_call 52
  refine (markChunks R _ 1 u5.heap.size u6.heap.size _ og (by omega)).mono ?_
  rintro e u15 ⟨rfl, og2, b15⟩
  rw [HD.out]
  have k15 := b15
  have K15 := K14.onto k15 (by omega)
  have ow := ow.but k15 (by omega)
  have s15 := k15.size
  clear b15 k15 K14 og
  dsimp only
  repeat (first | go_values | go_skip | go_guarded | go_step | go_upon)
  go_at_call 53
  refine (heldChunksA R _ 1 _ (ChunksM.at og2) (by omega)).mono ?_
  rintro e u16 ⟨rfl, k16⟩
  rw [HD.out]
  have K16 := K15.trans k16
  have ow := ow.kept k16
  have og2 := og2.kept k16
  have s16 := k16.size
  clear k16 K15
  dsimp only
  repeat (first | go_values | go_skip | go_guarded | go_step | go_upon)
  go_at_call 48
  refine (toBytS l _ _ (hv.kept K16) hl).mono ?_
  rintro e u17 ⟨v17, rfl, z0, k17⟩
  have K17 := K16.trans k17
  have ow := ow.kept k17
  have og2 := og2.kept k17
  have s17 := k17.size
  clear k17 K16
  obtain ⟨ao17, cap17, hfm⟩ := z0.form
  subst hfm
  dsimp only
  repeat (first | go_values | go_skip | go_guarded | go_step | go_upon)
  go_at_call 48
  refine (toBytS m _ _ (hv2.kept K17) hm).mono ?_
  rintro e u18 ⟨v18, rfl, z1, k18⟩
  have K18 := K17.trans k18
  have ow := ow.kept k18
  have og2 := og2.kept k18
  have z0 := z0.kept k18
  have s18 := k18.size
  clear k18 K17
  obtain ⟨ao18, cap18, hfm⟩ := z1.form
  subst hfm
  dsimp only
  repeat (first | go_values | go_skip | go_guarded | go_step | go_upon)
  go_at_call 22
  refine (HI.out _ _ _ _ _ _ _ z0 z1).mono ?_
  rintro e u19 ⟨v19, rfl, oh, k19⟩
  have K19 := K18.trans k19
  have ow := ow.kept k19
  have og2 := og2.kept k19
  have z0 := z0.kept k19
  have z1 := z1.kept k19
  have s19 := k19.size
  clear k19 K18
  obtain ⟨ao19, cap19, hfm⟩ := oh.form
  subst hfm
  clear z0 z1
  dsimp only
  repeat (first | go_values | go_skip | go_guarded | go_step | go_upon)
  go_at_call 49
  refine (eqChunks R _ _ _ oh.at ow.at (by omega)).mono ?_
  rintro e u20 ⟨rfl, k20⟩
  have K20 := K19.trans k20
  have ow := ow.kept k20
  have og2 := og2.kept k20
  have oh := oh.kept k20
  have s20 := k20.size
  clear k20 K19
  clear oh ow
  dsimp only
  repeat (first | go_values | go_skip | go_guarded | go_step | go_upon)
  go_at_call 53
  refine (heldChunksA R _ 1 _ (ChunksM.at og2) (by omega)).mono ?_
  rintro e u21 ⟨rfl, k21⟩
  rw [HD.out]
  have K21 := K20.trans k21
  have og2 := og2.kept k21
  have s21 := k21.size
  clear k21 K20
  dsimp only
  repeat (first | go_values | go_skip | go_guarded | go_step | go_upon)
  go_ret
  exact ⟨rfl, K21⟩
set_option maxRecDepth 100000 in
set_option maxHeartbeats 8000000 in
theorem big1 (l m : List BytD) (v v2 : Value) (w : World) (hv : BytAt w v l) (hv2 : BytAt w v2 m) (hlen : l.length ≤ maxLen) (hl : 1048576 < l.length) :
    Calls Try.prog 12 #[v, v2] w fun e w' => e = .returned (.bool true) ∧ Kept w w' := by
  unfold maxLen at hlen
  have hd0 : decide (1048576 < (l.length : Int)) = true := decide_eq_true (by omega)
  obtain ⟨ao, cap, hfm⟩ := row_nil hv
  subst hfm
  obtain ⟨ap, caq, hfm⟩ := row_nil hv2
  subst hfm
  go_enter Try.func12, Try.ntmps12
  repeat (first | go_values | go_skip | go_guarded | go_step | go_upon)
  go_ret
  exact ⟨rfl, But.refl _ _ _⟩
set_option maxRecDepth 100000 in
set_option maxHeartbeats 8000000 in
theorem big2 (l m : List BytD) (v v2 : Value) (w : World) (hv : BytAt w v l) (hv2 : BytAt w v2 m) (hlen : l.length ≤ maxLen) (hlen2 : m.length ≤ maxLen) (hl : l.length ≤ 1048576) (hc : 1048576 < m.length) :
    Calls Try.prog 12 #[v, v2] w fun e w' => e = .returned (.bool true) ∧ Kept w w' := by
  unfold maxLen at hlen hlen2
  have hd0 : decide (1048576 < (l.length : Int)) = false := decide_eq_false (by omega)
  have hd1 : decide (1048576 < (m.length : Int)) = true := decide_eq_true (by omega)
  obtain ⟨ao, cap, hfm⟩ := row_nil hv
  subst hfm
  obtain ⟨ap, caq, hfm⟩ := row_nil hv2
  subst hfm
  go_enter Try.func12, Try.ntmps12
  repeat (first | go_values | go_skip | go_guarded | go_step | go_upon)
  go_ret
  exact ⟨rfl, But.refl _ _ _⟩
theorem cost_app (a b : List ChunkD) : chunksCost (a ++ b) = chunksCost a + chunksCost b := by
  unfold chunksCost
  simp only [List.length_append, List.map_append, List.sum_append]
  omega
theorem cost_one (d : ChunkD) : chunksCost [d] = 1 + d.2.2.length := by simp [chunksCost, chunksOne]
theorem withB_cost (out : List ChunkD) (b : UInt8) : chunksCost (withB out b) ≤ chunksCost out + 2 := by
  by_cases he : out = []
  · rw [withB_new (.inl he), cost_app, cost_one]
    simp
  · obtain ⟨L, d, rfl⟩ : ∃ L d, out = L ++ [d] := ⟨out.dropLast, out.getLast he, (List.dropLast_concat_getLast he).symm⟩
    have hd : (L ++ [d])[(L ++ [d]).length - 1]? = some d := by simp
    by_cases hy : d.2.2 = []
    · rw [withB_new (.inr ⟨d, hd, hy⟩), cost_app (L ++ [d]), cost_one]
      simp
    · rw [withB_last hd hy, show (L ++ [d]).set ((L ++ [d]).length - 1) (d.1, d.2.1, d.2.2 ++ [b]) = L ++ [(d.1, d.2.1, d.2.2 ++ [b])] by simp, cost_app, cost_app, cost_one, cost_one]
      simp
      omega
theorem patchL_cost {old : List UInt8} : ∀ (n : Nat) (out : List ChunkD) (r : List UInt8), chunksCost (patchL old n out r) ≤ chunksCost out + 2 * n
  | 0, out, r => by show chunksCost out ≤ _; omega
  | n + 1, out, [] => by show chunksCost out ≤ _; omega
  | n + 1, out, b :: rest => by
    unfold patchL
    split
    · refine Nat.le_trans (patchL_cost n _ _) ?_
      rw [cost_app, cost_one]
      simp
      omega
    · refine Nat.le_trans (patchL_cost n _ _) ?_
      have := withB_cost out b
      omega
theorem patchA_cost (old now : List UInt8) : chunksCost (patchA old now) ≤ 1000 := by
  unfold patchA
  split
  · have := patchL_cost (old := old) now.length [] now
    have e : chunksCost ([] : List ChunkD) = 0 := rfl
    omega
  · show 0 ≤ _
    omega
theorem all (l : List BytD) (v : Value) {w : World} (hv : BytAt w v l) (_ : ∀ p ∈ l, True) (hlen : l.length ≤ maxLen) (m : List BytD) (v2 : Value) (hv2 : BytAt w v2 m) (_ : ∀ p ∈ m, True) (hlen2 : m.length ≤ maxLen) (w' : World) (_ : w' = w) :
    Calls Try.prog 12 #[v, v2] w fun e w' => e = .returned (.bool true) ∧ Kept w w' := by
  by_cases hl : l.length ≤ 1048576
  · by_cases hc : m.length ≤ 1048576
    · refine walk l m (patchA l m) (decide (l.length ≤ 400 ∧ m.length ≤ 400)) v v2 w hv hv2 hl hc (Nat.le_trans (patchA_cost l m) (by omega)) (fun u lo hi lo2 hi2 v v2 h1 h2 => ?_) (fun u lo hi lo2 hi2 v v2 h1 h2 => ?_)
      · obtain ⟨ao, co, rfl⟩ := h1.form
        obtain ⟨an, cn, rfl⟩ := h2.form
        exact spatch l m ao an co cn u h1.at h2.at (cap_byt h1) (cap_byt h2) hl hc
      · obtain ⟨ao, co, rfl⟩ := h1.form
        obtain ⟨an, cn, rfl⟩ := h2.form
        exact ipatch l m ao an co cn u h1.at h2.at (cap_byt h1) (cap_byt h2) hl hc
    · exact big2 l m v v2 w hv hv2 hlen hlen2 hl (by omega)
  · exact big1 l m v v2 w hv hv2 hlen (by omega)


set_option maxRecDepth 100000 in
theorem lifted (os : Os) (started : os.Started) (H : Type) (enc : TypeId × Value → H) :
    ReturnsInHanded {} Try.checked os 12 .any (Rows.fnExactPatchOfSpec.pre6 enc Try.prog Try.f12 Rows.fnExactPatchOfRow.domain false) (Rows.fnExactPatchOfSpec.post enc Try.prog Try.f12 false true false false) := by
  refine returnsInHanded_of_change (C := Try.checked) own started (by kernel_rfl) Try.func12
    (ChangeSpec.witness6 (enc := enc) (C := Try.checked) false ⟨#[], #[.slice none 0 0, .slice none 0 0], []⟩ 8 (by kernel_rfl) (by kernel_rfl) (by kernel_rfl) (by kernel_rfl)) ?_
  intro W base args ds gs before hval0 hW hcnd _
  have hval : ∀ (j : Nat) t v, Try.f12.params[j]? = some t → args[j]? = some v → Value.okWide Try.prog W .any base t v := hval0
  have hW' := hW
  obtain ⟨p, q, hA0, hV, rfl, hfz, hnd⟩ := hW
  have hA : DataW.TrodAll enc Try.prog W 0 (fun _ => true) true Try.f12.params.toList args.toList ds p := hA0
  rw [Try.params12] at hA hval
  obtain ⟨v0, vs0, d0, ds0, p0, q0, hargs, rfl, rfl, h0, r0⟩ := trodAll_cons hA
  obtain ⟨v1, vs1, d1, ds1, p1, q1, rfl, rfl, rfl, h1, r1⟩ := trodAll_cons r0
  obtain ⟨rfl, rfl, rfl⟩ := trodAll_nil r1
  obtain rfl : args = #[v0, v1] := by cases args; simp_all
  obtain ⟨rfl, rfl⟩ := trodVars_none hV
  obtain ⟨l0, hv0, hq0, hl0⟩ := open_bytS (hval 0 22 v0 rfl rfl) h0
  obtain ⟨l1, hv1, hq1, hl1⟩ := open_bytS (hval 1 22 v1 rfl rfl) h1
  clear hA0 hval0
  simp only [List.append_nil] at hW'
  refine (all l0 v0 hv0 hq0 hl0 l1 v1 hv1 hq1 hl1 W rfl).mono fun e W' ⟨he, hg⟩ => ?_
  subst he
  exact ⟨_, rfl, post_of_kept (pa := _) (pv := []) hW' (fun _ _ _ => (trodAll_cons_mk (shut_bool Try.underlying4 _) trodAll_mk0)) (fun sp hsp => (trodAll_cons_mk (kept_trod (by kernel_rfl) (of_decide_eq_true (by kernel_rfl)) h0 hg (fun x hx => hW'.lt x (by simp [hx])) (fun x hx => hsp x (by simp [hx]))) (trodAll_cons_mk (kept_trod (by kernel_rfl) (of_decide_eq_true (by kernel_rfl)) h1 hg (fun x hx => hW'.lt x (by simp [hx])) (fun x hx => hsp x (by simp [hx]))) trodAll_mk0))) (fun _ _ => rfl) hg⟩

theorem over : Rows.fnExactPatchOfRow.holds Try.pinned (OpenSpec.ofChange Rows.fnExactPatchOfSpec) :=
  OpenClaim.holds_of_wide 12 Try.f12 rfl rfl rfl rfl rfl rfl rfl ⟨rfl, rfl, rfl, rfl, rfl⟩ rfl rfl rfl rfl rfl (by kernel_rfl) Try.func12 (by kernel_rfl)
    (of_decide_eq_true (by kernel_rfl)) (by unfold Func.isWrapper; first | (rw [if_pos (by decide +kernel)]; kernel_rfl) | (rw [if_neg (by decide +kernel)]; exact ⟨rfl, rfl⟩))
    (fun os started H enc _ => lifted os started H enc)

theorem proved : Rows.FnExactPatchOfSaid :=
  over
#print axioms proved
end Go.Proofs.Ytipgffikmnebnaa.fnExactPatchOf
