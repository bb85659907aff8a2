/-
  At every list of meant ones, action, time and window the program's Buffered answers what the specification's Buffered answers, and writes into no argument.
-/
import Derived.Test.YthkfpbknfjapaaaRows
import Derived.Test.YthkfpbknfjapaaaMeantT
import Derived.Test.YthkfpbknfjapaaaMeantO
import Derived.Test.YthkfpbknfjapaaaSBuf17
import Derived.Test.YthkfpbknfjapaaaIBuf17
import Derived.ChangeMaps
namespace Go.Proofs.Ythkfpbknfjapaaa.fnExactBuffered
open Go.ChangeShapes Go.WideShapes Go.ChangeAt Go.RowKit
set_option linter.unusedVariables false

theorem own : ownKnob Try.prog.godebug = none := by kernel_rfl

theorem meant_sum {l : List MeantD} (h : meantCost l ≤ 1048576) : l.length ≤ 1048576 ∧ ∀ d ∈ l, d.2.1.size ≤ 1048576 := by
  refine ⟨by unfold meantCost at h; omega, fun d hd => ?_⟩
  obtain ⟨i, hi⟩ := List.mem_iff_getElem?.1 hd
  have := meantSum_le hi
  unfold meantCost at h
  omega
set_option maxRecDepth 100000 in
set_option maxHeartbeats 8000000 in
theorem walk (l : List MeantD) (a : ByteArray) (t win R : Int) (jb : Bool) (v : Value) (w : World) (hv : MeantAt w v l) (hq : ∀ p ∈ l, p.2.1.size ≤ maxLen) (ha : a.size ≤ 1048576) (hl : meantCost l ≤ 1048576)
    (hS : ∀ (u : World) (v : Value), MeantAt u v l → Calls Try.prog 36 #[v, .string a, .int .i64 t, .int .i64 win] u fun e u' => e = .returned (.tuple #[.int .i64 R, .bool jb]) ∧ Kept u u')
    (hI : ∀ (u : World) (v : Value), MeantAt u v l → Calls Try.prog 38 #[v, .string a, .int .i64 t, .int .i64 win] u fun e u' => e = .returned (.tuple #[.int .i64 R, .bool jb]) ∧ Kept u u') :
    Calls Try.prog 8 #[v, .string a, .int .i64 t, .int .i64 win] w fun e w' => e = .returned (.bool true) ∧ Kept w w' := by
  have hll := (meant_sum hl).1
  have hdl : decide ((1048576 : Int) - (meantCost l : Int) < 0) = false := by simp; omega
  have hda : decide ((1048576 : Int) < (a.size : Int)) = false := by simp; omega
  have HS : Hid (∀ (u : World) (v : Value), MeantAt u v l → Calls Try.prog 36 #[v, .string a, .int .i64 t, .int .i64 win] u fun e u' => e = .returned (.tuple #[.int .i64 R, .bool jb]) ∧ Kept u u') := hS
  have HI : Hid (∀ (u : World) (v : Value), MeantAt u v l → Calls Try.prog 38 #[v, .string a, .int .i64 t, .int .i64 win] u fun e u' => e = .returned (.tuple #[.int .i64 R, .bool jb]) ∧ Kept u u') := hI
  clear hS hI
  obtain ⟨ao, cap, hfm⟩ := row_nil hv
  subst hfm
  go_enter Try.func8, Try.ntmps8
  repeat (first | go_values | go_skip | go_guarded | go_step | go_upon)
  go_at_call 35
  refine (szMeantS l _ _ _ hv (by omega) (by omega) (by omega) (fun p hp => by have := hq p hp; unfold maxLen at this; omega)).mono ?_
  rintro e u1 ⟨rfl, k1⟩
  rw [leftOf_yes (by omega)]
  have K1 := k1
  have s1 := k1.size
  clear k1
  dsimp only
  repeat (first | go_values | go_skip | go_guarded | go_step | go_upon)
  go_at_call 37
  refine (toMeantS l _ _ (hv.kept K1) (by omega)).mono ?_
  rintro e u2 ⟨v2, rfl, o2, k2⟩
  have K2 := K1.trans k2
  have s2 := k2.size
  clear k2 K1
  obtain ⟨ao2, cap2, hfm⟩ := o2.form
  subst hfm
  dsimp only
  repeat (first | go_values | go_skip | go_guarded | go_step | go_upon)
  go_at_call 36
  refine (HS.out _ _ o2.at).mono ?_
  rintro e u3 ⟨rfl, k3⟩
  have K3 := K2.trans k3
  have o2 := o2.kept k3
  have s3 := k3.size
  clear k3 K2
  clear o2
  dsimp only
  repeat (first | go_values | go_skip | go_guarded | go_step | go_upon)
  go_at_call 37
  refine (toMeantS l _ _ (hv.kept K3) (by omega)).mono ?_
  rintro e u4 ⟨v4, rfl, ox, k4⟩
  have K4 := K3.trans k4
  have s4 := k4.size
  clear k4 K3
  obtain ⟨ao4, cap4, hfm⟩ := ox.form
  subst hfm
  dsimp only
  repeat (first | go_values | go_skip | go_guarded | go_step | go_upon)
  go_at_call 38
  refine (HI.out _ _ ox.at).mono ?_
  rintro e u5 ⟨rfl, k5⟩
  have K5 := K4.trans k5
  have ox := ox.kept k5
  have s5 := k5.size
  clear k5 K4
  dsimp only
  repeat (first | go_values | go_skip | go_guarded | go_step | go_upon)
  go_at_call 37
  refine (toMeantS l _ _ (hv.kept K5) (by omega)).mono ?_
  rintro e u6 ⟨v6, rfl, oz, k6⟩
  have K6 := K5.trans k6
  have ox := ox.kept k6
  have s6 := k6.size
  clear k6 K5
  obtain ⟨ao6, cap6, hfm⟩ := oz.form
  subst hfm
  dsimp only
  repeat (first | go_values | go_skip | go_guarded | go_step | go_upon)
  go_at_call 27
  refine (eqMeantS l _ _ _ ox.at oz.at (by omega)).mono ?_
  rintro e u7 ⟨rfl, k7⟩
  have K7 := K6.trans k7
  have ox := ox.kept k7
  have oz := oz.kept k7
  have s7 := k7.size
  clear k7 K6
  dsimp only
  repeat (first | go_values | go_skip | go_guarded | go_step | go_upon)
  go_ret
  exact ⟨rfl, K7⟩
set_option maxRecDepth 100000 in
set_option maxHeartbeats 8000000 in
theorem big (l : List MeantD) (a : ByteArray) (t win : Int) (v : Value) (w : World) (hv : MeantAt w v l) (hq : ∀ p ∈ l, p.2.1.size ≤ maxLen) (hlen : l.length ≤ maxLen) (ha : a.size ≤ 1048576) (hl : 1048576 < meantCost l) :
    Calls Try.prog 8 #[v, .string a, .int .i64 t, .int .i64 win] w fun e w' => e = .returned (.bool true) ∧ Kept w w' := by
  unfold maxLen at hlen
  have hda : decide ((1048576 : Int) < (a.size : Int)) = false := by simp; omega
  obtain ⟨ao, cap, hfm⟩ := row_nil hv
  subst hfm
  go_enter Try.func8, Try.ntmps8
  repeat (first | go_values | go_skip | go_guarded | go_step | go_upon)
  go_at_call 35
  refine (szMeantS l _ _ _ hv (by omega) (by omega) (by omega) (fun p hp => by have := hq p hp; unfold maxLen at this; omega)).mono ?_
  rintro e u1 ⟨rfl, k1⟩
  rw [leftOf_no (by omega)]
  dsimp only
  repeat (first | go_values | go_skip | go_guarded | go_step | go_upon)
  go_ret
  exact ⟨rfl, k1⟩
set_option maxRecDepth 100000 in
set_option maxHeartbeats 8000000 in
theorem long (l : List MeantD) (a : ByteArray) (t win : Int) (v : Value) (w : World) (hv : MeantAt w v l) (ha : 1048576 < a.size) (haw : a.size ≤ maxLen) :
    Calls Try.prog 8 #[v, .string a, .int .i64 t, .int .i64 win] w fun e w' => e = .returned (.bool true) ∧ Kept w w' := by
  unfold maxLen at haw
  have hda : decide ((1048576 : Int) < (a.size : Int)) = true := by simp; omega
  obtain ⟨ao, cap, hfm⟩ := row_nil hv
  subst hfm
  go_enter Try.func8, Try.ntmps8
  repeat (first | go_values | go_skip | go_guarded | go_step | go_upon)
  go_ret
  exact ⟨rfl, But.refl _ _ _⟩
theorem all (l : List MeantD) (v : Value) {w : World} (hv : MeantAt w v l) (hq : ∀ p ∈ l, p.2.1.size ≤ maxLen) (hlen : l.length ≤ maxLen) (a : ByteArray) (haw : a.size ≤ maxLen) (t win : Int) (w' : World) (_ : w' = w) :
    Calls Try.prog 8 #[v, .string a, .int .i64 t, .int .i64 win] w fun e w' => e = .returned (.bool true) ∧ Kept w w' := by
  by_cases ha : a.size ≤ 1048576
  · by_cases hl : meantCost l ≤ 1048576
    · obtain ⟨h1, h2⟩ := meant_sum hl
      exact walk l a t win _ _ v w hv hq ha hl (fun u v h => sbuf l a t win v u h h1 h2 ha) (fun u v h => ibuf l a t win v u h h1 h2 ha)
    · exact big l a t win v w hv hq hlen ha (by omega)
  · exact long l a t win v w hv (by omega) haw


set_option maxRecDepth 100000 in
theorem lifted (os : Os) (started : os.Started) (H : Type) (enc : TypeId × Value → H) :
    ReturnsInHanded {} Try.checked os 8 .any (Rows.fnExactBufferedSpec.pre6 enc Try.prog Try.f8 Rows.fnExactBufferedRow.domain false) (Rows.fnExactBufferedSpec.post enc Try.prog Try.f8 false true false false) := by
  refine returnsInHanded_of_change (C := Try.checked) own started (by kernel_rfl) Try.func8
    (ChangeSpec.witness6 (enc := enc) (C := Try.checked) false ⟨#[], #[.slice none 0 0, .string ByteArray.empty, .int .i64 0, .int .i64 0], []⟩ 8 (by kernel_rfl) (by kernel_rfl) (by kernel_rfl) (by kernel_rfl)) ?_
  intro W base args ds gs before hval0 hW hcnd _
  have hval : ∀ (j : Nat) t v, Try.f8.params[j]? = some t → args[j]? = some v → Value.okWide Try.prog W .any base t v := hval0
  have hW' := hW
  obtain ⟨p, q, hA0, hV, rfl, hfz, hnd⟩ := hW
  have hA : DataW.TrodAll enc Try.prog W 0 (fun _ => true) true Try.f8.params.toList args.toList ds p := hA0
  rw [Try.params8] at hA hval
  obtain ⟨v0, vs0, d0, ds0, p0, q0, hargs, rfl, rfl, h0, r0⟩ := trodAll_cons hA
  obtain ⟨v1, vs1, d1, ds1, p1, q1, rfl, rfl, rfl, h1, r1⟩ := trodAll_cons r0
  obtain ⟨v2, vs2, d2, ds2, p2, q2, rfl, rfl, rfl, h2, r2⟩ := trodAll_cons r1
  obtain ⟨v3, vs3, d3, ds3, p3, q3, rfl, rfl, rfl, h3, r3⟩ := trodAll_cons r2
  obtain ⟨rfl, rfl, rfl⟩ := trodAll_nil r3
  obtain rfl : args = #[v0, v1, v2, v3] := by cases args; simp_all
  obtain ⟨rfl, rfl⟩ := trodVars_none hV
  obtain ⟨l0, hv0, hq0, hl0⟩ := open_meantS (hval 0 58 v0 rfl rfl) h0
  obtain ⟨a1, rfl, rfl, rfl, w1⟩ := Go.ChangeMaps.open_string Try.underlying9 (hval 1 9 v1 rfl rfl) h1
  obtain ⟨a2, rfl, rfl, rfl, w2⟩ := open_int Try.underlying3 (hval 2 3 v2 rfl rfl) h2
  obtain ⟨a3, rfl, rfl, rfl, w3⟩ := open_int Try.underlying3 (hval 3 3 v3 rfl rfl) h3
  clear hA0 hval0
  simp only [List.append_nil] at hW'
  refine (all l0 v0 hv0 hq0 hl0 a1 w1 a2 a3 W rfl).mono fun e W' ⟨he, hg⟩ => ?_
  subst he
  exact ⟨_, rfl, post_of_kept (pa := _) (pv := []) hW' (fun _ _ _ => (trodAll_cons_mk (shut_bool Try.underlying4 _) trodAll_mk0)) (fun sp hsp => (trodAll_cons_mk (kept_trod (by kernel_rfl) (of_decide_eq_true (by kernel_rfl)) h0 hg (fun x hx => hW'.lt x (by simp [hx])) (fun x hx => hsp x (by simp [hx]))) (trodAll_cons_mk (Go.ChangeMaps.shut_string Try.underlying9 w1) (trodAll_cons_mk (shut_int Try.underlying3 w2) (trodAll_cons_mk (shut_int Try.underlying3 w3) trodAll_mk0))))) (fun _ _ => rfl) hg⟩

theorem over : Rows.fnExactBufferedRow.holds Try.pinned (OpenSpec.ofChange Rows.fnExactBufferedSpec) :=
  OpenClaim.holds_of_wide 8 Try.f8 rfl rfl rfl rfl rfl rfl rfl ⟨rfl, rfl, rfl, rfl, rfl⟩ rfl rfl rfl rfl rfl (by kernel_rfl) Try.func8 (by kernel_rfl)
    (of_decide_eq_true (by kernel_rfl)) (by unfold Func.isWrapper; first | (rw [if_pos (by decide +kernel)]; kernel_rfl) | (rw [if_neg (by decide +kernel)]; exact ⟨rfl, rfl⟩))
    (fun os started H enc _ => lifted os started H enc)

theorem proved : Rows.FnExactBufferedSaid :=
  over
#print axioms proved
end Go.Proofs.Ythkfpbknfjapaaa.fnExactBuffered
