/-
  For all bytes: a drawn clock that is run to a time half way, and then on, fires as at once, and stands as it does then; and it fires as the specification's.
-/
import Derived.Test.YthihgjcnjgpegaaRows
import Derived.Test.YthihgjcnjgpegaaDrawR
import Derived.Test.YthihgjcnjgpegaaHalf
import Derived.Test.YthihgjcnjgpegaaOnto
import Derived.Test.YthihgjcnjgpegaaRunI
import Derived.Test.YthihgjcnjgpegaaRunS
import Derived.ChangeMaps
namespace Go.Proofs.Ythihgjcnjgpegaa.fnPieces
open Go.ChangeShapes Go.WideShapes Go.ChangeAt Go.RowKit
set_option linter.unusedVariables false

theorem own : ownKnob Try.prog.godebug = none := by kernel_rfl

theorem run_no (c : ClockD) (u : Int) (h : (runA c u).2.2 = false) : ∃ n l' fs, runA c u = ((n, l'), fs, false) ∧ fs.length ≤ 2000 := by
  refine ⟨0, [], [], ?_, by simp⟩
  unfold runA at h ⊢
  split
  · rename_i hg
    rw [if_pos hg] at h
    cases hr : runM u 2000 c.2 with
    | none => rfl
    | some r => rw [hr] at h; cases h
  · rfl
set_option maxRecDepth 100000 in
set_option maxHeartbeats 4000000 in
theorem walk (ao : Option Addr) (len cap : Nat) (w : World) (hm : len ≤ maxLen) (h : Code w ao len) :
    Calls Try.prog 3 #[.slice ao len cap] w fun e w' => e = .returned (.bool true) ∧ Kept w w' := by
  have hm' : len ≤ 9223372036854775807 := hm
  clear hm
  by_cases hl : len ≤ 1048576
  · have hdl : decide ((1048576 : Int) < (len : Int)) = false := by simp; omega
    go_enter Try.func3, Try.ntmps3
    repeat (first | go_values | go_skip | go_guarded | go_step | go_upon)
    go_at_call 10
    refine (drawRun ao len cap _ h hl).mono ?_
    rintro e w1 ⟨v1, c, u, rfl, o1, K1⟩
    have K0 := K1
    clear h hdl hm'
    obtain ⟨ao1, cap1, hfm⟩ := o1.form
    subst hfm
    dsimp only
    repeat (first | go_values | go_skip | go_guarded | go_step | go_upon)
    have LC := Loc.new w1 [.int .i64 c.1, .slice ao1 c.2.length cap1] 25
    have o1 := o1.kept ((But.refl _ _ w1).alloc (.cells #[.int .i64 c.1, .slice ao1 c.2.length cap1] 25))
    have K1 := K1.alloc (.cells #[.int .i64 c.1, .slice ao1 c.2.length cap1] 25)
    have hcw : w.heap.size ≤ w1.heap.size := K0.size
    cases hok : (runA c u).2.2 with
    | false =>
      obtain ⟨n, l', fs, e1, hfs⟩ := run_no c u hok
      go_at_call 11
      have hI := implRun c u _ _ (ClockO.at o1)
      rw [e1] at hI
      refine hI.mono ?_
      clear hI
      rintro e w2 ⟨v2, f2, rfl, o2, p2, k2⟩
      have K2 := K1.trans k2
      have LC := LC.kept k2
      have o1 := o1.kept k2
      obtain ⟨ao2, cap2, hfm⟩ := o2.form
      subst hfm
      obtain ⟨af2, cf2, hfm⟩ := row_nil (own_row p2.1)
      subst hfm
      have c0 := LC.cell 0 rfl
      have c1 := LC.cell 1 rfl
      have hc := LC.lt
      dsimp only
      repeat (first | go_values | go_skip | go_guarded | go_step | go_upon)
      have LX := Loc.new w2 [.int .i64 n, .slice ao2 l'.length cap2] 25
      have LC := LC.alloc (.cells #[.int .i64 n, .slice ao2 l'.length cap2] 25)
      have k2 : Kept w2 (w2.alloc (.cells #[.int .i64 n, .slice ao2 l'.length cap2] 25)) := (But.refl _ _ _).alloc _
      have o1 := o1.kept k2
      have o2 := o2.kept k2
      have p2 := p2.kept k2
      have K2 := K2.trans k2
      clear k2
      go_at_call 12
      have hS := specRun c u _ _ (ClockO.at o1)
      rw [e1] at hS
      refine hS.mono ?_
      clear hS
      rintro e w3 ⟨v3, f3, rfl, o3, p3, k3⟩
      have K3 := K2.trans k3
      have LC := LC.kept k3
      have LX := LX.kept k3
      have o1 := o1.kept k3
      have o2 := o2.kept k3
      have p2 := p2.kept k3
      obtain ⟨ao3, cap3, hfm⟩ := o3.form
      subst hfm
      obtain ⟨af3, cf3, hfm⟩ := row_nil (own_row p3.1)
      subst hfm
      clear c0 c1 hc k3 o3
      have c0 := LC.cell 0 rfl
      have c1 := LC.cell 1 rfl
      have hc := LC.lt
      dsimp only
      repeat (first | go_values | go_skip | go_guarded | go_step | go_upon)
      have k3 : Kept w3 (w3.alloc (.cells #[.int .i64 n, .slice ao3 l'.length cap3] 25)) := (But.refl _ _ _).alloc _
      go_at_call 13
      refine (sameFired fs _ _ _ (FiredO.at (p2.kept k3)) (FiredO.at (p3.kept k3)) (by omega)).mono ?_
      rintro e w4 ⟨rfl, k4⟩
      have k4 := k3.trans k4
      have K4 := K3.trans k4
      have LC := LC.kept k4
      have LX := LX.kept k4
      have o1 := o1.kept k4
      have o2 := o2.kept k4
      have p2 := p2.kept k4
      clear c0 c1 hc k3 k4 p3
      have c0 := LC.cell 0 rfl
      have c1 := LC.cell 1 rfl
      have hc := LC.lt
      dsimp only
      repeat (first | go_values | go_skip | go_guarded | go_step | go_upon)
      go_ret
      exact ⟨rfl, K4⟩
    | true =>
      obtain ⟨l', fs, l1, a, b, e1, e2, e3, e4, g0, g1, g2, hfs, hl'⟩ := half_run c u hok
      obtain ⟨n, hn⟩ : ∃ n, n = u := ⟨u, rfl⟩
      have e1 : runA c u = ((n, l'), fs, true) := by rw [hn]; exact e1
      have Hn : Hid _ := hn
      clear hn
      go_at_call 11
      have hI := implRun c u _ _ (ClockO.at o1)
      rw [e1] at hI
      refine hI.mono ?_
      clear hI
      rintro e w2 ⟨v2, f2, rfl, o2, p2, k2⟩
      have K2 := K1.trans k2
      have LC := LC.kept k2
      have o1 := o1.kept k2
      obtain ⟨ao2, cap2, hfm⟩ := o2.form
      subst hfm
      obtain ⟨af2, cf2, hfm⟩ := row_nil (own_row p2.1)
      subst hfm
      have c0 := LC.cell 0 rfl
      have c1 := LC.cell 1 rfl
      have hc := LC.lt
      dsimp only
      repeat (first | go_values | go_skip | go_guarded | go_step | go_upon)
      have LX := Loc.new w2 [.int .i64 n, .slice ao2 l'.length cap2] 25
      have LC := LC.alloc (.cells #[.int .i64 n, .slice ao2 l'.length cap2] 25)
      have k2 : Kept w2 (w2.alloc (.cells #[.int .i64 n, .slice ao2 l'.length cap2] 25)) := (But.refl _ _ _).alloc _
      have o1 := o1.kept k2
      have o2 := o2.kept k2
      have p2 := p2.kept k2
      have K2 := K2.trans k2
      clear k2
      go_at_call 12
      have hS := specRun c u _ _ (ClockO.at o1)
      rw [e1] at hS
      refine hS.mono ?_
      clear hS
      rintro e w3 ⟨v3, f3, rfl, o3, p3, k3⟩
      have K3 := K2.trans k3
      have LC := LC.kept k3
      have LX := LX.kept k3
      have o1 := o1.kept k3
      have o2 := o2.kept k3
      have p2 := p2.kept k3
      obtain ⟨ao3, cap3, hfm⟩ := o3.form
      subst hfm
      obtain ⟨af3, cf3, hfm⟩ := row_nil (own_row p3.1)
      subst hfm
      clear c0 c1 hc k3 o3
      have c0 := LC.cell 0 rfl
      have c1 := LC.cell 1 rfl
      have hc := LC.lt
      dsimp only
      repeat (first | go_values | go_skip | go_guarded | go_step | go_upon)
      have k3 : Kept w3 (w3.alloc (.cells #[.int .i64 n, .slice ao3 l'.length cap3] 25)) := (But.refl _ _ _).alloc _
      go_at_call 13
      refine (sameFired fs _ _ _ (FiredO.at (p2.kept k3)) (FiredO.at (p3.kept k3)) (by omega)).mono ?_
      rintro e w4 ⟨rfl, k4⟩
      have k4 := k3.trans k4
      have K4 := K3.trans k4
      have LC := LC.kept k4
      have LX := LX.kept k4
      have o1 := o1.kept k4
      have o2 := o2.kept k4
      have p2 := p2.kept k4
      clear c0 c1 hc k3 k4 p3
      have c0 := LC.cell 0 rfl
      have c1 := LC.cell 1 rfl
      have hc := LC.lt
      dsimp only
      repeat (first | go_values | go_skip | go_guarded | go_step | go_upon)
      have e3 : runA (halfT c u, l1) u = ((n, l'), b, true) := by rw [e3, Hn.out]
      clear Hn
      have hlen : a.length + b.length ≤ 2000 := by rw [← List.length_append, e4]; exact hfs
      have hx4 := LX.lt
      go_at_call 11
      have hI := implRun c (halfT c u) _ _ (ClockO.at o1)
      rw [e2] at hI
      refine hI.mono ?_
      clear hI
      rintro e w5 ⟨v5, f5, rfl, o5, p5, k5⟩
      have hw45 := k5.size
      have K5 := K4.trans k5
      have LX := LX.kept k5
      have o2 := o2.kept k5
      have p2 := p2.kept k5
      obtain ⟨ao5, cap5, hfm⟩ := o5.form
      subst hfm
      obtain ⟨af5, cf5, hfm⟩ := row_nil (own_row p5.1)
      subst hfm
      have hx5 := LX.lt
      clear c0 c1 hc o1 LC
      dsimp only
      repeat (first | go_values | go_skip | go_guarded | go_step | go_upon)
      have LY := Loc.new w5 [.int .i64 (halfT c u), .slice ao5 l1.length cap5] 25
      have k5 : Kept w5 (w5.alloc (.cells #[.int .i64 (halfT c u), .slice ao5 l1.length cap5] 25)) := (But.refl _ _ _).alloc _
      have LX := LX.kept k5
      have o2 := o2.kept k5
      have p2 := p2.kept k5
      have o5 := o5.kept k5
      have p5 := p5.kept k5
      have K5 := K5.trans k5
      go_at_call 11
      have hI := implRun (halfT c u, l1) u _ _ (ClockO.at o5)
      rw [e3] at hI
      refine hI.mono ?_
      clear hI
      rintro e w6 ⟨v6, f6, rfl, o6, p6, k6⟩
      have hw56 := (LY.kept k6).lt
      have K6 := K5.trans k6
      have LX := LX.kept k6
      have o2 := o2.kept k6
      have p2 := p2.kept k6
      have p5 := p5.kept k6
      obtain ⟨ao6, cap6, hfm⟩ := o6.form
      subst hfm
      obtain ⟨af6, cf6, hfm⟩ := row_nil (own_row p6.1)
      subst hfm
      have hx6 := LX.lt
      clear LY o5
      have hs5 : w4.heap.size ≤ w5.heap.size := hw45
      have hs6 : w5.heap.size < w6.heap.size := hw56
      have ob5 : ∀ g, (Value.slice af5 a.length cf5).ownBlock = some g → w4.heap.size ≤ g ∧ g < w5.heap.size := fun g hg => ⟨(own_lt p5.1 hg).1, p5.2 g hg⟩
      have LZ := Loc.new w6 [.int .i64 n, .slice ao6 l'.length cap6] 25
      have k6 : Kept w6 (w6.alloc (.cells #[.int .i64 n, .slice ao6 l'.length cap6] 25)) := (But.refl _ _ _).alloc _
      have LX := LX.kept k6
      have o2 := o2.row.kept k6
      have p2 := p2.kept k6
      have p5 := p5.kept k6
      have o6 := o6.row.kept k6
      have p6 := p6.kept k6
      have K6 := K6.trans k6
      clear k5
      dsimp only
      repeat (first | (at_builtin; refine app_onto (by rfl) (.tmp 76) (.tmp 77) rfl w4.heap.size cf5 cf6 af5 af6 a b rfl rfl p5.1 (FiredO.at p6) (by omega) (by simp; omega) ?_; intro v7 w7 o7 g7) | go_values | go_skip | go_guarded | go_step | go_upon)
      go_at_call 13
      rw [e4] at o7
      have p2 : FiredO _ _ _ _ _ := RowO.grown p2 g7 (ap_low p2 p5 (by omega))
      have o2 : TimerO _ _ _ _ _ := RowO.grown o2 g7 (ap_types o2 p5 (by decide))
      have o6 : TimerO _ _ _ _ _ := RowO.grown o6 g7 (ap_types o6 p5 (by decide))
      have LX := LX.grown g7 (fun x => by have := ob5 _ x; omega)
      have LZ := LZ.grown g7 (fun x => by have := ob5 _ x; omega)
      have K7 : Kept w w7 := But.grown K6 g7 (fun k hk => .inl (by have := ob5 k hk; have := K4.size; omega))
      refine (sameFired fs _ _ _ (FiredO.at o7) (FiredO.at p2) (by omega)).mono ?_
      rintro e w8 ⟨rfl, k8⟩
      have K8 := K7.trans k8
      have LX := LX.kept k8
      have LZ := LZ.kept k8
      have o2 := o2.kept k8
      have o6 := o6.kept k8
      have x0 := LX.cell 0 rfl
      have x1 := LX.cell 1 rfl
      have z0 := LZ.cell 0 rfl
      have z1 := LZ.cell 1 rfl
      dsimp only
      repeat (first | go_values | go_skip | go_guarded | go_step | go_upon)
      go_at_call 14
      refine (sameTimers l' _ _ _ (TimerO.at o2) (TimerO.at o6) (by omega)).mono ?_
      rintro e w9 ⟨rfl, k9⟩
      have K9 := K8.trans k9
      dsimp only
      repeat (first | go_values | go_skip | go_guarded | go_step | go_upon)
      go_ret
      exact ⟨rfl, K9⟩
  · have hdl : decide ((1048576 : Int) < (len : Int)) = true := by simp; omega
    go_enter Try.func3, Try.ntmps3
    repeat (first | go_values | go_skip | go_guarded | go_step | go_upon)
    go_ret
    exact ⟨rfl, But.refl _ _ _⟩

set_option maxRecDepth 100000 in
theorem lifted (os : Os) (started : os.Started) (H : Type) (enc : TypeId × Value → H) :
    ReturnsInHanded {} Try.checked os 3 .any (Rows.fnPiecesSpec.pre6 enc Try.prog Try.f3 Rows.fnPiecesRow.domain false) (Rows.fnPiecesSpec.post enc Try.prog Try.f3 false true false false) := by
  refine returnsInHanded_of_change (C := Try.checked) own started (by kernel_rfl) Try.func3
    (ChangeSpec.witness6 (enc := enc) (C := Try.checked) false ⟨#[], #[.slice none 0 0], []⟩ 8 (by kernel_rfl) (by kernel_rfl) (by kernel_rfl) (by kernel_rfl)) ?_
  intro W base args ds gs before hval0 hW hcnd _
  have hval : ∀ (j : Nat) t v, Try.f3.params[j]? = some t → args[j]? = some v → Value.okWide Try.prog W .any base t v := hval0
  have hW' := hW
  obtain ⟨p, q, hA0, hV, rfl, hfz, hnd⟩ := hW
  have hA : DataW.TrodAll enc Try.prog W 0 (fun _ => true) true Try.f3.params.toList args.toList ds p := hA0
  rw [Try.params3] at hA hval
  obtain ⟨v0, vs0, d0, ds0, p0, q0, hargs, rfl, rfl, h0, r0⟩ := trodAll_cons hA
  obtain ⟨rfl, rfl, rfl⟩ := trodAll_nil r0
  obtain rfl : args = #[v0] := by cases args; simp_all
  obtain ⟨rfl, rfl⟩ := trodVars_none hV
  obtain ⟨ao0, len0, cap0, rfl, hm0, hc0⟩ := code_of (hval 0 22 v0 rfl rfl) h0
  clear hA0 hval0
  simp only [List.append_nil] at hW'
  refine (walk ao0 len0 cap0 W hm0 hc0).mono fun e W' ⟨he, hg⟩ => ?_
  subst he
  exact ⟨_, rfl, post_of_kept (pa := _) (pv := []) hW' (fun _ _ _ => (trodAll_cons_mk (shut_bool Try.underlying4 _) trodAll_mk0)) (fun sp hsp => (trodAll_cons_mk (kept_trod (by kernel_rfl) (of_decide_eq_true (by kernel_rfl)) h0 hg (fun x hx => hW'.lt x (by simp [hx])) (fun x hx => hsp x (by simp [hx]))) trodAll_mk0)) (fun _ _ => rfl) hg⟩

theorem over : Rows.fnPiecesRow.holds Try.pinned (OpenSpec.ofChange Rows.fnPiecesSpec) :=
  OpenClaim.holds_of_wide 3 Try.f3 rfl rfl rfl rfl rfl rfl rfl ⟨rfl, rfl, rfl, rfl, rfl⟩ rfl rfl rfl rfl rfl (by kernel_rfl) Try.func3 (by kernel_rfl)
    (of_decide_eq_true (by kernel_rfl)) (by unfold Func.isWrapper; first | (rw [if_pos (by decide +kernel)]; kernel_rfl) | (rw [if_neg (by decide +kernel)]; exact ⟨rfl, rfl⟩))
    (fun os started H enc _ => lifted os started H enc)

theorem proved : Rows.FnPiecesSaid :=
  over
#print axioms proved
end Go.Proofs.Ythihgjcnjgpegaa.fnPieces
