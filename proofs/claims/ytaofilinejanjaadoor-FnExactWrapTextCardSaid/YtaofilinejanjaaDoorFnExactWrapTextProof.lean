/-
  At every text and every width the program's WrapText answers what the specification's WrapText answers; its answer owns its memory; the tables of Go's library that the program's text lays are read by no way that is taken.
-/
import Derived.Test.YtaofilinejanjaaDoorTie
import Derived.Test.YtaofilinejanjaaDoorCards
import Derived.Test.YtaofilinejanjaaDoorTxtM
import Derived.Test.YtaofilinejanjaaDoorWrapS18
import Derived.Test.YtaofilinejanjaaDoorWrapI18
import Derived.LaidMore
import Derived.LaidHandle
import Derived.Lay
import Derived.HandedShaped
import Derived.Stop.Joined
import Derived.SevenTiedAt
import Derived.ChangeMaps
namespace Go.Proofs.YtaofilinejanjaaDoor.fnExactWrapText
open Go.ChangeShapes Go.WideShapes Go.ChangeAt Go.RowKit
set_option linter.unusedVariables false

theorem own : ownKnob Tryd.prog.godebug = none := by kernel_rfl
def laid2 : List (String × DataW Unit) := [("unicode/utf8.acceptRanges", Rows.laid_unicode_utf8_acceptRanges), ("unicode/utf8.first", Rows.laid_unicode_utf8_first)]
theorem gm_kept {w w' : World} (h : ∃ m, w.cell? ⟨0, 0, none⟩ = some (.int .i64 m)) (k : Kept w w') : ∃ m, w'.cell? ⟨0, 0, none⟩ = some (.int .i64 m) := by
  obtain ⟨m, hm⟩ := h
  exact ⟨m, Kept.cell k hm⟩
set_option maxRecDepth 100000 in
set_option maxHeartbeats 8000000 in
theorem walk (s : ByteArray) (wide : Int) (R : List TxtD) (jb : Bool) (w : World) (hm : ∃ m, w.cell? ⟨0, 0, none⟩ = some (.int .i64 m)) (hn : s.size ≤ 1048576) (hR : R.length ≤ 100000000)
    (hS : ∀ (u : World), (∃ m, u.cell? ⟨0, 0, none⟩ = some (.int .i64 m)) → Calls Tryd.prog 11 #[.string s, .int .i64 wide] u fun e u' => ∃ v', e = .returned (.tuple #[v', .bool jb]) ∧ TxtO u' u.heap.size u'.heap.size v' R ∧ Kept u u')
    (hI : ∀ (u : World), (∃ m, u.cell? ⟨0, 0, none⟩ = some (.int .i64 m)) → Calls Tryd.prog 10 #[.string s, .int .i64 wide] u fun e u' => ∃ v', e = .returned (.tuple #[v', .bool jb]) ∧ TxtO u' u.heap.size u'.heap.size v' R ∧ Kept u u') :
    Calls Tryd.prog 4 #[.string s, .int .i64 wide] w fun e w' => e = .returned (.bool true) ∧ Kept w w' := by
  have hdl : decide ((1048576 : Int) < (s.size : Int)) = false := by simp; omega
  obtain ⟨qd, hHD⟩ : ∃ q : Nat, 1 + R.length = q := ⟨_, rfl⟩
  have HD : Hid (1 + R.length = qd) := hHD
  have bHD : qd ≤ 200000000 := by omega
  have dHD : decide ((qd : Int) < 0) = false := by simp
  clear hHD
  have HS : Hid (∀ (u : World), (∃ m, u.cell? ⟨0, 0, none⟩ = some (.int .i64 m)) → Calls Tryd.prog 11 #[.string s, .int .i64 wide] u fun e u' => ∃ v', e = .returned (.tuple #[v', .bool jb]) ∧ TxtO u' u.heap.size u'.heap.size v' R ∧ Kept u u') := hS
  have HI : Hid (∀ (u : World), (∃ m, u.cell? ⟨0, 0, none⟩ = some (.int .i64 m)) → Calls Tryd.prog 10 #[.string s, .int .i64 wide] u fun e u' => ∃ v', e = .returned (.tuple #[v', .bool jb]) ∧ TxtO u' u.heap.size u'.heap.size v' R ∧ Kept u u') := hI
  clear hS hI
  go_enter Tryd.func4, Tryd.ntmps4
  repeat (first | go_values | go_skip | go_guarded | go_step | go_upon)
  go_at_call 11
  refine (HS.out _ hm).mono ?_
  rintro e u1 ⟨v1, rfl, ow, k1⟩
  have K1 := k1
  have s1 := k1.size
  clear k1
  obtain ⟨ao1, cap1, hfm⟩ := ow.form
  subst hfm
  dsimp only
  repeat (first | go_values | go_skip | go_guarded | go_step | go_upon)
  go_at_call 10
  refine (HI.out _ (gm_kept hm K1)).mono ?_
  rintro e u2 ⟨v2, rfl, og, k2⟩
  have K2 := K1.trans k2
  have ow := ow.kept k2
  have s2 := k2.size
  clear k2 K1
  obtain ⟨ao2, cap2, hfm⟩ := og.form
  subst hfm
  dsimp only
  repeat (first | go_values | go_skip | go_guarded | go_step | go_upon)
  go_at_call 15
  refine (eqTxtS R _ _ _ og.at ow.at (by omega)).mono ?_
  rintro e u3 ⟨rfl, k3⟩
  have K3 := K2.trans k3
  have ow := ow.kept k3
  have og := og.kept k3
  have s3 := k3.size
  clear k3 K2
  dsimp only
  repeat (first | go_values | go_skip | go_guarded | go_step | go_upon)
  go_at_call 16
  refine (markTxtS R _ 1 u1.heap.size u2.heap.size _ og (by omega)).mono ?_
  rintro e u4 ⟨rfl, og2, b4⟩
  rw [HD.out]
  have k4 := b4.inner og
  have K4 := K3.onto k4 (by omega)
  have ow := ow.but k4 (by omega)
  have s4 := k4.size
  clear b4 k4 K3 og
  dsimp only
  repeat (first | go_values | go_skip | go_guarded | go_step | go_upon)
  go_at_call 17
  refine (heldTxtS R.length _ 1 _ og2.at (by omega)).mono ?_
  rintro e u5 ⟨rfl, k5⟩
  rw [HD.out]
  have K5 := K4.trans k5
  have ow := ow.kept k5
  have og2 := og2.kept k5
  have s5 := k5.size
  clear k5 K4
  dsimp only
  repeat (first | go_values | go_skip | go_guarded | go_step | go_upon)
  go_at_call 10
  refine (HI.out _ (gm_kept hm K5)).mono ?_
  rintro e u6 ⟨v6, rfl, oh, k6⟩
  have K6 := K5.trans k6
  have ow := ow.kept k6
  have og2 := og2.kept k6
  have s6 := k6.size
  clear k6 K5
  obtain ⟨ao6, cap6, hfm⟩ := oh.form
  subst hfm
  dsimp only
  repeat (first | go_values | go_skip | go_guarded | go_step | go_upon)
  go_at_call 15
  refine (eqTxtS R _ _ _ oh.at ow.at (by omega)).mono ?_
  rintro e u7 ⟨rfl, k7⟩
  have K7 := K6.trans k7
  have ow := ow.kept k7
  have og2 := og2.kept k7
  have oh := oh.kept k7
  have s7 := k7.size
  clear k7 K6
  clear oh ow
  dsimp only
  repeat (first | go_values | go_skip | go_guarded | go_step | go_upon)
  go_at_call 17
  refine (heldTxtS R.length _ 1 _ og2.at (by omega)).mono ?_
  rintro e u8 ⟨rfl, k8⟩
  rw [HD.out]
  have K8 := K7.trans k8
  have og2 := og2.kept k8
  have s8 := k8.size
  clear k8 K7
  dsimp only
  repeat (first | go_values | go_skip | go_guarded | go_step | go_upon)
  go_ret
  exact ⟨rfl, K8⟩
set_option maxRecDepth 100000 in
set_option maxHeartbeats 8000000 in
theorem big (s : ByteArray) (wide : Int) (w : World) (hlen : s.size ≤ maxLen) (hl : 1048576 < s.size) :
    Calls Tryd.prog 4 #[.string s, .int .i64 wide] w fun e w' => e = .returned (.bool true) ∧ Kept w w' := by
  unfold maxLen at hlen
  have hdl : decide ((1048576 : Int) < (s.size : Int)) = true := by simp; omega
  go_enter Tryd.func4, Tryd.ntmps4
  repeat (first | go_values | go_skip | go_guarded | go_step | go_upon)
  go_ret
  exact ⟨rfl, But.refl _ _ _⟩
theorem all (s : ByteArray) (hlen : s.size ≤ maxLen) (wide : Int) (w : World) (hm : ∃ m, w.cell? ⟨0, 0, none⟩ = some (.int .i64 m)) :
    Calls Tryd.prog 4 #[.string s, .int .i64 wide] w fun e w' => e = .returned (.bool true) ∧ Kept w w' := by
  by_cases hl : s.size ≤ 1048576
  · exact walk s wide _ _ w hm hl (by have := wrapA_len s wide; omega) (fun u _ => swrap s wide u hl) (fun u h => iwrap s wide u hl h)
  · exact big s wide w hlen (by omega)


set_option maxRecDepth 100000 in
theorem lifted (os : Os) (started : os.Started) (H : Type) (enc : TypeId × Value → H) :
    ReturnsInHanded {} Tryd.checked os 4 .any (fun w args => (Rows.fnExactWrapTextSpec.pre enc Tryd.prog Tryd.f4 [] false w args ∧ laidMetH Tryd.prog laid2 w) ∧ sizedMet enc Tryd.prog Tryd.f4 (OpenSpec.ofChange Rows.fnExactWrapTextSpec) false w args)
      (Rows.fnExactWrapTextSpec.post enc Tryd.prog Tryd.f4 false true false false) := by
  refine returnsInHanded_of_calls own started (by kernel_rfl)
    (ChangeSpec.witness_shaped (enc := enc) (C := Tryd.checked) (os := os) (X := fun w _ => laidMetH Tryd.prog laid2 w) false (World.laidAll Tryd.prog os laid2) #[.string ByteArray.empty, .int .i64 0] 8 (World.laidAll_os _ _ _)
      (World.shaped_of_ZipB (by kernel_rfl) (by kernel_rfl)) (by kernel_rfl) (by kernel_rfl) (by kernel_rfl)
      (by rw [MakeChecks.laidMetH_plain _ _ _ (by kernel_rfl)]; exact laidMet_laidAll _ (by kernel_rfl) (by kernel_rfl))) ?_
  intro w0 tape i0 _ hsh _ hok hpre _
  obtain ⟨_, _, _, fn', hfn', _, _, _, _, hval1⟩ := hok
  obtain rfl : fn' = Tryd.f4 := Option.some.inj (hfn'.symm.trans Tryd.func4)
  obtain ⟨⟨⟨ds, gs, before, hw0, _⟩, _⟩, _⟩ := hpre
  have hW := DataW.Whole.of_heap (w' := w0.forCall tape i0) (by rfl) hw0
  have hgm := Tryd.laysM146.s1_3 _ hsh
  obtain ⟨W, hWe⟩ : ∃ W, w0.forCall tape i0 = W := ⟨_, rfl⟩
  obtain ⟨args, hae⟩ : ∃ a, i0.args = a := ⟨_, rfl⟩
  obtain ⟨base, hbe⟩ : ∃ b, w0.heap.size = b := ⟨_, rfl⟩
  rw [hWe] at hW hgm hval1 ⊢
  rw [hae] at hW hval1 ⊢
  rw [hbe] at hval1
  have hval : ∀ (j : Nat) t v, Tryd.f4.params[j]? = some t → args[j]? = some v → Value.okWide Tryd.prog W .any base t v := hval1
  suffices hmain : Calls Tryd.prog 4 args W fun e W' => ∃ v, e = .returned v ∧ Rows.fnExactWrapTextSpec.post enc Tryd.prog Tryd.f4 false true false false W args v W' by
    refine hmain.mono fun e W' ⟨v, he, hp⟩ => ?_
    subst he
    exact ChangeSpec.post_blind hp
  clear hval1 hw0 hsh hfn' hWe hae hbe
  have hW' := hW
  obtain ⟨p, q, hA0, hV, rfl, hfz, hnd⟩ := hW
  have hA : DataW.TrodAll enc Tryd.prog W 0 (fun _ => true) true Tryd.f4.params.toList args.toList ds p := hA0
  rw [Tryd.params4] at hA hval
  obtain ⟨v0, vs0, d0, ds0, p0, q0, hargs, rfl, rfl, h0, r0⟩ := trodAll_cons hA
  obtain ⟨v1, vs1, d1, ds1, p1, q1, rfl, rfl, rfl, h1, r1⟩ := trodAll_cons r0
  obtain ⟨rfl, rfl, rfl⟩ := trodAll_nil r1
  obtain rfl : args = #[v0, v1] := by cases args; simp_all
  obtain ⟨rfl, rfl⟩ := trodVars_none hV
  obtain ⟨a0, rfl, rfl, rfl, w0⟩ := Go.ChangeMaps.open_string Tryd.underlying9 (hval 0 9 v0 rfl rfl) h0
  obtain ⟨a1, rfl, rfl, rfl, w1⟩ := open_int Tryd.underlying3 (hval 1 3 v1 rfl rfl) h1
  clear hA0
  simp only [List.append_nil] at hW'
  refine (all a0 w0 a1 W hgm).mono fun e W' ⟨he, hgr⟩ => ?_
  subst he
  exact ⟨_, rfl, post_of_kept (pa := _) (pv := []) hW' (fun _ _ _ => (trodAll_cons_mk (shut_bool Tryd.underlying4 _) trodAll_mk0)) (fun sp hsp => (trodAll_cons_mk (Go.ChangeMaps.shut_string Tryd.underlying9 w0) (trodAll_cons_mk (shut_int Tryd.underlying3 w1) trodAll_mk0))) (fun _ _ => rfl) hgr⟩

set_option maxRecDepth 100000 in
theorem holds : Rows.FnExactWrapTextSaid :=
  OpenClaim.holds_of_wide 4 Tryd.f4 rfl rfl rfl rfl rfl rfl rfl ⟨rfl, rfl, rfl, rfl, rfl⟩ rfl rfl rfl rfl rfl (by kernel_rfl) Tryd.func4 (by kernel_rfl)
    (of_decide_eq_true (by kernel_rfl)) (by unfold Func.isWrapper; first | (rw [if_pos (by decide +kernel)]; kernel_rfl) | (rw [if_neg (by decide +kernel)]; exact ⟨rfl, rfl⟩))
    (fun os started H enc _ => lifted os started H enc)

set_option maxRecDepth 100000 in
theorem proved : Rows.FnExactWrapTextCardSaid :=
  Claim7.holds_tied_plain_at .later [] [.data, .pinned] true (true, "8fea974356e7936a2fd8fa4d4b9147be097cc5898513cb0df4026da03d2ab35b") false
    holds (fun _ h => by cases h) (by kernel_rfl) (fun _ h => by cases h) fnExactWrapText_row_tie rfl ⟨rfl, rfl⟩ (by kernel_rfl) rfl
    (fun f fn hf hfn => by
      obtain rfl : f = 4 := Option.some.inj ((show Tryd.prog.funcNamed "loop.example/g00064/laws.FnExactWrapText" = some 4 by kernel_rfl).symm.trans hf) |>.symm
      obtain rfl : fn = Tryd.f4 := (Option.some.inj (Tryd.func4.symm.trans hfn)).symm
      exact ⟨by kernel_rfl, fun j t ht => by
        rw [Tryd.params4] at ht
        have hm : t ∈ [9, 3] := by simpa using Array.mem_of_getElem? ht
        have hall : ([9, 3].all fun u => !Tryd.prog.wantsStandIn u) = true := by kernel_rfl
        exact (show Tryd.prog.wantsStandIn t = false by simpa using List.all_eq_true.1 hall t (by simpa using hm))⟩)
    (by kernel_rfl)
#print axioms proved
end Go.Proofs.YtaofilinejanjaaDoor.fnExactWrapText
