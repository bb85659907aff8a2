/-
  At every version, values and changes the program's MigrateSave answers what the specification's MigrateSave answers, writes into no argument and keeps nothing of one; its answer owns its memory. What the errors' variables hold is tied to the program's text by the given tie.
-/
import Derived.Test.YtklgjhemcofhhaaDoorTie
import Derived.Test.YtklgjhemcofhhaaDoorCards
import Derived.Test.YtklgjhemcofhhaaDoorValF
import Derived.Test.YtklgjhemcofhhaaDoorValR
import Derived.Test.YtklgjhemcofhhaaDoorValM
import Derived.Test.YtklgjhemcofhhaaDoorChgF
import Derived.Test.YtklgjhemcofhhaaDoorChgO
import Derived.Test.YtklgjhemcofhhaaDoorChgM
import Derived.Test.YtklgjhemcofhhaaDoorSMig22
import Derived.Test.YtklgjhemcofhhaaDoorMigI22
import Derived.LaidMore
import Derived.LaidHandle
import Derived.Lay
import Derived.HandedShaped
import Derived.Stop.Joined
import Derived.Stop.LaidErr
import Derived.SevenTiedAt
import Derived.ChangeMaps
namespace Go.Proofs.YtklgjhemcofhhaaDoor.fnExactMigrateSave
open Go.ChangeShapes Go.WideShapes Go.ChangeAt Go.RowKit
set_option linter.unusedVariables false

theorem own : ownKnob Tryd.prog.godebug = none := by kernel_rfl
def laid4 : List (String × DataW Unit) := [("loop.example/g00064/impl.errArguments", Rows.laid_loop_example_g00064_impl_errArguments), ("loop.example/g00064/impl.errTaken", Rows.laid_loop_example_g00064_impl_errTaken), ("loop.example/g00064/impl.errBeyond", Rows.laid_loop_example_g00064_impl_errBeyond), ("loop.example/g00064/impl.errCrowded", Rows.laid_loop_example_g00064_impl_errCrowded)]
theorem g_errArguments : Tryd.prog.globalNamed "loop.example/g00064/impl.errArguments" = some 1 := by kernel_rfl
theorem t_errArguments : (Tryd.prog.globals[1]?).map (·.type) = some 58 := by kernel_rfl
theorem g_errCrowded : Tryd.prog.globalNamed "loop.example/g00064/impl.errCrowded" = some 7 := by kernel_rfl
theorem t_errCrowded : (Tryd.prog.globals[7]?).map (·.type) = some 58 := by kernel_rfl
theorem g_errTaken : Tryd.prog.globalNamed "loop.example/g00064/impl.errTaken" = some 9 := by kernel_rfl
theorem t_errTaken : (Tryd.prog.globals[9]?).map (·.type) = some 58 := by kernel_rfl
theorem g_errBeyond : Tryd.prog.globalNamed "loop.example/g00064/impl.errBeyond" = some 10 := by kernel_rfl
theorem t_errBeyond : (Tryd.prog.globals[10]?).map (·.type) = some 58 := by kernel_rfl
theorem star_es : "*" ++ "errors.errorString" = "*errors.errorString" := by decide
theorem row_es (u : TypeId) (h : Tryd.prog.typeName? 3 u = some "*errors.errorString") : u = 149 :=
  typeName_ptr_named (nm := "errors.errorString") (by rw [star_es]; kernel_rfl) (by kernel_rfl) (by decide) u (by rw [star_es]; exact h)
theorem cells_es : Tryd.prog.cellsOf 168 = 1 := by kernel_rfl
theorem cells_str : Tryd.prog.cellsOf 9 = 1 := by kernel_rfl
/-- What the variables hold. -/
theorem held_of_laid {W : World} (h : laidMetH Tryd.prog laid4 W) : ∃ a0 a1 a2 a3 : Addr,
    W.var? Tryd.prog "loop.example/g00064/impl.errArguments" = some #[.iface 149 (.pointer (some a0))] ∧ W.var? Tryd.prog "loop.example/g00064/impl.errCrowded" = some #[.iface 149 (.pointer (some a1))] ∧ W.var? Tryd.prog "loop.example/g00064/impl.errTaken" = some #[.iface 149 (.pointer (some a2))] ∧ W.var? Tryd.prog "loop.example/g00064/impl.errBeyond" = some #[.iface 149 (.pointer (some a3))] := by
  rw [MakeChecks.laidMetH_plain _ _ _ (by kernel_rfl)] at h
  obtain ⟨b0, s0, v0, _⟩ := laid_sentinel h g_errArguments t_errArguments Tryd.underlying58 row_es Tryd.underlying149 Tryd.underlying168 rfl rfl Tryd.underlying9 cells_es cells_str
  obtain ⟨b1, s1, v1, _⟩ := laid_sentinel (laidMet.tail h) g_errTaken t_errTaken Tryd.underlying58 row_es Tryd.underlying149 Tryd.underlying168 rfl rfl Tryd.underlying9 cells_es cells_str
  obtain ⟨b2, s2, v2, _⟩ := laid_sentinel (laidMet.tail (laidMet.tail h)) g_errBeyond t_errBeyond Tryd.underlying58 row_es Tryd.underlying149 Tryd.underlying168 rfl rfl Tryd.underlying9 cells_es cells_str
  obtain ⟨b3, s3, v3, _⟩ := laid_sentinel (laidMet.tail (laidMet.tail (laidMet.tail h))) g_errCrowded t_errCrowded Tryd.underlying58 row_es Tryd.underlying149 Tryd.underlying168 rfl rfl Tryd.underlying9 cells_es cells_str
  exact ⟨b0, b3, b1, b2, v0, v3, v1, v2⟩
theorem cell_of_var {W : World} {n : String} {g : Nat} {x : Value} (hg : Tryd.prog.globalNamed n = some g) (h : W.var? Tryd.prog n = some #[x]) : W.cell? ⟨g, 0, none⟩ = some x := by simpa using World.var?_cell hg h 0
theorem var_kept {W W' : World} {n : String} {g : Nat} {x : Value} (hg : Tryd.prog.globalNamed n = some g) (h : W.var? Tryd.prog n = some #[x]) (k : Kept W W') : W'.var? Tryd.prog n = some #[x] := by
  have hl := World.block_lt_of_cell? _ _ (cell_of_var hg h)
  have e := k.block g hl (by omega)
  simp only [World.var?, hg, Option.bind_some] at h ⊢
  rw [e]
  exact h
theorem vars_read {H : Type} (enc : TypeId × Value → H) {W : World} {x0 x1 x2 x3 : Value} (h0 : W.var? Tryd.prog "loop.example/g00064/impl.errArguments" = some #[x0]) (i0 : IsIface x0) (h1 : W.var? Tryd.prog "loop.example/g00064/impl.errCrowded" = some #[x1]) (i1 : IsIface x1) (h2 : W.var? Tryd.prog "loop.example/g00064/impl.errTaken" = some #[x2]) (i2 : IsIface x2) (h3 : W.var? Tryd.prog "loop.example/g00064/impl.errBeyond" = some #[x3]) (i3 : IsIface x3) (sp : Nat → Bool) :
    DataW.TrodVars enc Tryd.prog W sp ["loop.example/g00064/impl.errArguments", "loop.example/g00064/impl.errCrowded", "loop.example/g00064/impl.errTaken", "loop.example/g00064/impl.errBeyond"] [tok enc x0, tok enc x1, tok enc x2, tok enc x3] [.cell 1 0, .cell 7 0, .cell 9 0, .cell 10 0] :=
  ⟨1, 58, #[x0], 1, [], [.cell 7 0, .cell 9 0, .cell 10 0], g_errArguments, t_errArguments, h0, trod_held Tryd.underlying58 i0 0, ⟨7, 58, #[x1], 1, [], [.cell 9 0, .cell 10 0], g_errCrowded, t_errCrowded, h1, trod_held Tryd.underlying58 i1 0, ⟨9, 58, #[x2], 1, [], [.cell 10 0], g_errTaken, t_errTaken, h2, trod_held Tryd.underlying58 i2 0, ⟨10, 58, #[x3], 1, [], [], g_errBeyond, t_errBeyond, h3, trod_held Tryd.underlying58 i3 0, rfl, rfl⟩, rfl⟩, rfl⟩, rfl⟩
set_option maxRecDepth 100000 in
set_option maxHeartbeats 8000000 in
theorem walk (x : Int) (l : List ValD) (m : List ChgD) (R : List ValD) (jb : Bool) (v v2 : Value) (w : World) (hE : ErrG w) (hv : ValAt w v l) (hv2 : ChgAt w v2 m) (hs9 : ∀ p ∈ l, p.1.size ≤ 9223372036854775807 ∧ p.2.2.size ≤ 9223372036854775807) (hs8 : ∀ p ∈ m, p.2.2.1.size ≤ 9223372036854775807 ∧ p.2.2.2.1.size ≤ 9223372036854775807) (hl : valCost l + chgCost m ≤ 1048576) (hR : R.length ≤ 100000000)
    (hS : ∀ (u : World) (v v2 : Value), ValAt u v l → ChgAt u v2 m → Calls Tryd.prog 15 #[.int .i64 x, v, v2] u fun e u' => ∃ v', e = .returned (.tuple #[v', .bool jb]) ∧ ValO u' u.heap.size u'.heap.size v' R ∧ Kept u u')
    (hI : ∀ (u : World) (v v2 : Value), ErrG u → ValAt u v l → ChgAt u v2 m → Calls Tryd.prog 18 #[.int .i64 x, v, v2] u fun e u' => ∃ v', e = .returned (.tuple #[v', .bool jb]) ∧ ValO u' u.heap.size u'.heap.size v' R ∧ Kept u u') :
    Calls Tryd.prog 4 #[.int .i64 x, v, v2] w fun e w' => e = .returned (.bool true) ∧ Kept w w' := by
  have hn : l.length ≤ 1048576 := by unfold valCost at hl; omega
  have hm : m.length ≤ 1048576 := by unfold chgCost at hl; omega
  have hd1 : decide ((1048576 : Int) - (valCost l : Int) < 0) = false := by simp; omega
  have hd2 : decide ((1048576 : Int) - (valCost l : Int) - (chgCost m : Int) < 0) = false := by simp; omega
  obtain ⟨qa, hHA⟩ : ∃ q : Nat, 1 + 3 * l.length = q := ⟨_, rfl⟩
  have HA : Hid (1 + 3 * l.length = qa) := hHA
  have bHA : qa ≤ 200000000 := by omega
  have dHA : decide ((qa : Int) < 0) = false := by simp
  clear hHA
  obtain ⟨qb, hHB⟩ : ∃ q : Nat, qa + 5 * m.length = q := ⟨_, rfl⟩
  have HB : Hid (qa + 5 * m.length = qb) := hHB
  have bHB : qb ≤ 300000000 := by omega
  have dHB : decide ((qb : Int) < 0) = false := by simp
  clear hHB
  obtain ⟨qd, hHD⟩ : ∃ q : Nat, 1 + 3 * R.length = q := ⟨_, rfl⟩
  have HD : Hid (1 + 3 * R.length = qd) := hHD
  have bHD : qd ≤ 400000000 := by omega
  have dHD : decide ((qd : Int) < 0) = false := by simp
  clear hHD
  obtain ⟨ao, cap, hfm⟩ := row_nil hv
  subst hfm
  obtain ⟨ap, caq, hfm⟩ := row_nil hv2
  subst hfm
  have HS : Hid (∀ (u : World) (v v2 : Value), ValAt u v l → ChgAt u v2 m → Calls Tryd.prog 15 #[.int .i64 x, v, v2] u fun e u' => ∃ v', e = .returned (.tuple #[v', .bool jb]) ∧ ValO u' u.heap.size u'.heap.size v' R ∧ Kept u u') := hS
  have HI : Hid (∀ (u : World) (v v2 : Value), ErrG u → ValAt u v l → ChgAt u v2 m → Calls Tryd.prog 18 #[.int .i64 x, v, v2] u fun e u' => ∃ v', e = .returned (.tuple #[v', .bool jb]) ∧ ValO u' u.heap.size u'.heap.size v' R ∧ Kept u u') := hI
  have HE : Hid (ErrG w) := hE
  clear hS hI hE
  go_enter Tryd.func4, Tryd.ntmps4
  repeat (first | go_values | go_skip | go_guarded | go_step | go_upon)
  go_at_call 13
  refine (szValS l _ _ _ hv (by omega) (by omega) (by omega) hs9).mono ?_
  rintro e u1 ⟨rfl, k1⟩
  rw [leftOf_yes (by omega)]
  have K1 := k1
  have s1 := k1.size
  clear k1
  dsimp only
  repeat (first | go_values | go_skip | go_guarded | go_step | go_upon)
  go_at_call 14
  refine (szChgS m _ _ _ (hv2.kept K1) (by omega) (by omega) (by omega) hs8).mono ?_
  rintro e u2 ⟨rfl, k2⟩
  rw [leftOf_yes (by omega)]
  have K2 := K1.trans k2
  have s2 := k2.size
  clear k2 K1
  dsimp only
  repeat (first | go_values | go_skip | go_guarded | go_step | go_upon)
  go_at_call 16
  refine (toValS l _ _ (hv.kept K2) hn).mono ?_
  rintro e u3 ⟨v3, rfl, t1, k3⟩
  have K3 := K2.trans k3
  have s3 := k3.size
  clear k3 K2
  obtain ⟨ao3, cap3, hfm⟩ := t1.form
  subst hfm
  dsimp only
  repeat (first | go_values | go_skip | go_guarded | go_step | go_upon)
  go_at_call 17
  refine (toChgS m _ _ (hv2.kept K3) hm).mono ?_
  rintro e u4 ⟨v4, rfl, t2, k4⟩
  have K4 := K3.trans k4
  have t1 := t1.kept k4
  have s4 := k4.size
  clear k4 K3
  obtain ⟨ao4, cap4, hfm⟩ := t2.form
  subst hfm
  dsimp only
  repeat (first | go_values | go_skip | go_guarded | go_step | go_upon)
  go_at_call 15
  refine (HS.out _ _ _ t1.at t2.at).mono ?_
  rintro e u5 ⟨v5, rfl, ow, k5⟩
  have K5 := K4.trans k5
  have t1 := t1.kept k5
  have t2 := t2.kept k5
  have s5 := k5.size
  clear k5 K4
  obtain ⟨ao5, cap5, hfm⟩ := ow.form
  subst hfm
  clear t1 t2
  dsimp only
  repeat (first | go_values | go_skip | go_guarded | go_step | go_upon)
  go_at_call 16
  refine (toValS l _ _ (hv.kept K5) hn).mono ?_
  rintro e u6 ⟨v6, rfl, x1, k6⟩
  have K6 := K5.trans k6
  have ow := ow.kept k6
  have s6 := k6.size
  clear k6 K5
  obtain ⟨ao6, cap6, hfm⟩ := x1.form
  subst hfm
  dsimp only
  repeat (first | go_values | go_skip | go_guarded | go_step | go_upon)
  go_at_call 17
  refine (toChgS m _ _ (hv2.kept K6) hm).mono ?_
  rintro e u7 ⟨v7, rfl, x2, k7⟩
  have K7 := K6.trans k7
  have ow := ow.kept k7
  have x1 := x1.kept k7
  have s7 := k7.size
  clear k7 K6
  obtain ⟨ao7, cap7, hfm⟩ := x2.form
  subst hfm
  dsimp only
  repeat (first | go_values | go_skip | go_guarded | go_step | go_upon)
  go_at_call 18
  refine (HI.out _ _ _ (HE.out.kept K7) x1.at x2.at).mono ?_
  rintro e u8 ⟨v8, rfl, og, k8⟩
  have K8 := K7.trans k8
  have ow := ow.kept k8
  have x1 := x1.kept k8
  have x2 := x2.kept k8
  have s8 := k8.size
  clear k8 K7
  obtain ⟨ao8, cap8, hfm⟩ := og.form
  subst hfm
  dsimp only
  repeat (first | go_values | go_skip | go_guarded | go_step | go_upon)
  go_at_call 8
  refine (eqValS R _ _ _ og.at ow.at (by omega)).mono ?_
  rintro e u9 ⟨rfl, k9⟩
  have K9 := K8.trans k9
  have ow := ow.kept k9
  have x1 := x1.kept k9
  have x2 := x2.kept k9
  have og := og.kept k9
  have s9 := k9.size
  clear k9 K8
  dsimp only
  repeat (first | go_values | go_skip | go_guarded | go_step | go_upon)
  go_at_call 16
  refine (toValS l _ _ (hv.kept K9) hn).mono ?_
  rintro e u10 ⟨v10, rfl, y1, k10⟩
  have K10 := K9.trans k10
  have ow := ow.kept k10
  have x1 := x1.kept k10
  have x2 := x2.kept k10
  have og := og.kept k10
  have s10 := k10.size
  clear k10 K9
  obtain ⟨ao10, cap10, hfm⟩ := y1.form
  subst hfm
  dsimp only
  repeat (first | go_values | go_skip | go_guarded | go_step | go_upon)
  go_at_call 8
  refine (eqValS l _ _ _ x1.at y1.at (by omega)).mono ?_
  rintro e u11 ⟨rfl, k11⟩
  have K11 := K10.trans k11
  have ow := ow.kept k11
  have x1 := x1.kept k11
  have x2 := x2.kept k11
  have og := og.kept k11
  have y1 := y1.kept k11
  have s11 := k11.size
  clear k11 K10
  clear y1
  dsimp only
  repeat (first | go_values | go_skip | go_guarded | go_step | go_upon)
  go_at_call 17
  refine (toChgS m _ _ (hv2.kept K11) hm).mono ?_
  rintro e u12 ⟨v12, rfl, y2, k12⟩
  have K12 := K11.trans k12
  have ow := ow.kept k12
  have x1 := x1.kept k12
  have x2 := x2.kept k12
  have og := og.kept k12
  have s12 := k12.size
  clear k12 K11
  obtain ⟨ao12, cap12, hfm⟩ := y2.form
  subst hfm
  dsimp only
  repeat (first | go_values | go_skip | go_guarded | go_step | go_upon)
  go_at_call 19
  refine (eqChgS m _ _ _ x2.at y2.at (by omega)).mono ?_
  rintro e u13 ⟨rfl, k13⟩
  have K13 := K12.trans k13
  have ow := ow.kept k13
  have x1 := x1.kept k13
  have x2 := x2.kept k13
  have og := og.kept k13
  have y2 := y2.kept k13
  have s13 := k13.size
  clear k13 K12
  clear y2
  dsimp only
  repeat (first | go_values | go_skip | go_guarded | go_step | go_upon)
  go_at_call 11
  refine (markValS l _ 1 u5.heap.size u6.heap.size _ x1 (by omega)).mono ?_
  rintro e u14 ⟨rfl, -, b14⟩
  rw [HA.out]
  have k14 := b14.inner x1
  have K14 := K13.onto k14 (by omega)
  have ow := ow.but k14 (by omega)
  have x2 := x2.but k14 (by omega)
  have og := og.but k14 (by omega)
  have s14 := k14.size
  clear b14 k14 K13 x1
  dsimp only
  repeat (first | go_values | go_skip | go_guarded | go_step | go_upon)
  go_at_call 20
  refine (markChgS m _ qa u6.heap.size u7.heap.size _ x2 (by omega)).mono ?_
  rintro e u15 ⟨rfl, -, b15⟩
  rw [HB.out]
  have k15 := b15.inner x2
  have K15 := K14.onto k15 (by omega)
  have ow := ow.but k15 (by omega)
  have og := og.but k15 (by omega)
  have s15 := k15.size
  clear b15 k15 K14 x2
  dsimp only
  repeat (first | go_values | go_skip | go_guarded | go_step | go_upon)
  go_at_call 8
  refine (eqValS R _ _ _ og.at ow.at (by omega)).mono ?_
  rintro e u16 ⟨rfl, k16⟩
  have K16 := K15.trans k16
  have ow := ow.kept k16
  have og := og.kept k16
  have s16 := k16.size
  clear k16 K15
  dsimp only
  repeat (first | go_values | go_skip | go_guarded | go_step | go_upon)
  go_at_call 11
  refine (markValS R _ 1 u7.heap.size u8.heap.size _ og (by omega)).mono ?_
  rintro e u17 ⟨rfl, og2, b17⟩
  rw [HD.out]
  have k17 := b17.inner og
  have K17 := K16.onto k17 (by omega)
  have ow := ow.but k17 (by omega)
  have s17 := k17.size
  clear b17 k17 K16 og
  dsimp only
  repeat (first | go_values | go_skip | go_guarded | go_step | go_upon)
  go_at_call 12
  refine (heldValS R.length _ 1 _ og2.at (by omega)).mono ?_
  rintro e u18 ⟨rfl, k18⟩
  rw [HD.out]
  have K18 := K17.trans k18
  have ow := ow.kept k18
  have og2 := og2.kept k18
  have s18 := k18.size
  clear k18 K17
  dsimp only
  repeat (first | go_values | go_skip | go_guarded | go_step | go_upon)
  go_at_call 16
  refine (toValS l _ _ (hv.kept K18) hn).mono ?_
  rintro e u19 ⟨v19, rfl, z1, k19⟩
  have K19 := K18.trans k19
  have ow := ow.kept k19
  have og2 := og2.kept k19
  have s19 := k19.size
  clear k19 K18
  obtain ⟨ao19, cap19, hfm⟩ := z1.form
  subst hfm
  dsimp only
  repeat (first | go_values | go_skip | go_guarded | go_step | go_upon)
  go_at_call 17
  refine (toChgS m _ _ (hv2.kept K19) hm).mono ?_
  rintro e u20 ⟨v20, rfl, z2, k20⟩
  have K20 := K19.trans k20
  have ow := ow.kept k20
  have og2 := og2.kept k20
  have z1 := z1.kept k20
  have s20 := k20.size
  clear k20 K19
  obtain ⟨ao20, cap20, hfm⟩ := z2.form
  subst hfm
  dsimp only
  repeat (first | go_values | go_skip | go_guarded | go_step | go_upon)
  go_at_call 18
  refine (HI.out _ _ _ (HE.out.kept K20) z1.at z2.at).mono ?_
  rintro e u21 ⟨v21, rfl, oh, k21⟩
  have K21 := K20.trans k21
  have ow := ow.kept k21
  have og2 := og2.kept k21
  have z1 := z1.kept k21
  have z2 := z2.kept k21
  have s21 := k21.size
  clear k21 K20
  obtain ⟨ao21, cap21, hfm⟩ := oh.form
  subst hfm
  clear z1 z2
  dsimp only
  repeat (first | go_values | go_skip | go_guarded | go_step | go_upon)
  go_at_call 8
  refine (eqValS R _ _ _ oh.at ow.at (by omega)).mono ?_
  rintro e u22 ⟨rfl, k22⟩
  have K22 := K21.trans k22
  have ow := ow.kept k22
  have og2 := og2.kept k22
  have oh := oh.kept k22
  have s22 := k22.size
  clear k22 K21
  clear oh ow
  dsimp only
  repeat (first | go_values | go_skip | go_guarded | go_step | go_upon)
  go_at_call 12
  refine (heldValS R.length _ 1 _ og2.at (by omega)).mono ?_
  rintro e u23 ⟨rfl, k23⟩
  rw [HD.out]
  have K23 := K22.trans k23
  have og2 := og2.kept k23
  have s23 := k23.size
  clear k23 K22
  dsimp only
  repeat (first | go_values | go_skip | go_guarded | go_step | go_upon)
  go_ret
  exact ⟨rfl, K23⟩
set_option maxRecDepth 100000 in
set_option maxHeartbeats 8000000 in
theorem big1 (x : Int) (l : List ValD) (v v2 : Value) (w : World) (hv : ValAt w v l) (hs9 : ∀ p ∈ l, p.1.size ≤ 9223372036854775807 ∧ p.2.2.size ≤ 9223372036854775807) (hlen : l.length ≤ maxLen) (hc : 1048576 < valCost l) :
    Calls Tryd.prog 4 #[.int .i64 x, v, v2] w fun e w' => e = .returned (.bool true) ∧ Kept w w' := by
  unfold maxLen at hlen
  obtain ⟨ao, cap, hfm⟩ := row_nil hv
  subst hfm
  go_enter Tryd.func4, Tryd.ntmps4
  repeat (first | go_values | go_skip | go_guarded | go_step | go_upon)
  go_at_call 13
  refine (szValS l _ _ _ hv (by omega) (by omega) (by omega) hs9).mono ?_
  rintro e u1 ⟨rfl, k1⟩
  rw [leftOf_no (by omega)]
  dsimp only
  repeat (first | go_values | go_skip | go_guarded | go_step | go_upon)
  go_ret
  exact ⟨rfl, k1⟩
set_option maxRecDepth 100000 in
set_option maxHeartbeats 8000000 in
theorem big2 (x : Int) (l : List ValD) (m : List ChgD) (v v2 : Value) (w : World) (hv : ValAt w v l) (hv2 : ChgAt w v2 m) (hs9 : ∀ p ∈ l, p.1.size ≤ 9223372036854775807 ∧ p.2.2.size ≤ 9223372036854775807) (hs8 : ∀ p ∈ m, p.2.2.1.size ≤ 9223372036854775807 ∧ p.2.2.2.1.size ≤ 9223372036854775807) (hlen : l.length ≤ maxLen) (hlen2 : m.length ≤ maxLen) (hl : valCost l ≤ 1048576) (hc : 1048576 < valCost l + chgCost m) :
    Calls Tryd.prog 4 #[.int .i64 x, v, v2] w fun e w' => e = .returned (.bool true) ∧ Kept w w' := by
  unfold maxLen at hlen hlen2
  have hd1 : decide ((1048576 : Int) - (valCost l : Int) < 0) = false := by simp; omega
  obtain ⟨ao, cap, hfm⟩ := row_nil hv
  subst hfm
  obtain ⟨ap, caq, hfm⟩ := row_nil hv2
  subst hfm
  go_enter Tryd.func4, Tryd.ntmps4
  repeat (first | go_values | go_skip | go_guarded | go_step | go_upon)
  go_at_call 13
  refine (szValS l _ _ _ hv (by omega) (by omega) (by omega) hs9).mono ?_
  rintro e u1 ⟨rfl, k1⟩
  rw [leftOf_yes (by omega)]
  dsimp only
  repeat (first | go_values | go_skip | go_guarded | go_step | go_upon)
  go_at_call 14
  refine (szChgS m _ _ _ (hv2.kept k1) (by omega) (by omega) (by omega) hs8).mono ?_
  rintro e u2 ⟨rfl, k2⟩
  rw [leftOf_no (by omega)]
  dsimp only
  repeat (first | go_values | go_skip | go_guarded | go_step | go_upon)
  go_ret
  exact ⟨rfl, k1.trans k2⟩
theorem size_v {l : List ValD} (h : valCost l ≤ 1048576) : l.length ≤ 1048576 ∧ ∀ d ∈ l, d.1.size ≤ 1048576 ∧ d.2.2.size ≤ 1048576 := by
  refine ⟨by unfold valCost at h; omega, fun d hd => ?_⟩
  obtain ⟨j, hj⟩ := List.mem_iff_getElem?.1 hd
  have := valSum_le hj
  unfold valCost at h
  unfold valW at this
  omega
theorem size_c {l : List ChgD} (h : chgCost l ≤ 1048576) : l.length ≤ 1048576 ∧ ∀ d ∈ l, d.2.2.1.size ≤ 1048576 ∧ d.2.2.2.1.size ≤ 1048576 := by
  refine ⟨by unfold chgCost at h; omega, fun d hd => ?_⟩
  obtain ⟨j, hj⟩ := List.mem_iff_getElem?.1 hd
  have := chgSum_le hj
  unfold chgCost at h
  unfold chgW at this
  omega
theorem mig_len {ver : Int} : ∀ (cs : List ChgD) (l m : List ValD), InvL l → (∀ c ∈ cs, -1000000 ≤ c.2.2.2.2 ∧ c.2.2.2.2 ≤ 1000000) → migV ver l cs = some m → m.length ≤ 30
  | [], l, m, h, _, e => by cases e; exact h.2.1
  | c :: cs, l, m, h, hb, e => by
    rw [mig_cons] at e
    split at e
    · exact mig_len cs l m h (fun d hd => hb d (List.mem_cons_of_mem _ hd)) e
    · cases hs : stepV l c with
      | none => rw [hs] at e; cases e
      | some q =>
        rw [hs] at e
        exact mig_len cs q m (inv_step h (hb c (List.mem_cons_self ..)) hs) (fun d hd => hb d (List.mem_cons_of_mem _ hd)) e
theorem migR_len {ver : Int} {l : List ValD} {cs : List ChgD} (hr : ∀ d ∈ l, InR d.2.1) : ((migR ver l cs).getD []).length ≤ 100000000 := by
  unfold migR
  split
  · rename_i h
    cases hm : migV ver l cs with
    | none => simp
    | some m =>
      have hl : l.length ≤ 30 := by have := h.2.1.2.1; rwa [namesOf_len] at this
      have := mig_len cs l m ⟨up_of_keys h.2.1.2, hl, hr⟩ (fun c hc => by obtain ⟨j, hj⟩ := List.mem_iff_getElem?.1 hc; exact by_range h.2.2 hj) hm
      simp
      omega
  · simp
theorem all (x : Int) (l : List ValD) (v : Value) {w : World} (hE : ErrG w) (hv : ValAt w v l) (hq : ∀ p ∈ l, p.1.size ≤ maxLen ∧ p.2.2.size ≤ maxLen ∧ (-9223372036854775808 ≤ p.2.1 ∧ p.2.1 ≤ 9223372036854775807)) (hlen : l.length ≤ maxLen) (m : List ChgD) (v2 : Value) (hv2 : ChgAt w v2 m) (hq2 : ∀ p ∈ m, p.2.2.1.size ≤ maxLen ∧ p.2.2.2.1.size ≤ maxLen) (hlen2 : m.length ≤ maxLen) :
    Calls Tryd.prog 4 #[.int .i64 x, v, v2] w fun e w' => e = .returned (.bool true) ∧ Kept w w' := by
  have hs9 : ∀ p ∈ l, p.1.size ≤ 9223372036854775807 ∧ p.2.2.size ≤ 9223372036854775807 := fun p hp => by have := hq p hp; unfold maxLen at this; omega
  have hs8 : ∀ p ∈ m, p.2.2.1.size ≤ 9223372036854775807 ∧ p.2.2.2.1.size ≤ 9223372036854775807 := fun p hp => by have := hq2 p hp; unfold maxLen at this; omega
  have hr : ∀ d ∈ l, InR d.2.1 := fun d hd => (hq d hd).2.2
  by_cases hc : valCost l ≤ 1048576
  · by_cases hc2 : valCost l + chgCost m ≤ 1048576
    · have hz := size_v hc
      have hy := size_c (l := m) (by omega)
      exact walk x l m ((migR x l m).getD []) (migR x l m).isSome v v2 w hE hv hv2 hs9 hs8 hc2 (migR_len hr) (fun u v v2 h1 h2 => smigrate x l m v v2 u h1 h2 hz.1 hz.2 hr hy.1 hy.2) (fun u v v2 h0 h1 h2 => imigrate x l m v v2 u h0 h1 h2 hz.1 hz.2 hr hy.1 hy.2)
    · exact big2 x l m v v2 w hv hv2 hs9 hs8 hlen hlen2 hc (by omega)
  · exact big1 x l v v2 w hv hs9 hlen (by omega)


set_option maxRecDepth 100000 in
theorem lifted (os : Os) (started : os.Started) (H : Type) (enc : TypeId × Value → H) :
    ReturnsInHanded {} Tryd.checked os 4 .any (fun w args => (Rows.fnExactMigrateSaveSpec.pre enc Tryd.prog Tryd.f4 [] false w args ∧ laidMetH Tryd.prog laid4 w) ∧ sizedMet enc Tryd.prog Tryd.f4 (OpenSpec.ofChange Rows.fnExactMigrateSaveSpec) false w args)
      (Rows.fnExactMigrateSaveSpec.post enc Tryd.prog Tryd.f4 false true false false) := by
  refine returnsInHanded_of_change_and (C := Tryd.checked) (X := fun w _ => laidMetH Tryd.prog laid4 w) (fun _ _ _ hh h => h.of_heap hh) own started (by kernel_rfl) Tryd.func4
    (ChangeSpec.witness_shaped (enc := enc) (C := Tryd.checked) (os := os) (X := fun w _ => laidMetH Tryd.prog laid4 w) false (World.laidAll Tryd.prog os laid4) #[.int .i64 0, .slice none 0 0, .slice none 0 0] 8 (World.laidAll_os _ _ _)
      (World.shaped_of_ZipB (by kernel_rfl) (by kernel_rfl)) (by kernel_rfl) (by kernel_rfl) (by kernel_rfl)
      (by rw [MakeChecks.laidMetH_plain _ _ _ (by kernel_rfl)]; exact laidMet_laidAll _ (by kernel_rfl) (by kernel_rfl))) ?_
  intro W base args ds gs before hval0 hW _ _ hL _
  have hval : ∀ (j : Nat) t v, Tryd.f4.params[j]? = some t → args[j]? = some v → Value.okWide Tryd.prog W .any base t v := hval0
  have hW' := hW
  obtain ⟨p, q, hA0, hV0, rfl, hfz, hnd⟩ := hW
  have hA : DataW.TrodAll enc Tryd.prog W 0 (fun _ => true) true Tryd.f4.params.toList args.toList ds p := hA0
  have hV : DataW.TrodVars enc Tryd.prog W (fun _ => true) ["loop.example/g00064/impl.errArguments", "loop.example/g00064/impl.errCrowded", "loop.example/g00064/impl.errTaken", "loop.example/g00064/impl.errBeyond"] gs q := hV0
  rw [Tryd.params4] at hA hval
  obtain ⟨v0, vs0, d0, ds0, p0, q0, hargs, rfl, rfl, h0, r0⟩ := trodAll_cons hA
  obtain ⟨v1, vs1, d1, ds1, p1, q1, rfl, rfl, rfl, h1, r1⟩ := trodAll_cons r0
  obtain ⟨v2, vs2, d2, ds2, p2, q2, rfl, rfl, rfl, h2, r2⟩ := trodAll_cons r1
  obtain ⟨rfl, rfl, rfl⟩ := trodAll_nil r2
  obtain rfl : args = #[v0, v1, v2] := by cases args; simp_all
  obtain ⟨a0, rfl, rfl, rfl, w0⟩ := open_int Tryd.underlying3 (hval 0 3 v0 rfl rfl) h0
  obtain ⟨l1, hv1, hq1, hl1⟩ := open_valrS (hval 1 32 v1 rfl rfl) h1
  obtain ⟨l2, hv2, hq2, hl2⟩ := open_chgS (hval 2 33 v2 rfl rfl) h2
  obtain ⟨b0, b1, b2, b3, j0, j1, j2, j3⟩ := held_of_laid hL
  obtain ⟨rfl, rfl⟩ := hV.unique (vars_read enc j0 trivial j1 trivial j2 trivial j3 trivial _)
  have hE : ErrG W := ⟨⟨_, _, cell_of_var g_errArguments j0⟩, ⟨_, _, cell_of_var g_errCrowded j1⟩, ⟨_, _, cell_of_var g_errTaken j2⟩, ⟨_, _, cell_of_var g_errBeyond j3⟩⟩
  clear hA0 hV0 hval0
  refine (all a0 l1 v1 hE hv1 hq1 hl1 l2 v2 hv2 hq2 hl2).mono fun e W' ⟨he, hgr⟩ => ?_
  subst he
  exact ⟨_, rfl, post_of_kept hW' (fun _ _ _ => (trodAll_cons_mk (shut_bool Tryd.underlying4 _) trodAll_mk0)) (fun sp hsp => (trodAll_cons_mk (shut_int Tryd.underlying3 w0) (trodAll_cons_mk (kept_trod (by kernel_rfl) (of_decide_eq_true (by kernel_rfl)) h1 hgr (fun x hx => hW'.lt x (by simp [hx])) (fun x hx => hsp x (by simp [hx]))) (trodAll_cons_mk (kept_trod (by kernel_rfl) (of_decide_eq_true (by kernel_rfl)) h2 hgr (fun x hx => hW'.lt x (by simp [hx])) (fun x hx => hsp x (by simp [hx]))) trodAll_mk0)))) (fun sp _ => vars_read enc (var_kept g_errArguments j0 hgr) trivial (var_kept g_errCrowded j1 hgr) trivial (var_kept g_errTaken j2 hgr) trivial (var_kept g_errBeyond j3 hgr) trivial sp) hgr⟩

set_option maxRecDepth 100000 in
theorem holds : Rows.FnExactMigrateSaveSaid :=
  OpenClaim.holds_of_wide 4 Tryd.f4 rfl rfl rfl rfl rfl rfl rfl ⟨rfl, rfl, rfl, rfl, rfl⟩ rfl rfl rfl rfl rfl (by kernel_rfl) Tryd.func4 (by kernel_rfl)
    (of_decide_eq_true (by kernel_rfl)) (by unfold Func.isWrapper; first | (rw [if_pos (by decide +kernel)]; kernel_rfl) | (rw [if_neg (by decide +kernel)]; exact ⟨rfl, rfl⟩))
    (fun os started H enc _ => lifted os started H enc)

set_option maxRecDepth 100000 in
theorem proved : Rows.FnExactMigrateSaveCardSaid :=
  Claim7.holds_tied_plain_at .later [] [.sentinel, .sentinel, .sentinel, .sentinel] true (true, "b078833b5765a7b8be23ca197234fefb4258d450803e0e6a677b60170c787a0a") true
    holds (fun _ h => by cases h) (by kernel_rfl) (fun _ h => by cases h) fnExactMigrateSave_row_tie rfl ⟨rfl, rfl⟩ (by kernel_rfl) rfl
    (fun f fn hf hfn => by
      obtain rfl : f = 4 := Option.some.inj ((show Tryd.prog.funcNamed "loop.example/g00064/laws.FnExactMigrateSave" = some 4 by kernel_rfl).symm.trans hf) |>.symm
      obtain rfl : fn = Tryd.f4 := (Option.some.inj (Tryd.func4.symm.trans hfn)).symm
      exact ⟨by kernel_rfl, fun j t ht => by
        rw [Tryd.params4] at ht
        have hm : t ∈ [3, 32, 33] := by simpa using Array.mem_of_getElem? ht
        have hall : ([3, 32, 33].all fun u => !Tryd.prog.wantsStandIn u) = true := by kernel_rfl
        exact (show Tryd.prog.wantsStandIn t = false by simpa using List.all_eq_true.1 hall t (by simpa using hm))⟩)
    (by kernel_rfl)
#print axioms proved
end Go.Proofs.YtklgjhemcofhhaaDoor.fnExactMigrateSave
