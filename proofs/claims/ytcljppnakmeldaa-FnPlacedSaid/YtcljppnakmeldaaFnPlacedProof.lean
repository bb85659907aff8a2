/-
  For every two lists of bytes: a spot that is drawn and its way back undo one another, and what is hung elsewhere in a scene that is drawn stands where it stood.
-/
import Derived.Test.YtcljppnakmeldaaRows
import Derived.Test.YtcljppnakmeldaaDrawH
import Derived.Test.YtcljppnakmeldaaPair
import Derived.Test.YtcljppnakmeldaaBack
import Derived.Test.YtcljppnakmeldaaSpotOf
import Derived.ChangeMaps
namespace Go.Proofs.Ytcljppnakmeldaa.fnPlaced
open Go.ChangeShapes Go.WideShapes Go.ChangeAt Go.RowKit
set_option linter.unusedVariables false
set_option maxRecDepth 100000

theorem own : ownKnob Try.prog.godebug = none := by kernel_rfl

set_option maxRecDepth 100000 in
set_option maxHeartbeats 8000000 in
theorem walk (ao0 : Option Addr) (len0 cap0 : Nat) (ao1 : Option Addr) (len1 cap1 : Nat) (w : World) (hm0 : len0 ≤ 9223372036854775807) (hc0 : Code w ao0 len0) (hm1 : len1 ≤ 9223372036854775807) (hc1 : Code w ao1 len1) (hd : decide ((1048576 : Int) < wrap64 ((len0 : Int) + len1)) = false) :
    Calls Try.prog 3 #[.slice ao0 len0 cap0, .slice ao1 len1 cap1] w fun e w' => e = .returned (.bool true) ∧ Kept w w' := by
  go_enter Try.func3, Try.ntmps3
  repeat (first | go_values | go_skip | go_guarded | go_step | go_upon)
  clear hd
  go_at_call 12
  refine (drawSpot ao0 len0 cap0 w hc0 hm0).mono ?_
  rintro e w1 ⟨⟨sx, sy, st, sf⟩, rfl, K1⟩
  dsimp only [sv]
  repeat (first | go_values | go_skip | go_guarded | go_step | go_upon)
  go_at_call 13
  obtain ⟨⟨⟨bx, bY, bt, bf⟩, ok⟩, hJ⟩ : ∃ j, backA (sx, sy, st, sf) = j := ⟨_, rfl⟩
  have hI := implBack (sx, sy, st, sf) (w1.alloc (.cells #[.int .i64 sx, .int .i64 sy, .int .i64 st, .bool sf] 24))
  rw [hJ] at hI
  refine hI.mono ?_
  clear hI
  rintro e w2 ⟨rfl, k2⟩
  have LA := (Loc.new w1 [.int .i64 sx, .int .i64 sy, .int .i64 st, .bool sf] 24).kept k2
  have K2 : Kept w w2 := (K1.alloc _).trans k2
  have hl2 := LA.lt
  clear K1 k2
  have a0 := LA.cell 0 rfl
  have a1 := LA.cell 1 rfl
  have a2 := LA.cell 2 rfl
  have a3 := LA.cell 3 rfl
  dsimp only [sv]
  repeat (first | go_values | go_skip | go_guarded | go_step | go_upon)
  go_at_call 14
  have hS := specBackSpot (sx, sy, st, sf) (w2.alloc (.cells #[.int .i64 bx, .int .i64 bY, .int .i64 bt, .bool bf] 24))
  rw [hJ] at hS
  refine hS.mono ?_
  clear hS
  rintro e w3 ⟨rfl, k3⟩
  have LB := (Loc.new w2 [.int .i64 bx, .int .i64 bY, .int .i64 bt, .bool bf] 24).kept k3
  have LA := (LA.alloc (.cells #[.int .i64 bx, .int .i64 bY, .int .i64 bt, .bool bf] 24)).kept k3
  have K3 : Kept w w3 := (K2.alloc _).trans k3
  clear K2 k3 a0 a1 a2 a3 hl2
  dsimp only [sv]
  repeat (go_not_at_region 8; first | go_values | go_skip | go_guarded | go_step | go_upon)
  go_cut [46] (fun t wx => t = .bool ok ∧ Kept w wx ∧ Loc wx w1.heap.size [.int .i64 sx, .int .i64 sy, .int .i64 st, .bool sf] ∧ Loc wx w2.heap.size [.int .i64 bx, .int .i64 bY, .int .i64 bt, .bool bf])
  case first =>
    have LB := LB.alloc (.cells #[.int .i64 bx, .int .i64 bY, .int .i64 bt, .bool bf] 24)
    have LA := LA.alloc (.cells #[.int .i64 bx, .int .i64 bY, .int .i64 bt, .bool bf] 24)
    repeat (first | go_values | go_skip | go_guarded | go_step | go_upon)
    go_meet
    case rel => exact ⟨rfl, K3.alloc _, LA, LB⟩
  case rest =>
    clear LA LB K3
    obtain ⟨rfl, K3, LA, LB⟩ := hcut
    first | go_step | skip
    go_cut [] (fun wx => Kept w wx)
    case first =>
      cases ok
      · repeat (first | go_values | go_skip | go_guarded | go_step | go_upon)
        go_meet
        case rel => exact K3
      · have la := LA.lt
        have lb := LB.lt
        have hga : GoodS (sx, sy, st, sf) := by
          unfold backA at hJ
          split at hJ
          · assumption
          · simp at hJ
        have hb : backM (sx, sy, st, sf) = (bx, bY, bt, bf) := by
          unfold backA at hJ
          rw [if_pos hga] at hJ
          exact (Prod.mk.inj hJ).1
        have hgb : GoodS (bx, bY, bt, bf) := by rw [← hb]; exact back_good hga
        have j1 : joinA (sx, sy, st, sf) (bx, bY, bt, bf) = (s0, true) := by
          unfold joinA
          have e := join_back _ hga
          rw [hb] at e
          rw [e, if_pos ⟨hga, hgb, by decide⟩]
        have j2 : joinA (bx, bY, bt, bf) (sx, sy, st, sf) = (s0, true) := by
          unfold joinA
          have e := back_join _ hga
          rw [hb] at e
          rw [e, if_pos ⟨hgb, hga, by decide⟩]
        clear hga hb hgb hJ
        have a0 := LA.cell 0 rfl
        have a1 := LA.cell 1 rfl
        have a2 := LA.cell 2 rfl
        have a3 := LA.cell 3 rfl
        have b0 := LB.cell 0 rfl
        have b1 := LB.cell 1 rfl
        have b2 := LB.cell 2 rfl
        have b3 := LB.cell 3 rfl
        repeat (first | go_values | go_skip | go_guarded | go_step | go_upon)
        go_at_call 15
        have hI := implJoin (sx, sy, st, sf) (bx, bY, bt, bf) wc
        rw [j1] at hI
        refine hI.mono ?_
        clear hI
        rintro e w4 ⟨rfl, k4⟩
        have K4 := K3.trans k4
        have LA := LA.kept k4
        have LB := LB.kept k4
        clear k4 a0 a1 a2 a3 b0 b1 b2 b3 la lb
        have la := LA.lt
        have lb := LB.lt
        have a0 := LA.cell 0 rfl
        have a1 := LA.cell 1 rfl
        have a2 := LA.cell 2 rfl
        have a3 := LA.cell 3 rfl
        have b0 := LB.cell 0 rfl
        have b1 := LB.cell 1 rfl
        have b2 := LB.cell 2 rfl
        have b3 := LB.cell 3 rfl
        dsimp only [sv, s0]
        repeat (first | go_values | go_skip | go_guarded | go_step | go_upon)
        go_at_call 15
        have LX := (Loc.new w4 [.int .i64 0, .int .i64 0, .int .i64 0, .bool false] 24)
        have hI := implJoin (bx, bY, bt, bf) (sx, sy, st, sf) (w4.alloc (.cells #[.int .i64 0, .int .i64 0, .int .i64 0, .bool false] 24))
        rw [j2] at hI
        refine hI.mono ?_
        clear hI
        rintro e w5 ⟨rfl, k5⟩
        have K5 := (K4.alloc _).trans k5
        have LX := LX.kept k5
        clear k5 a0 a1 a2 a3 b0 b1 b2 b3 la lb LA LB
        have lx := LX.lt
        have x0 := LX.cell 0 rfl
        have x1 := LX.cell 1 rfl
        have x2 := LX.cell 2 rfl
        have x3 := LX.cell 3 rfl
        dsimp only [sv, s0]
        repeat (first | go_values | go_skip | go_guarded | go_step | go_upon)
        go_meet
        case rel => exact K5.alloc _
    case rest =>
      clear K3 LA LB hJ
      have K6 : Kept w wc := hcut
      repeat (first | go_values | go_skip | go_guarded | go_step | go_upon)
      go_at_call 16
      refine (drawHang ao1 len1 cap1 wc (hc1.kept K6) hm1).mono ?_
      rintro e w6 ⟨v, l, a, u, rfl, o6, hl41, hnm, k6⟩
      have K6 := K6.trans k6
      clear k6 hcut
      obtain ⟨R, jb, hS, hI, hno, hyes⟩ := hang_pair l a u (by omega) (fun p hp => by have := hnm p hp; omega)
      have HS : Hid _ := hS
      have HI : Hid _ := hI
      clear hS hI
      obtain ⟨ao6, cap6, hfm⟩ := o6.form
      subst hfm
      dsimp only
      repeat (first | go_values | go_skip | go_guarded | go_step | go_upon)
      go_at_call 17
      refine (HI.out _ _ _ _ o6).mono ?_
      rintro e w7 ⟨v7, rfl, o7, k7⟩
      have K7 := K6.trans k7
      have o6 := o6.kept k7
      clear k7 K6
      obtain ⟨ao7, cap7, hfm⟩ := o7.form
      subst hfm
      dsimp only
      repeat (first | go_values | go_skip | go_guarded | go_step | go_upon)
      go_at_call 18
      refine (HS.out _ _ _ _ o6).mono ?_
      rintro e w8 ⟨v8, rfl, o8, k8⟩
      have K8 := K7.trans k8
      have o6 := o6.kept k8
      have o7 := o7.kept k8
      clear k8 K7 o8 HS HI
      dsimp only
      cases jb
      · have hR := hno rfl
        subst hR
        repeat (first | go_values | go_skip | go_guarded | go_step | go_upon)
        go_ret
        exact ⟨rfl, K8⟩
      · obtain ⟨i, s, nm, j, rfl, hRi, hsl, hsR, hRl, hRn, hl40⟩ := hyes rfl
        clear hno hyes
        have HRL : Hid (R.length = l.length) := hRl
        clear hRl
        repeat (first | go_values | go_skip | go_guarded | go_step | go_upon)
        go_at_call 19
        have hA := implSpotOf l _ _ _ (i : Int) w8 o6 (by omega) (fun p hp => by have := hnm p hp; omega)
        rw [hsl] at hA
        refine hA.mono ?_
        clear hA
        rintro e w9 ⟨rfl, k9⟩
        have K9 := K8.trans k9
        have o7 := o7.kept k9
        clear k9 K8 o6
        obtain ⟨sx, sy, st, sf⟩ := s
        dsimp only [sv, standA]
        repeat (first | go_values | go_skip | go_guarded | go_step | go_upon)
        go_at_call 19
        have LW := Loc.new w9 [.int .i64 sx, .int .i64 sy, .int .i64 st, .bool sf] 24
        have hA := implSpotOf R _ _ _ (i : Int) (w9.alloc (.cells #[.int .i64 sx, .int .i64 sy, .int .i64 st, .bool sf] 24)) (o7.kept ((But.refl _ _ _).alloc _)) (by have := HRL.out; omega) hRn
        rw [hsR] at hA
        refine hA.mono ?_
        clear hA
        rintro e w10 ⟨rfl, k10⟩
        have K10 := (K9.alloc _).trans k10
        have LW := LW.kept k10
        have o7 := (o7.kept ((But.refl _ _ _).alloc _)).kept k10
        clear k10 K9
        have lw := LW.lt
        have x0 := LW.cell 0 rfl
        have x1 := LW.cell 1 rfl
        have x2 := LW.cell 2 rfl
        have x3 := LW.cell 3 rfl
        dsimp only [sv, standA]
        obtain ⟨jx, jy, jt, jf⟩ := j
        obtain ⟨g7, oo7, cp7, e7, c0, c1, c2, c3, c4, c5⟩ := node_get o7.at hRi
        cases e7
        have hi7 : i < R.length := (List.getElem?_eq_some_iff.1 hRi).1
        have hg7 := block_of_cell c1
        repeat (first | go_values | go_skip | go_guarded | go_step | go_upon)
        go_ret
        exact ⟨rfl, K10.alloc _⟩

theorem all (ao0 : Option Addr) (len0 cap0 : Nat) (hm0 : len0 ≤ maxLen) {w : World} (hc0 : Code w ao0 len0) (ao1 : Option Addr) (len1 cap1 : Nat) (hm1 : len1 ≤ maxLen) (hc1 : Code w ao1 len1) (_ : World) :
    Calls Try.prog 3 #[.slice ao0 len0 cap0, .slice ao1 len1 cap1] w fun e w' => e = .returned (.bool true) ∧ Kept w w' := by
  unfold maxLen at hm0 hm1
  cases hd : decide ((1048576 : Int) < wrap64 ((len0 : Int) + len1))
  · exact walk ao0 len0 cap0 ao1 len1 cap1 w (by omega) hc0 (by omega) hc1 hd
  · go_enter Try.func3, Try.ntmps3
    repeat (first | go_values | go_skip | go_guarded | go_step | go_upon)
    go_ret
    exact ⟨rfl, But.refl _ _ _⟩


set_option maxRecDepth 100000 in
theorem lifted (os : Os) (started : os.Started) (H : Type) (enc : TypeId × Value → H) :
    ReturnsInHanded {} Try.checked os 3 .any (Rows.fnPlacedSpec.pre6 enc Try.prog Try.f3 Rows.fnPlacedRow.domain false) (Rows.fnPlacedSpec.post enc Try.prog Try.f3 false true false false) := by
  refine returnsInHanded_of_change (C := Try.checked) own started (by kernel_rfl) Try.func3
    (ChangeSpec.witness6 (enc := enc) (C := Try.checked) false ⟨#[], #[.slice none 0 0, .slice none 0 0], []⟩ 8 (by kernel_rfl) (by kernel_rfl) (by kernel_rfl) (by kernel_rfl)) ?_
  intro W base args ds gs before hval0 hW hcnd _
  have hval : ∀ (j : Nat) t v, Try.f3.params[j]? = some t → args[j]? = some v → Value.okWide Try.prog W .any base t v := hval0
  have hW' := hW
  obtain ⟨p, q, hA0, hV, rfl, hfz, hnd⟩ := hW
  have hA : DataW.TrodAll enc Try.prog W 0 (fun _ => true) true Try.f3.params.toList args.toList ds p := hA0
  rw [Try.params3] at hA hval
  obtain ⟨v0, vs0, d0, ds0, p0, q0, hargs, rfl, rfl, h0, r0⟩ := trodAll_cons hA
  obtain ⟨v1, vs1, d1, ds1, p1, q1, rfl, rfl, rfl, h1, r1⟩ := trodAll_cons r0
  obtain ⟨rfl, rfl, rfl⟩ := trodAll_nil r1
  obtain rfl : args = #[v0, v1] := by cases args; simp_all
  obtain ⟨rfl, rfl⟩ := trodVars_none hV
  obtain ⟨ao0, len0, cap0, e0, hm0, hc0⟩ := code_of (hval 0 22 v0 rfl rfl) h0
  subst e0
  obtain ⟨ao1, len1, cap1, e1, hm1, hc1⟩ := code_of (hval 1 22 v1 rfl rfl) h1
  subst e1
  clear hA0 hval0
  simp only [List.append_nil] at hW'
  refine (all ao0 len0 cap0 hm0 hc0 ao1 len1 cap1 hm1 hc1 W).mono fun e W' ⟨he, hg⟩ => ?_
  subst he
  exact ⟨_, rfl, post_of_kept (pa := _) (pv := []) hW' (fun _ _ _ => (trodAll_cons_mk (shut_bool Try.underlying4 _) trodAll_mk0)) (fun sp hsp => (trodAll_cons_mk (kept_trod (by kernel_rfl) (of_decide_eq_true (by kernel_rfl)) h0 hg (fun x hx => hW'.lt x (by simp [hx])) (fun x hx => hsp x (by simp [hx]))) (trodAll_cons_mk (kept_trod (by kernel_rfl) (of_decide_eq_true (by kernel_rfl)) h1 hg (fun x hx => hW'.lt x (by simp [hx])) (fun x hx => hsp x (by simp [hx]))) trodAll_mk0))) (fun _ _ => rfl) hg⟩

theorem over : Rows.fnPlacedRow.holds Try.pinned (OpenSpec.ofChange Rows.fnPlacedSpec) :=
  OpenClaim.holds_of_wide 3 Try.f3 rfl rfl rfl rfl rfl rfl rfl ⟨rfl, rfl, rfl, rfl, rfl⟩ rfl rfl rfl rfl rfl (by kernel_rfl) Try.func3 (by kernel_rfl)
    (of_decide_eq_true (by kernel_rfl)) (by unfold Func.isWrapper; first | (rw [if_pos (by decide +kernel)]; kernel_rfl) | (rw [if_neg (by decide +kernel)]; exact ⟨rfl, rfl⟩))
    (fun os started H enc _ => lifted os started H enc)

theorem proved : Rows.FnPlacedSaid :=
  over
#print axioms proved
end Go.Proofs.Ytcljppnakmeldaa.fnPlaced
