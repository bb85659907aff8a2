/-
  What the specification's AddTimer answers.
-/
import Derived.Test.YthihgjcnjgpegaaPut
import Derived.Test.YthihgjcnjgpegaaGoodS
namespace Go.Proofs.Ythihgjcnjgpegaa
open Go.ChangeShapes Go.WideShapes Go.ChangeAt Go.RowKit

set_option maxRecDepth 100000
set_option maxHeartbeats 8000000 in
theorem specAdd (c : ClockD) (ta tb tc td : Int) (v : Value) (w : World) (hv : ClockAt w v c) :
    Calls Try.prog 20 #[v, .agg #[.int .i64 ta, .int .i64 tb, .int .i64 tc, .int .i64 td]] w fun e w' => ∃ v', e = .returned (.tuple #[v', .bool (addA c (ta, tb, tc, td)).2]) ∧ ClockO w' w.heap.size w'.heap.size v' (addA c (ta, tb, tc, td)).1 ∧ Kept w w' := by
  obtain ⟨ao, cap, hfm⟩ := hv.form
  subst hfm
  have hr := hv.row
  obtain ⟨now, l⟩ := c
  dsimp only at *
  cases hg : goodC (now, l) with
  | false =>
    rw [show addA (now, l) (ta, tb, tc, td) = ((0, []), false) by simp [addA, hg]]
    go_enter Try.func20, Try.ntmps20
    repeat (first | go_values | go_skip | go_guarded | go_step | go_upon)
    go_at_call 16
    refine (specGood (now, l) _ _ (hv.kept ((((But.refl _ _ _).alloc _).alloc _).alloc _))).mono ?_
    rintro e w1 ⟨rfl, k1⟩
    rw [hg]
    have K1 : Kept w w1 := ((((But.refl _ _ _).alloc _).alloc _).alloc _).trans k1
    have L0 := (Loc.alloc (Loc.alloc (Loc.new w [.int .i64 now, .slice ao l.length cap] 25) (.cells #[.int .i64 ta, .int .i64 tb, .int .i64 tc, .int .i64 td] 46)) (.cells #[.int .i64 0, .slice none 0 0] 25)).kept k1
    have LT := (Loc.alloc (Loc.new (w.alloc (.cells #[.int .i64 now, .slice ao l.length cap] 25)) [.int .i64 ta, .int .i64 tb, .int .i64 tc, .int .i64 td] 46) (.cells #[.int .i64 0, .slice none 0 0] 25)).kept k1
    have L1 := (Loc.new ((w.alloc (.cells #[.int .i64 now, .slice ao l.length cap] 25)).alloc (.cells #[.int .i64 ta, .int .i64 tb, .int .i64 tc, .int .i64 td] 46)) [.int .i64 0, .slice none 0 0] 25).kept k1
    simp only [World.size_alloc] at L1 LT
    have hw1 := L1.lt
    have hw0 := L0.lt
    have s0 := L0.cell 0 rfl
    have s1 := L0.cell 1 rfl
    have t0 := LT.cell 0 rfl
    have t1 := LT.cell 1 rfl
    have t2 := LT.cell 2 rfl
    have t3 := LT.cell 3 rfl
    have hwt := LT.lt
    have r0 := L1.cell 0 rfl
    have r1 := L1.cell 1 rfl
    have rf0 := L1.frozen 0
    have rf1 := L1.frozen 1
    clear k1
    dsimp only
    repeat (first | go_values | go_skip | go_guarded | go_step | go_upon)
    have B : But (w.heap.size + 1 + 1) (w.heap.size + 1 + 1 + 1) w1 ((w1.setCell ⟨w.heap.size + 1 + 1, 0, none⟩ (.int .i64 0)).setCell ⟨w.heap.size + 1 + 1, 1, none⟩ (.slice none 0 0)) := ((But.refl _ _ _).setCell (by simp) (by simp) _).setCell (by simp) (by simp) _
    refine bodyPost_ret (v := .tuple #[.agg #[.int .i64 0, .slice none 0 0], .bool false]) (by simp [results, Try.results20, go_sem, r0, r1]) rfl ?_
    exact ⟨_, rfl, zero_clock _ _ _, K1.onto B (by omega)⟩
  | true =>
    have hlen : l.length ≤ 20 := good_len hg
    go_enter Try.func20, Try.ntmps20
    repeat (first | go_values | go_skip | go_guarded | go_step | go_upon)
    go_at_call 16
    refine (specGood (now, l) _ _ (hv.kept ((((But.refl _ _ _).alloc _).alloc _).alloc _))).mono ?_
    rintro e w1 ⟨rfl, k1⟩
    rw [hg]
    have K1 : Kept w w1 := ((((But.refl _ _ _).alloc _).alloc _).alloc _).trans k1
    have L0 := (Loc.alloc (Loc.alloc (Loc.new w [.int .i64 now, .slice ao l.length cap] 25) (.cells #[.int .i64 ta, .int .i64 tb, .int .i64 tc, .int .i64 td] 46)) (.cells #[.int .i64 0, .slice none 0 0] 25)).kept k1
    have LT := (Loc.alloc (Loc.new (w.alloc (.cells #[.int .i64 now, .slice ao l.length cap] 25)) [.int .i64 ta, .int .i64 tb, .int .i64 tc, .int .i64 td] 46) (.cells #[.int .i64 0, .slice none 0 0] 25)).kept k1
    have L1 := (Loc.new ((w.alloc (.cells #[.int .i64 now, .slice ao l.length cap] 25)).alloc (.cells #[.int .i64 ta, .int .i64 tb, .int .i64 tc, .int .i64 td] 46)) [.int .i64 0, .slice none 0 0] 25).kept k1
    simp only [World.size_alloc] at L1 LT
    have hw1 := L1.lt
    have hw0 := L0.lt
    have s0 := L0.cell 0 rfl
    have s1 := L0.cell 1 rfl
    have t0 := LT.cell 0 rfl
    have t1 := LT.cell 1 rfl
    have t2 := LT.cell 2 rfl
    have t3 := LT.cell 3 rfl
    have hwt := LT.lt
    have r0 := L1.cell 0 rfl
    have r1 := L1.cell 1 rfl
    have rf0 := L1.frozen 0
    have rf1 := L1.frozen 1
    clear k1
    go_wp2_with fail
    obtain ⟨i0, hi0, hz0, hz1, hz2⟩ := info_parts info46
    clear s0 s1 r0 r1 rf0 rf1 t0 t1 t2 t3
    go_loopw [6, 7, 9, 18] (fun lv put _ i wr => ∃ (k : Nat) (ao2 : Option Addr) (cap2 : Nat), k ≤ l.length ∧ i = .int .i64 k ∧ lv = .slice ao2 (addF (ta, tb, tc, td) (l.take k)).1.length cap2 ∧ put = .bool (addF (ta, tb, tc, td) (l.take k)).2 ∧ TimerO wr w1.heap.size wr.heap.size (.slice ao2 (addF (ta, tb, tc, td) (l.take k)).1.length cap2) (addF (ta, tb, tc, td) (l.take k)).1 ∧ Kept w1 wr) (fun _ _ _ i _ => l.length - (intOf i).toNat)
    case atStart =>
      exact ⟨0, none, 0, by omega, rfl, rfl, rfl, ⟨World.ownsRow_nil _ _ _ _, fun g hg => by simp [Value.ownBlock] at hg⟩, But.refl _ _ _⟩
    case round =>
      obtain ⟨k, ao2, cap2, hk, rfl, rfl, rfl, ho, hkp⟩ := hrel
      have K0 : Kept w wr := K1.trans hkp
      have hsz := hkp.size
      by_cases hlt : k < l.length
      · obtain ⟨⟨a, b, e, d⟩, hp⟩ : ∃ p, l[k]? = some p := ⟨_, List.getElem?_eq_getElem hlt⟩
        obtain ⟨g, o, cap1, ee, c0, c1, c2, c3⟩ := timer_get (hr.kept K0) hp
        cases ee
        dsimp only at c0 c1 c2 c3
        have hgw : g < wr.heap.size := World.block_lt_of_cell? _ _ c0
        have hF := addF_snoc (t := (ta, tb, tc, td)) hp
        have LTr := LT.kept hkp
        have hwr1 : w.heap.size + 1 < wr.heap.size := LTr.lt
        have hwr0 : w.heap.size < wr.heap.size := by omega
        have t0 := LTr.cell 0 rfl
        have t1 := LTr.cell 1 rfl
        have t2 := LTr.cell 2 rfl
        have t3 := LTr.cell 3 rfl
        have hMl : (addF (ta, tb, tc, td) (l.take k)).1.length ≤ 40 := by
          have := addF_len (ta, tb, tc, td) (l.take k) ([], false)
          simp only [List.length_take, List.length_nil] at this
          unfold addF
          omega
        generalize hst : addF (ta, tb, tc, td) (l.take k) = st at *
        obtain ⟨ps, put⟩ := st
        dsimp only at ho hMl hF ⊢
        obtain ⟨M, hM⟩ : ∃ M, ps.length = M := ⟨_, rfl⟩
        have hom : TimerO wr w1.heap.size wr.heap.size (.slice ao2 M cap2) ps := by rw [← hM]; exact ho
        rw [hM]
        rw [hM] at hMl
        have HM : Hid _ := hM
        have HF : Hid _ := hF
        have HOM : Hid (TimerO _ _ _ _ _) := hom
        have HKP : Hid _ := hkp
        have HK0 : Hid (Kept w wr) := K0
        have HLT : Hid (Loc _ _ _) := LTr
        clear hp hst ho hom hM hF K0 hkp LTr
        cases put with
        | true =>
          cases p2 : (a == ta) with
          | true =>
            have hres : addStep (ta, tb, tc, td) (ps, true) (a, b, e, d) = (ps, true) := by simp [addStep, p2]
            have HR : Hid _ := hres
            clear hres
            repeat (first | go_values | go_skip | go_guarded | go_step | go_upon)
            refine ⟨⟨k + 1, ao2, cap2, hlt, by go_num, by rw [HF.out, HR.out]; dsimp only; rw [HM.out], by rw [HF.out, HR.out], ?_, HKP.out.alloc _⟩, by simp [intOf]; omega⟩
            rw [HF.out, HR.out]
            dsimp only
            rw [HM.out]
            exact (TimerO.kept HOM.out ((But.refl _ _ wr).alloc _)).low
          | false =>
            have hres : addStep (ta, tb, tc, td) (ps, true) (a, b, e, d) = (ps ++ [(a, b, e, d)], true) := by simp [addStep, p2]
            have HR : Hid _ := hres
            clear hres
            repeat (first | (at_builtin; refine forgetL (fun w' => w' = _) rfl ?_) | go_values | go_skip | go_guarded | go_step | go_upon)
            intro W3 hW3
            subst hW3
            have LN := Loc.new (wr.alloc (.cells #[.int .i64 a, .int .i64 b, .int .i64 e, .int .i64 d] 46)) (timerC (a, b, e, d)) 46
            have kx : Kept (wr.alloc (.cells #[.int .i64 a, .int .i64 b, .int .i64 e, .int .i64 d] 46)) ((wr.alloc (.cells #[.int .i64 a, .int .i64 b, .int .i64 e, .int .i64 d] 46)).alloc (.cells (timerC (a, b, e, d)).toArray 46)) := (But.refl _ _ _).alloc _
            have ox := TimerO.kept (TimerO.kept HOM.out ((But.refl _ _ wr).alloc _)) kx
            try simp only [World.size_alloc] at LN
            refine wpList_append_own _ rfl _ _ 23 rfl w1.heap.size 46 i0 (.agg #[.int .i64 0, .int .i64 0, .int .i64 0, .int .i64 0]) 4 32 Try.underlying23 hi0 hz0 hz1 hz2 rfl (by decide) (.slice ao2 M cap2) (M) (ps.flatMap timerC) rfl (by have := ox.1; rw [HM.out] at this; exact this) ⟨_, 0, none⟩ 1 1 (timerC (a, b, e, d)) rfl rfl (news4 LN) (one4 _) (by unfold maxLen; omega) (by omega) (by simp <;> omega) ?_
            intro v3 w3 hown hgrow _
            obtain ⟨hT3, hLoc, hKept⟩ := app_timer ox HM.out hown hgrow
            obtain ⟨ao3, cap3, hf⟩ := hT3.form
            have hl3 : (ps ++ [(a, b, e, d)]).length = M + 1 := by rw [List.length_append, HM.out]; rfl
            rw [hl3] at hf
            subst hf
            have K3 := hKept w1 (But.trans (HKP.out.alloc _) kx) (Nat.le_refl _)
            have sz3 := hgrow.size
            simp only [World.size_alloc] at sz3
            have HT3 : Hid (TimerO _ _ _ _ _) := hT3
            have HK3 : Hid _ := K3
            have HL3 : Hid _ := hl3
            clear hT3 hLoc hKept hown hgrow K3 LN kx ox hl3
            repeat (first | go_values | go_skip | go_guarded | go_step | go_upon)
            refine ⟨⟨k + 1, ao3, cap3, hlt, by go_num, by rw [HF.out, HR.out]; dsimp only; rw [HL3.out], by rw [HF.out, HR.out], ?_, HK3.out⟩, by simp [intOf]; omega⟩
            rw [HF.out, HR.out]
            dsimp only
            rw [HL3.out]
            exact HT3.out
        | false =>
          by_cases p0 : ta ≤ a
          · have p1 : decide (ta ≤ a) = true := by simpa using p0
            cases p2 : (a == ta) with
            | true =>
              have hres : addStep (ta, tb, tc, td) (ps, false) (a, b, e, d) = (ps ++ [(ta, tb, tc, td)], true) := by simp [addStep, p1, p2]
              have HR : Hid _ := hres
              clear hres
              repeat (first | (at_builtin; refine forgetL (fun w' => w' = _) rfl ?_) | go_values | go_skip | go_guarded | go_step | go_upon)
              intro W3 hW3
              subst hW3
              have LN := Loc.new (wr.alloc (.cells #[.int .i64 a, .int .i64 b, .int .i64 e, .int .i64 d] 46)) (timerC (ta, tb, tc, td)) 46
              have kx : Kept (wr.alloc (.cells #[.int .i64 a, .int .i64 b, .int .i64 e, .int .i64 d] 46)) ((wr.alloc (.cells #[.int .i64 a, .int .i64 b, .int .i64 e, .int .i64 d] 46)).alloc (.cells (timerC (ta, tb, tc, td)).toArray 46)) := (But.refl _ _ _).alloc _
              have ox := TimerO.kept (TimerO.kept HOM.out ((But.refl _ _ wr).alloc _)) kx
              try simp only [World.size_alloc] at LN
              refine wpList_append_own _ rfl _ _ 23 rfl w1.heap.size 46 i0 (.agg #[.int .i64 0, .int .i64 0, .int .i64 0, .int .i64 0]) 4 32 Try.underlying23 hi0 hz0 hz1 hz2 rfl (by decide) (.slice ao2 M cap2) (M) (ps.flatMap timerC) rfl (by have := ox.1; rw [HM.out] at this; exact this) ⟨_, 0, none⟩ 1 1 (timerC (ta, tb, tc, td)) rfl rfl (news4 LN) (one4 _) (by unfold maxLen; omega) (by omega) (by simp <;> omega) ?_
              intro v3 w3 hown hgrow _
              obtain ⟨hT3, hLoc, hKept⟩ := app_timer ox HM.out hown hgrow
              obtain ⟨ao3, cap3, hf⟩ := hT3.form
              have hl3 : (ps ++ [(ta, tb, tc, td)]).length = M + 1 := by rw [List.length_append, HM.out]; rfl
              rw [hl3] at hf
              subst hf
              have K3 := hKept w1 (But.trans (HKP.out.alloc _) kx) (Nat.le_refl _)
              have LO3 := hLoc _ _ (Loc.kept (Loc.new wr [.int .i64 a, .int .i64 b, .int .i64 e, .int .i64 d] 46) kx) (by first | omega | (simp only [World.size_alloc]; omega))
              have x0 := LO3.cell 0 rfl
              have x1 := LO3.cell 1 rfl
              have x2 := LO3.cell 2 rfl
              have x3 := LO3.cell 3 rfl
              have LT3 := hLoc _ _ (Loc.kept (Loc.alloc HLT.out _) kx) (by first | omega | (simp only [World.size_alloc]; omega))
              have y0 := LT3.cell 0 rfl
              have sz3 := hgrow.size
              simp only [World.size_alloc] at sz3
              have HT3 : Hid (TimerO _ _ _ _ _) := hT3
              have HK3 : Hid _ := K3
              have HL3 : Hid _ := hl3
              clear hT3 hLoc hKept hown hgrow K3 LN kx ox hl3
              repeat (first | go_values | go_skip | go_guarded | go_step | go_upon)
              refine ⟨⟨k + 1, ao3, cap3, hlt, by go_num, by rw [HF.out, HR.out]; dsimp only; rw [HL3.out], by rw [HF.out, HR.out], ?_, HK3.out⟩, by simp [intOf]; omega⟩
              rw [HF.out, HR.out]
              dsimp only
              rw [HL3.out]
              exact HT3.out
            | false =>
              have hres : addStep (ta, tb, tc, td) (ps, false) (a, b, e, d) = (ps ++ [(ta, tb, tc, td)] ++ [(a, b, e, d)], true) := by simp [addStep, p1, p2]
              have HR : Hid _ := hres
              clear hres
              repeat (first | (at_builtin; refine forgetL (fun w' => w' = _) rfl ?_) | go_values | go_skip | go_guarded | go_step | go_upon)
              intro W3 hW3
              subst hW3
              have LN := Loc.new (wr.alloc (.cells #[.int .i64 a, .int .i64 b, .int .i64 e, .int .i64 d] 46)) (timerC (ta, tb, tc, td)) 46
              have kx : Kept (wr.alloc (.cells #[.int .i64 a, .int .i64 b, .int .i64 e, .int .i64 d] 46)) ((wr.alloc (.cells #[.int .i64 a, .int .i64 b, .int .i64 e, .int .i64 d] 46)).alloc (.cells (timerC (ta, tb, tc, td)).toArray 46)) := (But.refl _ _ _).alloc _
              have ox := TimerO.kept (TimerO.kept HOM.out ((But.refl _ _ wr).alloc _)) kx
              try simp only [World.size_alloc] at LN
              refine wpList_append_own _ rfl _ _ 23 rfl w1.heap.size 46 i0 (.agg #[.int .i64 0, .int .i64 0, .int .i64 0, .int .i64 0]) 4 32 Try.underlying23 hi0 hz0 hz1 hz2 rfl (by decide) (.slice ao2 M cap2) (M) (ps.flatMap timerC) rfl (by have := ox.1; rw [HM.out] at this; exact this) ⟨_, 0, none⟩ 1 1 (timerC (ta, tb, tc, td)) rfl rfl (news4 LN) (one4 _) (by unfold maxLen; omega) (by omega) (by simp <;> omega) ?_
              intro v3 w3 hown hgrow _
              obtain ⟨hT3, hLoc, hKept⟩ := app_timer ox HM.out hown hgrow
              obtain ⟨ao3, cap3, hf⟩ := hT3.form
              have hl3 : (ps ++ [(ta, tb, tc, td)]).length = M + 1 := by rw [List.length_append, HM.out]; rfl
              rw [hl3] at hf
              subst hf
              have K3 := hKept w1 (But.trans (HKP.out.alloc _) kx) (Nat.le_refl _)
              have LO3 := hLoc _ _ (Loc.kept (Loc.new wr [.int .i64 a, .int .i64 b, .int .i64 e, .int .i64 d] 46) kx) (by first | omega | (simp only [World.size_alloc]; omega))
              have x0 := LO3.cell 0 rfl
              have x1 := LO3.cell 1 rfl
              have x2 := LO3.cell 2 rfl
              have x3 := LO3.cell 3 rfl
              have LT3 := hLoc _ _ (Loc.kept (Loc.alloc HLT.out _) kx) (by first | omega | (simp only [World.size_alloc]; omega))
              have y0 := LT3.cell 0 rfl
              have sz3 := hgrow.size
              simp only [World.size_alloc] at sz3
              have HT3 : Hid (TimerO _ _ _ _ _) := hT3
              have HK3 : Hid _ := K3
              have HL3 : Hid _ := hl3
              clear hT3 hLoc hKept hown hgrow K3 LN kx ox hl3
              repeat (first | (at_builtin; refine forgetL (fun w' => w' = _) rfl ?_) | go_values | go_skip | go_guarded | go_step | go_upon)
              intro W4 hW4
              subst hW4
              have LN := Loc.new w3 (timerC (a, b, e, d)) 46
              have kx : Kept w3 (w3.alloc (.cells (timerC (a, b, e, d)).toArray 46)) := (But.refl _ _ _).alloc _
              have ox := TimerO.kept (HT3.out) kx
              try simp only [World.size_alloc] at LN
              refine wpList_append_own _ rfl _ _ 23 rfl w1.heap.size 46 i0 (.agg #[.int .i64 0, .int .i64 0, .int .i64 0, .int .i64 0]) 4 32 Try.underlying23 hi0 hz0 hz1 hz2 rfl (by decide) (.slice ao3 (M + 1) cap3) ((M + 1)) ((ps ++ [(ta, tb, tc, td)]).flatMap timerC) rfl (by have := ox.1; rw [HL3.out] at this; exact this) ⟨_, 0, none⟩ 1 1 (timerC (a, b, e, d)) rfl rfl (news4 LN) (one4 _) (by unfold maxLen; omega) (by omega) (by simp <;> omega) ?_
              intro v4 w4 hown hgrow _
              obtain ⟨hT4, hLoc, hKept⟩ := app_timer ox HL3.out hown hgrow
              obtain ⟨ao4, cap4, hf⟩ := hT4.form
              have hl4 : ((ps ++ [(ta, tb, tc, td)]) ++ [(a, b, e, d)]).length = (M + 1) + 1 := by rw [List.length_append, HL3.out]; rfl
              rw [hl4] at hf
              subst hf
              have K4 := hKept w1 (But.trans (HK3.out) kx) (Nat.le_refl _)
              have sz4 := hgrow.size
              simp only [World.size_alloc] at sz4
              have HT4 : Hid (TimerO _ _ _ _ _) := hT4
              have HK4 : Hid _ := K4
              have HL4 : Hid _ := hl4
              clear hT4 hLoc hKept hown hgrow K4 LN kx ox hl4
              repeat (first | go_values | go_skip | go_guarded | go_step | go_upon)
              refine ⟨⟨k + 1, ao4, cap4, hlt, by go_num, by rw [HF.out, HR.out]; dsimp only; rw [HL4.out], by rw [HF.out, HR.out], ?_, HK4.out⟩, by simp [intOf]; omega⟩
              rw [HF.out, HR.out]
              dsimp only
              rw [HL4.out]
              exact HT4.out
          · have p1 : decide (ta ≤ a) = false := by simpa using p0
            have p2 : (a == ta) = false := by simp; omega
            have hres : addStep (ta, tb, tc, td) (ps, false) (a, b, e, d) = (ps ++ [(a, b, e, d)], false) := by simp [addStep, p1, p2]
            have HR : Hid _ := hres
            clear hres
            repeat (first | (at_builtin; refine forgetL (fun w' => w' = _) rfl ?_) | go_values | go_skip | go_guarded | go_step | go_upon)
            intro W3 hW3
            subst hW3
            have LN := Loc.new (wr.alloc (.cells #[.int .i64 a, .int .i64 b, .int .i64 e, .int .i64 d] 46)) (timerC (a, b, e, d)) 46
            have kx : Kept (wr.alloc (.cells #[.int .i64 a, .int .i64 b, .int .i64 e, .int .i64 d] 46)) ((wr.alloc (.cells #[.int .i64 a, .int .i64 b, .int .i64 e, .int .i64 d] 46)).alloc (.cells (timerC (a, b, e, d)).toArray 46)) := (But.refl _ _ _).alloc _
            have ox := TimerO.kept (TimerO.kept HOM.out ((But.refl _ _ wr).alloc _)) kx
            try simp only [World.size_alloc] at LN
            refine wpList_append_own _ rfl _ _ 23 rfl w1.heap.size 46 i0 (.agg #[.int .i64 0, .int .i64 0, .int .i64 0, .int .i64 0]) 4 32 Try.underlying23 hi0 hz0 hz1 hz2 rfl (by decide) (.slice ao2 M cap2) (M) (ps.flatMap timerC) rfl (by have := ox.1; rw [HM.out] at this; exact this) ⟨_, 0, none⟩ 1 1 (timerC (a, b, e, d)) rfl rfl (news4 LN) (one4 _) (by unfold maxLen; omega) (by omega) (by simp <;> omega) ?_
            intro v3 w3 hown hgrow _
            obtain ⟨hT3, hLoc, hKept⟩ := app_timer ox HM.out hown hgrow
            obtain ⟨ao3, cap3, hf⟩ := hT3.form
            have hl3 : (ps ++ [(a, b, e, d)]).length = M + 1 := by rw [List.length_append, HM.out]; rfl
            rw [hl3] at hf
            subst hf
            have K3 := hKept w1 (But.trans (HKP.out.alloc _) kx) (Nat.le_refl _)
            have sz3 := hgrow.size
            simp only [World.size_alloc] at sz3
            have HT3 : Hid (TimerO _ _ _ _ _) := hT3
            have HK3 : Hid _ := K3
            have HL3 : Hid _ := hl3
            clear hT3 hLoc hKept hown hgrow K3 LN kx ox hl3
            repeat (first | go_values | go_skip | go_guarded | go_step | go_upon)
            refine ⟨⟨k + 1, ao3, cap3, hlt, by go_num, by rw [HF.out, HR.out]; dsimp only; rw [HL3.out], by rw [HF.out, HR.out], ?_, HK3.out⟩, by simp [intOf]; omega⟩
            rw [HF.out, HR.out]
            dsimp only
            rw [HL3.out]
            exact HT3.out
      · have hke : k = l.length := by omega
        subst hke
        have LTr := LT.kept hkp
        have hwr1 : w.heap.size + 1 < wr.heap.size := LTr.lt
        have hwr0 : w.heap.size < wr.heap.size := by omega
        have t0 := LTr.cell 0 rfl
        have t1 := LTr.cell 1 rfl
        have t2 := LTr.cell 2 rfl
        have t3 := LTr.cell 3 rfl
        have hMl : (addF (ta, tb, tc, td) l).1.length ≤ 40 := by
          have := addF_len (ta, tb, tc, td) l ([], false)
          simp only [List.length_nil] at this
          unfold addF
          omega
        have hadd : addM (ta, tb, tc, td) l = if (addF (ta, tb, tc, td) l).2 then (addF (ta, tb, tc, td) l).1 else (addF (ta, tb, tc, td) l).1 ++ [(ta, tb, tc, td)] := rfl
        rw [List.take_length] at ho ⊢
        generalize addF (ta, tb, tc, td) l = st at *
        obtain ⟨ps, put⟩ := st
        dsimp only at ho hMl hadd ⊢
        obtain ⟨M, hM⟩ : ∃ M, ps.length = M := ⟨_, rfl⟩
        have hom : TimerO wr w1.heap.size wr.heap.size (.slice ao2 M cap2) ps := by rw [← hM]; exact ho
        rw [hM]
        rw [hM] at hMl
        have HM : Hid _ := hM
        have HOM : Hid (TimerO _ _ _ _ _) := hom
        have HKP : Hid _ := hkp
        have HK0 : Hid (Kept w wr) := K0
        clear ho hom hM K0 hkp LTr
        cases put with
        | true =>
          have HADD : Hid (addM (ta, tb, tc, td) l = ps) := hadd
          clear hadd
          have kw := But.trans K1 (HKP.out)
          have LR := L1.kept (HKP.out)
          have LC := L0.kept (HKP.out)
          have s0 := LC.cell 0 rfl
          have s1 := LC.cell 1 rfl
          have hcl := LC.lt
          have hT := HOM.out
          have hsx := (HKP.out : Kept w1 wr).size
          repeat (first | go_values | go_skip | go_guarded | go_step | go_upon)
          go_at_call 16
          refine (specGood (now, ps) _ _ ⟨_, by dsimp only, (TimerO.kept hT ((But.refl _ _ _).alloc _)).at⟩).mono ?_
          rintro e w9 ⟨rfl, k9⟩
          have j9 : Kept wr w9 := ((But.refl _ _ wr).alloc _).trans k9
          have LQ := (Loc.new wr [.int .i64 now, .slice ao2 M cap2] 25).kept k9
          have LR := LR.kept j9
          have hT := TimerO.kept hT j9
          have kw := kw.trans j9
          have r0 := LR.cell 0 rfl
          have r1 := LR.cell 1 rfl
          have rf0 := LR.frozen 0
          have rf1 := LR.frozen 1
          have o0 := LQ.cell 0 rfl
          have o1 := LQ.cell 1 rfl
          have hrl := LR.lt
          have HT9 : Hid (TimerO _ _ _ _ _) := hT
          have HKW : Hid (Kept w w9) := kw
          clear k9 j9 kw LR LQ LC hT s0 s1
          cases hg9 : goodC (now, ps) with
          | false =>
            dsimp only
            repeat (first | go_values | go_skip | go_guarded | go_step | go_upon)
            have B : But (w.heap.size + 1 + 1) (w.heap.size + 1 + 1 + 1) w9 ((w9.setCell ⟨w.heap.size + 1 + 1, 0, none⟩ (.int .i64 0)).setCell ⟨w.heap.size + 1 + 1, 1, none⟩ (.slice none 0 0)) := ((But.refl _ _ _).setCell (by simp) (by simp) _).setCell (by simp) (by simp) _
            refine bodyPost_ret (v := .tuple #[.agg #[.int .i64 0, .slice none 0 0], .bool false]) (by simp [results, Try.results20, go_sem, r0, r1]) rfl ?_
            rw [show addA (now, l) (ta, tb, tc, td) = ((0, []), false) by simp [addA, HADD.out, hg9]]
            exact ⟨_, rfl, zero_clock _ _ _, HKW.out.onto B (by omega)⟩
          | true =>
            dsimp only
            repeat (first | go_values | go_skip | go_guarded | go_step | go_upon)
            have B : But (w.heap.size + 1 + 1) (w.heap.size + 1 + 1 + 1) w9 ((w9.setCell ⟨w.heap.size + 1 + 1, 0, none⟩ (.int .i64 now)).setCell ⟨w.heap.size + 1 + 1, 1, none⟩ (.slice ao2 M cap2)) := ((But.refl _ _ _).setCell (by simp) (by simp) _).setCell (by simp) (by simp) _
            refine bodyPost_ret (v := .tuple #[.agg #[.int .i64 now, .slice ao2 M cap2], .bool true]) (by simp [results, Try.results20, go_sem, r0, r1]) rfl ?_
            rw [show addA (now, l) (ta, tb, tc, td) = ((now, ps), true) by simp [addA, HADD.out, hg, hg9]]
            refine ⟨_, rfl, ⟨_, rfl, ?_⟩, HKW.out.onto B (by omega)⟩
            exact ((TimerO.but HT9.out B (by omega)).mono (lo' := w.heap.size) (by omega) (Nat.le_refl _)).low
        | false =>
          have HADD : Hid (addM (ta, tb, tc, td) l = ps ++ [(ta, tb, tc, td)]) := hadd
          clear hadd
          repeat (first | (at_builtin; refine forgetL (fun w' => w' = _) rfl ?_) | go_values | go_skip | go_guarded | go_step | go_upon)
          intro W3 hW3
          subst hW3
          have LN := Loc.new wr (timerC (ta, tb, tc, td)) 46
          have kx : Kept wr (wr.alloc (.cells (timerC (ta, tb, tc, td)).toArray 46)) := (But.refl _ _ _).alloc _
          have ox := TimerO.kept (HOM.out) kx
          try simp only [World.size_alloc] at LN
          refine wpList_append_own _ rfl _ _ 23 rfl w1.heap.size 46 i0 (.agg #[.int .i64 0, .int .i64 0, .int .i64 0, .int .i64 0]) 4 32 Try.underlying23 hi0 hz0 hz1 hz2 rfl (by decide) (.slice ao2 M cap2) (M) (ps.flatMap timerC) rfl (by have := ox.1; rw [HM.out] at this; exact this) ⟨_, 0, none⟩ 1 1 (timerC (ta, tb, tc, td)) rfl rfl (news4 LN) (one4 _) (by unfold maxLen; omega) (by omega) (by simp <;> omega) ?_
          intro v3 w3 hown hgrow _
          obtain ⟨hT3, hLoc, hKept⟩ := app_timer ox HM.out hown hgrow
          obtain ⟨ao3, cap3, hf⟩ := hT3.form
          have hl3 : (ps ++ [(ta, tb, tc, td)]).length = M + 1 := by rw [List.length_append, HM.out]; rfl
          rw [hl3] at hf
          subst hf
          have K3 := hKept w1 (But.trans (HKP.out) kx) (Nat.le_refl _)
          have sz3 := hgrow.size
          simp only [World.size_alloc] at sz3
          have HT3 : Hid (TimerO _ _ _ _ _) := hT3
          have HK3 : Hid _ := K3
          have HL3 : Hid _ := hl3
          clear hT3 hLoc hKept hown hgrow K3 LN kx ox hl3
          have kw := But.trans K1 (HK3.out)
          have LR := L1.kept (HK3.out)
          have LC := L0.kept (HK3.out)
          have s0 := LC.cell 0 rfl
          have s1 := LC.cell 1 rfl
          have hcl := LC.lt
          have hT := HT3.out
          have hsx := (HK3.out : Kept w1 w3).size
          repeat (first | go_values | go_skip | go_guarded | go_step | go_upon)
          go_at_call 16
          refine (specGood (now, (ps ++ [(ta, tb, tc, td)])) _ _ ⟨_, by dsimp only, (TimerO.kept hT ((But.refl _ _ _).alloc _)).at⟩).mono ?_
          rintro e w9 ⟨rfl, k9⟩
          have j9 : Kept w3 w9 := ((But.refl _ _ w3).alloc _).trans k9
          have LQ := (Loc.new w3 [.int .i64 now, .slice ao3 (M + 1) cap3] 25).kept k9
          have LR := LR.kept j9
          have hT := TimerO.kept hT j9
          have kw := kw.trans j9
          have r0 := LR.cell 0 rfl
          have r1 := LR.cell 1 rfl
          have rf0 := LR.frozen 0
          have rf1 := LR.frozen 1
          have o0 := LQ.cell 0 rfl
          have o1 := LQ.cell 1 rfl
          have hrl := LR.lt
          have HT9 : Hid (TimerO _ _ _ _ _) := hT
          have HKW : Hid (Kept w w9) := kw
          clear k9 j9 kw LR LQ LC hT s0 s1
          cases hg9 : goodC (now, (ps ++ [(ta, tb, tc, td)])) with
          | false =>
            dsimp only
            repeat (first | go_values | go_skip | go_guarded | go_step | go_upon)
            have B : But (w.heap.size + 1 + 1) (w.heap.size + 1 + 1 + 1) w9 ((w9.setCell ⟨w.heap.size + 1 + 1, 0, none⟩ (.int .i64 0)).setCell ⟨w.heap.size + 1 + 1, 1, none⟩ (.slice none 0 0)) := ((But.refl _ _ _).setCell (by simp) (by simp) _).setCell (by simp) (by simp) _
            refine bodyPost_ret (v := .tuple #[.agg #[.int .i64 0, .slice none 0 0], .bool false]) (by simp [results, Try.results20, go_sem, r0, r1]) rfl ?_
            rw [show addA (now, l) (ta, tb, tc, td) = ((0, []), false) by simp [addA, HADD.out, hg9]]
            exact ⟨_, rfl, zero_clock _ _ _, HKW.out.onto B (by omega)⟩
          | true =>
            dsimp only
            repeat (first | go_values | go_skip | go_guarded | go_step | go_upon)
            have B : But (w.heap.size + 1 + 1) (w.heap.size + 1 + 1 + 1) w9 ((w9.setCell ⟨w.heap.size + 1 + 1, 0, none⟩ (.int .i64 now)).setCell ⟨w.heap.size + 1 + 1, 1, none⟩ (.slice ao3 (M + 1) cap3)) := ((But.refl _ _ _).setCell (by simp) (by simp) _).setCell (by simp) (by simp) _
            refine bodyPost_ret (v := .tuple #[.agg #[.int .i64 now, .slice ao3 (M + 1) cap3], .bool true]) (by simp [results, Try.results20, go_sem, r0, r1]) rfl ?_
            rw [show addA (now, l) (ta, tb, tc, td) = ((now, (ps ++ [(ta, tb, tc, td)])), true) by simp [addA, HADD.out, hg, hg9]]
            refine ⟨_, rfl, ⟨_, rfl, ?_⟩, HKW.out.onto B (by omega)⟩
            exact ((TimerO.but HT9.out B (by omega)).mono (lo' := w.heap.size) (by omega) (Nat.le_refl _)).low

end Go.Proofs.Ythihgjcnjgpegaa
