/-
  What the program of RunClock answers.
-/
import Derived.Test.YthihgjcnjgpegaaRunA
import Derived.Test.YthihgjcnjgpegaaWork
import Derived.Test.YthihgjcnjgpegaaGood
import Derived.Test.YthihgjcnjgpegaaSorted
import Derived.BigRegion
namespace Go.Proofs.Ythihgjcnjgpegaa
open Go.ChangeShapes Go.WideShapes Go.ChangeAt Go.RowKit

set_option maxRecDepth 100000
set_option maxHeartbeats 8000000 in
theorem implRun (c : ClockD) (u : Int) (v : Value) (w : World) (hv : ClockAt w v c) :
    Calls Try.prog 11 #[v, .int .i64 u] w fun e w' => ∃ v1 v2, e = .returned (.tuple #[v1, v2, .bool (runA c u).2.2]) ∧ ClockO w' w.heap.size w'.heap.size v1 (runA c u).1 ∧ FiredO w' w.heap.size w'.heap.size v2 (runA c u).2.1 ∧ Kept w w' := by
  obtain ⟨ao, cap, hfm⟩ := hv.form
  subst hfm
  have hr := hv.row
  obtain ⟨now, l⟩ := c
  dsimp only at *
  cases hg : goodC (now, l) with
  | false =>
    rw [show runA (now, l) u = ((0, []), [], false) by simp [runA, hg]]
    go_enter Try.func11, Try.ntmps11
    repeat (first | go_values | go_skip | go_guarded | go_step | go_upon)
    go_at_call 18
    refine (implGood (now, l) _ _ (hv.kept (((But.refl _ _ _).alloc _).alloc _))).mono ?_
    rintro e w1 ⟨rfl, k1⟩
    rw [hg]
    have K1 : Kept w w1 := (((But.refl _ _ _).alloc _).alloc _).trans k1
    have L0 := (Loc.alloc (Loc.new w [.int .i64 now, .slice ao l.length cap] 25) (.cells #[.int .i64 0, .slice none 0 0] 25)).kept k1
    have L1 := (Loc.new (w.alloc (.cells #[.int .i64 now, .slice ao l.length cap] 25)) [.int .i64 0, .slice none 0 0] 25).kept k1
    simp only [World.size_alloc] at L1
    have hw1 := L1.lt
    have hw0 := L0.lt
    have s0 := L0.cell 0 rfl
    have s1 := L0.cell 1 rfl
    have r0 := L1.cell 0 rfl
    have r1 := L1.cell 1 rfl
    have rf0 := L1.frozen 0
    have rf1 := L1.frozen 1
    clear k1
    dsimp only
    repeat (first | go_values | go_skip | go_guarded | go_step | go_upon)
    have B0 : But (w.heap.size + 1) (w.heap.size + 2) w1 ((w1.setCell ⟨w.heap.size + 1, 0, none⟩ (.int .i64 0)).setCell ⟨w.heap.size + 1, 1, none⟩ (.slice none 0 0)) := ((But.refl _ _ _).setCell (by simp) (by simp) _).setCell (by simp) (by simp) _
    refine bodyPost_ret (v := .tuple #[.agg #[.int .i64 0, .slice none 0 0], .slice none 0 0, .bool false]) (by simp [results, Try.results11, go_sem, r0, r1]) rfl ?_
    exact ⟨_, _, rfl, zero_clock2 _ _ _, zero_fired _ _ _, K1.onto B0 (by omega)⟩
  | true =>
    by_cases hu1 : u < now
    case pos =>
      have q1 : decide (u < now) = true := by simpa using hu1
      rw [show runA (now, l) u = ((0, []), [], false) by simp [runA, show ¬ now ≤ u by omega]]
      go_enter Try.func11, Try.ntmps11
      repeat (first | go_values | go_skip | go_guarded | go_step | go_upon)
      go_at_call 18
      refine (implGood (now, l) _ _ (hv.kept (((But.refl _ _ _).alloc _).alloc _))).mono ?_
      rintro e w1 ⟨rfl, k1⟩
      rw [hg]
      have K1 : Kept w w1 := (((But.refl _ _ _).alloc _).alloc _).trans k1
      have L0 := (Loc.alloc (Loc.new w [.int .i64 now, .slice ao l.length cap] 25) (.cells #[.int .i64 0, .slice none 0 0] 25)).kept k1
      have L1 := (Loc.new (w.alloc (.cells #[.int .i64 now, .slice ao l.length cap] 25)) [.int .i64 0, .slice none 0 0] 25).kept k1
      simp only [World.size_alloc] at L1
      have hw1 := L1.lt
      have hw0 := L0.lt
      have s0 := L0.cell 0 rfl
      have s1 := L0.cell 1 rfl
      have r0 := L1.cell 0 rfl
      have r1 := L1.cell 1 rfl
      have rf0 := L1.frozen 0
      have rf1 := L1.frozen 1
      clear k1
      dsimp only
      repeat (first | go_values | go_skip | go_guarded | go_step | go_upon)
      have B0 : But (w.heap.size + 1) (w.heap.size + 2) w1 ((w1.setCell ⟨w.heap.size + 1, 0, none⟩ (.int .i64 0)).setCell ⟨w.heap.size + 1, 1, none⟩ (.slice none 0 0)) := ((But.refl _ _ _).setCell (by simp) (by simp) _).setCell (by simp) (by simp) _
      refine bodyPost_ret (v := .tuple #[.agg #[.int .i64 0, .slice none 0 0], .slice none 0 0, .bool false]) (by simp [results, Try.results11, go_sem, r0, r1]) rfl ?_
      exact ⟨_, _, rfl, zero_clock2 _ _ _, zero_fired _ _ _, K1.onto B0 (by omega)⟩
    case neg =>
    have q1 : decide (u < now) = false := by simpa using hu1
    by_cases hu2 : 100000 < u
    case pos =>
      have q2 : decide (100000 < u) = true := by simpa using hu2
      rw [show runA (now, l) u = ((0, []), [], false) by simp [runA, show ¬ u ≤ 100000 by omega]]
      go_enter Try.func11, Try.ntmps11
      repeat (first | go_values | go_skip | go_guarded | go_step | go_upon)
      go_at_call 18
      refine (implGood (now, l) _ _ (hv.kept (((But.refl _ _ _).alloc _).alloc _))).mono ?_
      rintro e w1 ⟨rfl, k1⟩
      rw [hg]
      have K1 : Kept w w1 := (((But.refl _ _ _).alloc _).alloc _).trans k1
      have L0 := (Loc.alloc (Loc.new w [.int .i64 now, .slice ao l.length cap] 25) (.cells #[.int .i64 0, .slice none 0 0] 25)).kept k1
      have L1 := (Loc.new (w.alloc (.cells #[.int .i64 now, .slice ao l.length cap] 25)) [.int .i64 0, .slice none 0 0] 25).kept k1
      simp only [World.size_alloc] at L1
      have hw1 := L1.lt
      have hw0 := L0.lt
      have s0 := L0.cell 0 rfl
      have s1 := L0.cell 1 rfl
      have r0 := L1.cell 0 rfl
      have r1 := L1.cell 1 rfl
      have rf0 := L1.frozen 0
      have rf1 := L1.frozen 1
      clear k1
      dsimp only
      repeat (first | go_values | go_skip | go_guarded | go_step | go_upon)
      have B0 : But (w.heap.size + 1) (w.heap.size + 2) w1 ((w1.setCell ⟨w.heap.size + 1, 0, none⟩ (.int .i64 0)).setCell ⟨w.heap.size + 1, 1, none⟩ (.slice none 0 0)) := ((But.refl _ _ _).setCell (by simp) (by simp) _).setCell (by simp) (by simp) _
      refine bodyPost_ret (v := .tuple #[.agg #[.int .i64 0, .slice none 0 0], .slice none 0 0, .bool false]) (by simp [results, Try.results11, go_sem, r0, r1]) rfl ?_
      exact ⟨_, _, rfl, zero_clock2 _ _ _, zero_fired _ _ _, K1.onto B0 (by omega)⟩
    case neg =>
    have q2 : decide (100000 < u) = false := by simpa using hu2
    obtain ⟨R, hR⟩ : ∃ R, runM u 2000 l = R := ⟨_, rfl⟩
    have HA : Hid (runA (now, l) u = outA u R) := by
      show runA (now, l) u = _
      rw [← hR]
      simp [runA, hg, show now ≤ u by omega, show u ≤ 100000 by omega]
    have hlen : l.length ≤ 20 := good_len hg
    go_enter Try.func11, Try.ntmps11
    repeat (first | go_values | go_skip | go_guarded | go_step | go_upon)
    go_at_call 18
    refine (implGood (now, l) _ _ (hv.kept (((But.refl _ _ _).alloc _).alloc _))).mono ?_
    rintro e w1 ⟨rfl, k1⟩
    rw [hg]
    have K1 : Kept w w1 := (((But.refl _ _ _).alloc _).alloc _).trans k1
    have L0 := (Loc.alloc (Loc.new w [.int .i64 now, .slice ao l.length cap] 25) (.cells #[.int .i64 0, .slice none 0 0] 25)).kept k1
    have L1 := (Loc.new (w.alloc (.cells #[.int .i64 now, .slice ao l.length cap] 25)) [.int .i64 0, .slice none 0 0] 25).kept k1
    simp only [World.size_alloc] at L1
    have hw1 := L1.lt
    have hw0 := L0.lt
    have s0 := L0.cell 0 rfl
    have s1 := L0.cell 1 rfl
    have r0 := L1.cell 0 rfl
    have r1 := L1.cell 1 rfl
    have rf0 := L1.frozen 0
    have rf1 := L1.frozen 1
    clear k1
    go_wp2_with fail
    obtain ⟨B, hB⟩ : ∃ B, w1.heap.size = B := ⟨_, rfl⟩
    have LB0 := Loc.new w1 [.int .i64 u, .func (.func 38) #[] #[], .slice none 0 0, .slice none 0 0] 72
    rw [hB] at LB0 ⊢
    have hBw : w.heap.size + 1 < B := by omega
    clear s0 s1 r0 r1 rf0 rf1
    go_loopw [9, 32] (fun _ i wr => ∃ (k : Nat) (ps : List TimerD) (iv : Value), k ≤ l.length ∧ i = .int .i64 (k : Int) ∧ ps.Perm (l.take k) ∧ Heap (atT ps) ps.length ∧ Loc wr B [.int .i64 u, .func (.func 38) #[] #[], iv, .slice none 0 0] ∧ TimerO wr (B + 1) wr.heap.size iv ps ∧ Kept w1 wr) (fun _ i _ => l.length - (intOf i).toNat)
    case atStart =>
      refine ⟨0, [], .slice none 0 0, by omega, rfl, List.Perm.refl _, fun i h0 h1 => by simp at h1, LB0, ⟨World.ownsRow_nil _ _ _ _, fun g hg => by simp [Value.ownBlock] at hg⟩, (But.refl _ _ _).alloc _⟩
    case round =>
      obtain ⟨k, ps, iv, hk, rfl, hpp, hh, hL, ho, hkp⟩ := hrel
      have K0 : Kept w wr := K1.trans hkp
      have hBl := hL.lt
      have hpl : ps.length ≤ 20 := by rw [hpp.length_eq]; simp; omega
      by_cases hlt : k < l.length
      · obtain ⟨⟨a, b, e, d⟩, hp⟩ : ∃ p, l[k]? = some p := ⟨_, List.getElem?_eq_getElem hlt⟩
        obtain ⟨g, o, cap1, ee, c0, c1, c2, c3⟩ := timer_get (hr.kept K0) hp
        cases ee
        dsimp only at c0 c1 c2 c3
        have htk := take_snoc hp
        have HH : Hid (Heap (atT ps) ps.length ∧ ps.Perm (l.take k) ∧ Kept w1 wr ∧ l.take (k + 1) = l.take k ++ [(a, b, e, d)]) := ⟨hh, hpp, hkp, htk⟩
        clear hh hpp hkp K0 hp htk
        repeat (first | go_values | go_skip | go_guarded | go_step | go_upon)
        have k8 : Kept wr (wr.alloc (.cells #[.int .i64 a, .int .i64 b, .int .i64 e, .int .i64 d] 46)) := (But.refl _ _ _).alloc _
        go_region_with (go_at_call 39; refine (putT B (.int .i64 u) (.slice none 0 0) iv ps a b e d _ (hL.kept k8.drew) ((TimerO.kept ho k8.drew).low) (by omega) HH.out.1).mono ?_; rintro e9 w9 ⟨rfl, ps', iv', L9, o9, p9, h9, T9, ob9⟩)
        all_goals
          have T9' : Touch B iv wr w9 := (Touch.of k8.drew).trans (.inl rfl) T9
          have HR9 : Hid (Loc w9 B [.int .i64 u, .func (.func 38) #[] #[], iv', .slice none 0 0] ∧ TimerO w9 (B + 1) w9.heap.size iv' ps' ∧ ps'.Perm ((a, b, e, d) :: ps) ∧ Heap (atT ps') ps'.length ∧ Touch B iv wr w9) := ⟨L9, o9, p9, h9, T9'⟩
          clear L9 o9 p9 h9 T9 T9' ob9 c0 c1 c2 c3
          repeat (first | go_values | go_skip | go_guarded | go_step | go_upon)
          obtain ⟨L9, o9, p9, h9, T9⟩ := HR9.out
          obtain ⟨_, hpp, hkp, htk⟩ := HH.out
          refine ⟨⟨k + 1, ps', iv', hlt, by go_num, ?_, h9, L9, o9, T9.new (by omega) (fun x hx => by have := (own_lt ho.1 hx).1; omega) hkp⟩, by simp [intOf]; omega⟩
          rw [htk]
          exact (p9.trans (hpp.cons _)).trans (List.perm_append_comm (l₁ := [(a, b, e, d)]) (l₂ := l.take k))
      · have hke : k = l.length := by omega
        subst hke
        rw [List.take_length] at hpp
        have hI : RunInv u R ps [] := by
          have := inv_start (c := (now, l)) u hg hpp
          rw [hR] at this
          exact this
        have HP : Hid (Kept w1 wr) := hkp
        clear hpp hkp K0
        go_wp2_with fail
        go_at_call 40
        refine (workOff B u (by omega) R iv (.slice none 0 0) ps [] _ hL ho (zero_fired _ _ _) (by omega) hh hI).mono ?_
        rintro e9 w9 ⟨rfl, ps9, fs9, iv9, fv9, L9, o9, f9, hn9, hend, hk9⟩
        have K9 : Kept w1 w9 := hk9 w1 HP.out (by omega)
        obtain ⟨aoi, capi, hfm⟩ := o9.form
        subst hfm
        obtain ⟨aof, capf, hfm⟩ := f9.form
        subst hfm
        have L1 := L1.kept K9
        have K9w := K1.trans K9
        have hB9 := L9.lt
        have hw1' := L1.lt
        have b2 := L9.cell 2 rfl
        have b3 := L9.cell 3 rfl
        have r0 := L1.cell 0 rfl
        have r1 := L1.cell 1 rfl
        have rf0 := L1.frozen 0
        have rf1 := L1.frozen 1
        have s9 := K9.size
        clear hI hh hk9 hL ho
        rcases hend with ⟨h1, h2⟩ | ⟨h1, l9, hp9, hr9, h2⟩
        · have q5 : decide (2000 < (fs9.length : Int)) = true := by simp; omega
          have HR : Hid (R = none) := h2
          clear h2 hR
          dsimp only
          repeat (first | go_values | go_skip | go_guarded | go_step | go_upon)
          have B0 : But (w.heap.size + 1) (w.heap.size + 2) w9 ((w9.setCell ⟨w.heap.size + 1, 0, none⟩ (.int .i64 0)).setCell ⟨w.heap.size + 1, 1, none⟩ (.slice none 0 0)) := ((But.refl _ _ _).setCell (by simp) (by simp) _).setCell (by simp) (by simp) _
          refine bodyPost_ret (v := .tuple #[.agg #[.int .i64 0, .slice none 0 0], .slice none 0 0, .bool false]) (by simp [results, Try.results11, go_sem, r0, r1]) rfl ?_
          rw [HA.out, HR.out]
          exact ⟨_, _, rfl, zero_clock2 _ _ _, zero_fired _ _ _, K9w.onto B0 (by omega)⟩
        · have q5 : decide (2000 < (fs9.length : Int)) = false := by simp; omega
          have HR : Hid (R = some (l9, fs9)) := h2
          clear h2 hR
          dsimp only
          repeat (first | go_values | go_skip | go_guarded | go_step | go_upon)
          go_at_call 44
          refine (valuesT aoi ps9.length capi _).mono ?_
          rintro e10 w10 ⟨rfl, hw10⟩
          have k10 : Kept w9 w10 := by rw [hw10]; exact (But.refl _ _ _).alloc _
          have hbx : w10.cell? ⟨w9.heap.size, 0, none⟩ = some (.slice aoi ps9.length capi) := by rw [hw10]; exact (Loc.new w9 [.slice aoi ps9.length capi] 23).cell 0 rfl
          clear hw10
          dsimp only
          repeat (first | go_values | go_skip | go_guarded | go_step | go_upon)
          go_at_call 43
          refine (sortedFunc w9.heap.size ps9 l9 aoi capi _ hbx (o9.at.kept k10) (by omega) hp9 hr9).mono ?_
          rintro e11 w11 ⟨v11, rfl, o11, k11⟩
          obtain ⟨ao11, cap11, hfm⟩ := o11.form
          subst hfm
          have j11 := k10.trans k11
          have L11 := L9.kept j11
          have L1 := L1.kept j11
          have f11 := FiredO.kept f9 j11
          have K11 := K9w.trans j11
          have s11 := j11.size
          have s10 := k10.size
          have b3 := L11.cell 3 rfl
          have hB11 := L11.lt
          have hw11 := L1.lt
          have r0 := L1.cell 0 rfl
          have r1 := L1.cell 1 rfl
          have rf0 := L1.frozen 0
          have rf1 := L1.frozen 1
          clear b2 k10 k11 j11
          dsimp only
          repeat (first | go_values | go_skip | go_guarded | go_step | go_upon)
          apply wp_cut0 (F := fun W' => W' = ((w11.setCell ⟨w.heap.size + 1, 0, none⟩ (.int .i64 u)).setCell ⟨w.heap.size + 1, 1, none⟩ (.slice ao11 l9.length cap11)).drew)
          · go_big_region
            all_goals exact ⟨rfl, by with_reducible rfl⟩
          · intro w12 hw12
            have B1 : But (w.heap.size + 1) (w.heap.size + 2) w11 ((w11.setCell ⟨w.heap.size + 1, 0, none⟩ (.int .i64 u)).setCell ⟨w.heap.size + 1, 1, none⟩ (.slice ao11 l9.length cap11)) := ((But.refl _ _ _).setCell (by simp) (by simp) _).setCell (by simp) (by simp) _
            have B12 : But (w.heap.size + 1) (w.heap.size + 2) w11 w12 := by rw [hw12]; exact B1.drew
            have L12 : Loc w12 (w.heap.size + 1) [.int .i64 u, .slice ao11 l9.length cap11] := by
              rw [hw12]
              exact (((L1.set 0 (.int .i64 u)).set 1 (.slice ao11 l9.length cap11))).kept ((But.refl _ _ _).drew)
            clear hw12 r0 r1 rf0 rf1 b3
            have t0 := L12.cell 0 rfl
            have t1 := L12.cell 1 rfl
            repeat (first | go_values | go_skip | go_guarded | go_step | go_upon)
            refine bodyPost_ret (v := .tuple #[.agg #[.int .i64 u, .slice ao11 l9.length cap11], .slice aof fs9.length capf, .bool true]) (by simp [results, Try.results11, go_sem, t0, t1]) rfl ?_
            rw [HA.out, HR.out]
            have sz12 := B12.size
            refine ⟨_, _, rfl, ⟨_, rfl, ?_⟩, ?_, K11.onto B12 (by omega)⟩
            · exact ((TimerO.but o11 B12 (by omega)).mono (lo' := w.heap.size) (by omega) (Nat.le_refl _)).low
            · exact ((FiredO.but f11 B12 (by omega)).mono (lo' := w.heap.size) (by omega) (Nat.le_refl _)).low

end Go.Proofs.Ythihgjcnjgpegaa
