/-
  A spot taken back, in the specification and in the program.
-/
import Derived.Test.YtcljppnakmeldaaJoinS
namespace Go.Proofs.Ytcljppnakmeldaa
open Go.ChangeShapes Go.WideShapes Go.ChangeAt Go.RowKit

set_option maxRecDepth 100000 in
set_option maxHeartbeats 4000000 in
theorem specBack (a : SpotD) (w : World) (ha : GoodS a) : Calls Try.prog 42 #[sv a] w fun e w' => e = .returned (sv (backM a)) ∧ Kept w w' := by
  obtain ⟨ax, ay, at', af⟩ := a
  obtain ⟨a1, a2, a3, a4, a5, a6⟩ := ha
  simp only at a1 a2 a3 a4 a5 a6
  have hg : GoodS (0, 0, 0, true) := by decide
  cases af
  · have hbt : backT (ax, ay, at', false) = (-at') % 4 := by simp [backT]
    obtain ⟨c1, c2, c3, c4⟩ := carryM_le (0, 0, (-at') % 4, false) ax ay 1000000 a1 a2 a3 a4
    have hneg := carryM_neg (0, 0, (-at') % 4, false) ax ay
    go_enter Try.func42, Try.ntmps42
    repeat (first | (go_at_call 67; refine (sapply _ _ _ _ _ _ _ (by omega) (by omega) hg (by omega) (by omega) (by omega) (by omega)).mono ?_; rintro e w' ⟨rfl, rfl⟩; dsimp only) | go_values | go_skip | go_guarded | go_step | go_upon)
    refine bodyPost_ret (v := sv (backM (ax, ay, at', false))) (by simp [results, Try.results42, go_sem, backM, hbt, hneg]) rfl ?_
    refine ⟨rfl, ?_⟩
    (repeat (first | with_reducible exact But.refl _ _ _ | with_reducible apply But.drewN | with_reducible apply But.drew | with_reducible apply But.alloc | (with_reducible refine But.setNew ?_ (by simp; try omega) _)))
  · have hbt : backT (ax, ay, at', true) = at' := by simp [backT]
    obtain ⟨c1, c2, c3, c4⟩ := carryM_le (0, 0, at', true) ax ay 1000000 a1 a2 a3 a4
    have hneg := carryM_neg (0, 0, at', true) ax ay
    go_enter Try.func42, Try.ntmps42
    repeat (first | (go_at_call 67; refine (sapply _ _ _ _ _ _ _ (by omega) (by omega) hg (by omega) (by omega) (by omega) (by omega)).mono ?_; rintro e w' ⟨rfl, rfl⟩; dsimp only) | go_values | go_skip | go_guarded | go_step | go_upon)
    refine bodyPost_ret (v := sv (backM (ax, ay, at', true))) (by simp [results, Try.results42, go_sem, backM, hbt, hneg]) rfl ?_
    refine ⟨rfl, ?_⟩
    (repeat (first | with_reducible exact But.refl _ _ _ | with_reducible apply But.drewN | with_reducible apply But.drew | with_reducible apply But.alloc | (with_reducible refine But.setNew ?_ (by simp; try omega) _)))

def backA (a : SpotD) : SpotD × Bool := if GoodS a then (backM a, true) else (s0, false)
set_option maxRecDepth 100000 in
set_option maxHeartbeats 4000000 in
theorem implBack (a : SpotD) (w : World) : Calls Try.prog 13 #[sv a] w fun e w' => e = .returned (.tuple #[sv (backA a).1, .bool (backA a).2]) ∧ Kept w w' := by
  obtain ⟨ax, ay, at', af⟩ := a
  by_cases ha : GoodS (ax, ay, at', af)
  · have ga := (goodS_iff _).2 ha
    have ha0 := ha
    obtain ⟨a1, a2, a3, a4, a5, a6⟩ := ha
    simp only at a1 a2 a3 a4 a5 a6
    have hg : GoodS (0, 0, 0, true) := by decide
    cases af
    · have hbt : backT (ax, ay, at', false) = (-at') % 4 := by simp [backT]
      obtain ⟨c1, c2, c3, c4⟩ := carryM_le (0, 0, (-at') % 4, false) ax ay 1000000 a1 a2 a3 a4
      go_enter Try.func13, Try.ntmps13
      repeat (first | (go_at_call 38; refine (igood _ _ _ _ _).mono ?_; rintro e w' ⟨rfl, n1, rfl⟩; rw [ga]; dsimp only) | go_values | go_skip | go_guarded | go_step | go_upon)
      go_region_held3 (fun w' => w'.cell? ⟨w.heap.size, 2, none⟩ = some (.int .i64 at') ∧ w'.cell? ⟨w.heap.size, 3, none⟩ = some (.bool false)) (simp [go_sem, *])
        (first | (go_at_call 39; refine (inOneRound _ _).mono ?_; rintro e w' ⟨rfl, rfl⟩))
      all_goals
        repeat (first | (go_at_call 40; refine (icarry _ _ _ _ _ _ _ (by omega) (by omega) hg (by omega) (by omega) (by omega) (by omega)).mono ?_; rintro e w' ⟨rfl, n1, rfl⟩; dsimp only) | go_values | go_skip | go_guarded | go_step | go_upon)
        try go_quiet (fail)
        repeat (first | go_values | go_skip | go_guarded | go_step | go_upon)
        refine bodyPost_ret (v := .tuple #[sv (backM (ax, ay, at', false)), .bool true]) (by simp [results, Try.results13, go_sem, backM, hbt]) rfl ?_
        refine ⟨?_, ?_⟩
        · have hx : backA (ax, ay, at', false) = (backM (ax, ay, at', false), true) := if_pos ha0
          rw [hx]
        · (repeat (first | with_reducible exact But.refl _ _ _ | with_reducible apply But.drewN | with_reducible apply But.drew | with_reducible apply But.alloc | (with_reducible refine But.setNew ?_ (by simp; try omega) _)))
    · have hbt : backT (ax, ay, at', true) = at' := by simp [backT]
      obtain ⟨c1, c2, c3, c4⟩ := carryM_le (0, 0, at', true) ax ay 1000000 a1 a2 a3 a4
      go_enter Try.func13, Try.ntmps13
      repeat (first | (go_at_call 38; refine (igood _ _ _ _ _).mono ?_; rintro e w' ⟨rfl, n1, rfl⟩; rw [ga]; dsimp only) | go_values | go_skip | go_guarded | go_step | go_upon)
      go_region_held3 (fun w' => w'.cell? ⟨w.heap.size, 2, none⟩ = some (.int .i64 at') ∧ w'.cell? ⟨w.heap.size, 3, none⟩ = some (.bool true)) (simp [go_sem, *])
        (first | (go_at_call 39; refine (inOneRound _ _).mono ?_; rintro e w' ⟨rfl, rfl⟩))
      all_goals
        repeat (first | (go_at_call 40; refine (icarry _ _ _ _ _ _ _ (by omega) (by omega) hg (by omega) (by omega) (by omega) (by omega)).mono ?_; rintro e w' ⟨rfl, n1, rfl⟩; dsimp only) | go_values | go_skip | go_guarded | go_step | go_upon)
        try go_quiet (fail)
        repeat (first | go_values | go_skip | go_guarded | go_step | go_upon)
        refine bodyPost_ret (v := .tuple #[sv (backM (ax, ay, at', true)), .bool true]) (by simp [results, Try.results13, go_sem, backM, hbt]) rfl ?_
        refine ⟨?_, ?_⟩
        · have hx : backA (ax, ay, at', true) = (backM (ax, ay, at', true), true) := if_pos ha0
          rw [hx]
        · (repeat (first | with_reducible exact But.refl _ _ _ | with_reducible apply But.drewN | with_reducible apply But.drew | with_reducible apply But.alloc | (with_reducible refine But.setNew ?_ (by simp; try omega) _)))
  · have ga := goodS_no ha
    go_enter Try.func13, Try.ntmps13
    repeat (first | (go_at_call 38; refine (igood _ _ _ _ _).mono ?_; rintro e w' ⟨rfl, n1, rfl⟩; rw [ga]; dsimp only) | go_values | go_skip | go_guarded | go_step | go_upon)
    refine bodyPost_ret (v := .tuple #[sv s0, .bool false]) (by simp [results, Try.results13, go_sem, s0]) rfl ?_
    refine ⟨?_, ?_⟩
    · have hx : backA (ax, ay, at', af) = (s0, false) := if_neg ha
      rw [hx]
    · (repeat (first | with_reducible exact But.refl _ _ _ | with_reducible apply But.drewN | with_reducible apply But.drew | with_reducible apply But.alloc | (with_reducible refine But.setNew ?_ (by simp; try omega) _)))

set_option maxRecDepth 100000 in
set_option maxHeartbeats 4000000 in
theorem specBackSpot (a : SpotD) (w : World) : Calls Try.prog 14 #[sv a] w fun e w' => e = .returned (.tuple #[sv (backA a).1, .bool (backA a).2]) ∧ Kept w w' := by
  obtain ⟨ax, ay, at', af⟩ := a
  by_cases ha : GoodS (ax, ay, at', af)
  · have ga := (goodS_iff _).2 ha
    obtain ⟨⟨jx, jy, jt, jf⟩, hJ⟩ : ∃ j, backM (ax, ay, at', af) = j := ⟨_, rfl⟩
    have hK : ∀ u, Calls Try.prog 42 #[.agg #[.int .i64 ax, .int .i64 ay, .int .i64 at', .bool af]] u fun e w' => e = .returned (.agg #[.int .i64 jx, .int .i64 jy, .int .i64 jt, .bool jf]) ∧ Kept u w' := fun u => by
      have := specBack _ u ha
      rw [hJ] at this
      exact this
    have HK : Hid _ := hK
    have HJ : Hid _ := hJ
    clear hK hJ
    go_enter Try.func14, Try.ntmps14
    repeat (first | (go_at_call 41; refine (sgood _ _ _ _ _).mono ?_; rintro e w' ⟨rfl, rfl⟩; rw [ga]; dsimp only) | go_values | go_skip | go_guarded | go_step | go_upon)
    go_at_call 42
    refine (HK.out _).mono ?_
    rintro e w2 ⟨rfl, k2⟩
    have L3 := ((Loc.new (w.alloc (.cells #[.int .i64 ax, .int .i64 ay, .int .i64 at', .bool af] 24)) [.int .i64 0, .int .i64 0, .int .i64 0, .bool false] 24).alloc (.cells #[.int .i64 ax, .int .i64 ay, .int .i64 at', .bool af] 24)).kept k2
    have q0 := L3.cell 0 rfl
    have q1 := L3.cell 1 rfl
    have q2 := L3.cell 2 rfl
    have q3 := L3.cell 3 rfl
    have r0 := L3.frozen 0
    have r1 := L3.frozen 1
    have r2 := L3.frozen 2
    have r3 := L3.frozen 3
    simp only [World.size_alloc] at q0 q1 q2 q3 r0 r1 r2 r3
    have KK : Hid (Kept w w2) := ((((But.refl _ _ _).alloc _).alloc _).alloc _).trans k2
    clear L3 k2
    dsimp only
    repeat (first | go_values | go_skip | go_guarded | go_step | go_upon)
    refine bodyPost_ret (v := .tuple #[sv (jx, jy, jt, jf), .bool true]) (by simp [results, Try.results14, go_sem, *]) rfl ?_
    refine ⟨?_, ?_⟩
    · have hx : backA (ax, ay, at', af) = ((jx, jy, jt, jf), true) := by rw [← HJ.out]; exact if_pos ha
      rw [hx]
    · (repeat (first | with_reducible exact KK.out | (with_reducible refine But.setNew ?_ (by simp; try omega) _)))
  · have ga := goodS_no ha
    go_enter Try.func14, Try.ntmps14
    repeat (first | (go_at_call 41; refine (sgood _ _ _ _ _).mono ?_; rintro e w' ⟨rfl, rfl⟩; rw [ga]; dsimp only) | go_values | go_skip | go_guarded | go_step | go_upon)
    refine bodyPost_ret (v := .tuple #[sv s0, .bool false]) (by simp [results, Try.results14, go_sem, s0]) rfl ?_
    refine ⟨?_, ?_⟩
    · have hx : backA (ax, ay, at', af) = (s0, false) := if_neg ha
      rw [hx]
    · (repeat (first | with_reducible exact But.refl _ _ _ | with_reducible apply But.drewN | with_reducible apply But.drew | with_reducible apply But.alloc | (with_reducible refine But.setNew ?_ (by simp; try omega) _)))
end Go.Proofs.Ytcljppnakmeldaa
