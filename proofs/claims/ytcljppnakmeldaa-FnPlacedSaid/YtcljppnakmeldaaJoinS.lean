/-
  Spots joined in the specification; taken back in both.
-/
import Derived.Test.YtcljppnakmeldaaJoin
namespace Go.Proofs.Ytcljppnakmeldaa
open Go.ChangeShapes Go.WideShapes Go.ChangeAt Go.RowKit

theorem rotN_neg (x y : Int) : ∀ n, rotN n (-x, -y) = (-(rotN n (x, y)).1, -(rotN n (x, y)).2)
  | 0 => rfl
  | n + 1 => by simp [rotN, rotN_neg x y n]
theorem carryM_neg (s : SpotD) (x y : Int) : carryM s (-x) (-y) = (-(carryM s x y).1, -(carryM s x y).2) := by
  unfold carryM
  rw [← rotN_neg]
  unfold flipX
  congr 2
  split <;> rfl
theorem carryM_at (a b c d t : Int) (f : Bool) (x y : Int) : carryM (a, b, t, f) x y = carryM (c, d, t, f) x y := rfl
theorem back_good {a : SpotD} (h : GoodS a) : GoodS (backM a) := by
  obtain ⟨a1, a2, a3, a4, a5, a6⟩ := h
  obtain ⟨c1, c2, c3, c4⟩ := carryM_le (0, 0, backT a, a.2.2.2) a.1 a.2.1 1000000 a1 a2 a3 a4
  refine ⟨?_, ?_, ?_, ?_, ?_, ?_⟩ <;> simp only [backM] <;> try omega
  all_goals
    unfold backT
    split <;> omega

set_option maxRecDepth 100000 in
set_option maxHeartbeats 4000000 in
theorem specJoin (a b : SpotD) (w : World) (ha : GoodS a) (hb : GoodS b) : Calls Try.prog 50 #[sv a, sv b] w fun e w' => e = .returned (sv (joinM a b)) ∧ ∃ o1 o2 o3 o4, w' = (((w.alloc o1).alloc o2).alloc o3).alloc o4 := by
  obtain ⟨ax, ay, at', af⟩ := a
  obtain ⟨bx, bY, bt, bf⟩ := b
  obtain ⟨a1, a2, a3, a4, a5, a6⟩ := ha
  obtain ⟨b1, b2, b3, b4, b5, b6⟩ := hb
  simp only at a1 a2 a3 a4 a5 a6 b1 b2 b3 b4 b5 b6
  have hg : GoodS (ax, ay, 0, true) := ⟨a1, a2, a3, a4, by simp, by simp⟩
  cases af
  · go_enter Try.func50, Try.ntmps50
    obtain ⟨c1, c2, c3, c4⟩ := carryM_le (ax, ay, at', false) bx bY 1000000 b1 b2 b3 b4
    repeat (first | (go_at_call 67; refine (sapply ax ay at' false bx bY _ a5 a6 hg (by omega) (by omega) (by omega) (by omega)).mono ?_; rintro e w' ⟨rfl, rfl⟩; dsimp only) | go_values | go_skip | go_guarded | go_step | go_upon)
    first | go_quiet (fail) | skip
    repeat (first | go_values | go_skip | go_guarded | go_step | go_upon)
    refine bodyPost_ret (v := sv ((carryM (ax, ay, at', false) bx bY).1 + ax, (carryM (ax, ay, at', false) bx bY).2 + ay, (bt + at') % 4, bf)) (by simp [results, Try.results50, go_sem]) rfl ?_
    refine ⟨?_, ?_⟩
    · have ht : (bt + at') % 4 = (at' + bt) % 4 := by omega
      rw [ht]
      simp [joinM]
    · exact ⟨_, _, _, _, rfl⟩
  · go_enter Try.func50, Try.ntmps50
    obtain ⟨c1, c2, c3, c4⟩ := carryM_le (ax, ay, at', true) bx bY 1000000 b1 b2 b3 b4
    repeat (first | (go_at_call 67; refine (sapply ax ay at' true bx bY _ a5 a6 hg (by omega) (by omega) (by omega) (by omega)).mono ?_; rintro e w' ⟨rfl, rfl⟩; dsimp only) | go_values | go_skip | go_guarded | go_step | go_upon)
    first | go_quiet (fail) | skip
    repeat (first | go_values | go_skip | go_guarded | go_step | go_upon)
    refine bodyPost_ret (v := sv ((carryM (ax, ay, at', true) bx bY).1 + ax, (carryM (ax, ay, at', true) bx bY).2 + ay, (4 - bt + at') % 4, !bf)) (by simp [results, Try.results50, go_sem]) rfl ?_
    refine ⟨?_, ?_⟩
    · have ht : (4 - bt + at') % 4 = (at' - bt) % 4 := by omega
      rw [ht]
      simp [joinM]
    · exact ⟨_, _, _, _, rfl⟩


set_option maxRecDepth 100000 in
set_option maxHeartbeats 4000000 in
theorem specJoinSpots (a b : SpotD) (w : World) : Calls Try.prog 27 #[sv a, sv b] w fun e w' => e = .returned (.tuple #[sv (joinA a b).1, .bool (joinA a b).2]) ∧ Kept w w' := by
  obtain ⟨ax, ay, at', af⟩ := a
  obtain ⟨bx, bY, bt, bf⟩ := b
  by_cases ha : GoodS (ax, ay, at', af)
  · have ga := (goodS_iff _).2 ha
    by_cases hb : GoodS (bx, bY, bt, bf)
    · have gb := (goodS_iff _).2 hb
      obtain ⟨⟨jx, jy, jt, jf⟩, hJ⟩ : ∃ j, joinM (ax, ay, at', af) (bx, bY, bt, bf) = j := ⟨_, rfl⟩
      have hK : ∀ u, Calls Try.prog 50 #[.agg #[.int .i64 ax, .int .i64 ay, .int .i64 at', .bool af], .agg #[.int .i64 bx, .int .i64 bY, .int .i64 bt, .bool bf]] u fun e w' => e = .returned (.agg #[.int .i64 jx, .int .i64 jy, .int .i64 jt, .bool jf]) ∧ ∃ o1 o2 o3 o4, w' = (((u.alloc o1).alloc o2).alloc o3).alloc o4 := fun u => by
        have := specJoin _ _ u ha hb
        rw [hJ] at this
        exact this
      have HK : Hid _ := hK
      have HJ : Hid _ := hJ
      clear hK hJ
      by_cases hj : GoodS (jx, jy, jt, jf)
      · have gj := (goodS_iff _).2 hj
        go_enter Try.func27, Try.ntmps27
        repeat (first | (go_at_call 41; refine (sgood _ _ _ _ _).mono ?_; rintro e w' ⟨rfl, rfl⟩; (first | rw [ga] | rw [gb] | rw [gj]); dsimp only) | (go_at_call 50; refine (HK.out _).mono ?_; rintro e w2 ⟨rfl, o1, o2, o3, o4, rfl⟩; dsimp only) | go_values | go_skip | go_guarded | go_step | go_upon)
        refine bodyPost_ret (v := .tuple #[sv (jx, jy, jt, jf), .bool true]) (by simp [results, Try.results27, go_sem, *]) rfl ?_
        refine ⟨?_, ?_⟩
        · have hx : joinA (ax, ay, at', af) (bx, bY, bt, bf) = ((jx, jy, jt, jf), true) := by rw [← HJ.out]; exact if_pos ⟨ha, hb, by rw [HJ.out]; exact hj⟩
          rw [hx]
        · (repeat (first | with_reducible exact But.refl _ _ _ | with_reducible apply But.drewN | with_reducible apply But.drew | with_reducible apply But.alloc | (with_reducible refine But.setNew ?_ (by simp; try omega) _)))
      · have gj := goodS_no hj
        go_enter Try.func27, Try.ntmps27
        repeat (first | (go_at_call 41; refine (sgood _ _ _ _ _).mono ?_; rintro e w' ⟨rfl, rfl⟩; (first | rw [ga] | rw [gb] | rw [gj]); dsimp only) | (go_at_call 50; refine (HK.out _).mono ?_; rintro e w2 ⟨rfl, o1, o2, o3, o4, rfl⟩; dsimp only) | go_values | go_skip | go_guarded | go_step | go_upon)
        refine bodyPost_ret (v := .tuple #[sv s0, .bool false]) (by simp [results, Try.results27, go_sem, s0, *]) rfl ?_
        refine ⟨?_, ?_⟩
        · have hx : joinA (ax, ay, at', af) (bx, bY, bt, bf) = (s0, false) := if_neg (fun h => hj (by rw [← HJ.out]; exact h.2.2))
          rw [hx]
        · (repeat (first | with_reducible exact But.refl _ _ _ | with_reducible apply But.drewN | with_reducible apply But.drew | with_reducible apply But.alloc | (with_reducible refine But.setNew ?_ (by simp; try omega) _)))
    · have gb := goodS_no hb
      have gj : goodS s0 = true := rfl
      go_enter Try.func27, Try.ntmps27
      repeat (first | (go_at_call 41; refine (sgood _ _ _ _ _).mono ?_; rintro e w' ⟨rfl, rfl⟩; (first | rw [ga] | rw [gb] | rw [gj]); dsimp only) | go_values | go_skip | go_guarded | go_step | go_upon)
      refine bodyPost_ret (v := .tuple #[sv s0, .bool false]) (by simp [results, Try.results27, go_sem, s0]) rfl ?_
      refine ⟨?_, ?_⟩
      · have hx : joinA (ax, ay, at', af) (bx, bY, bt, bf) = (s0, false) := if_neg (fun h => hb h.2.1)
        rw [hx]
      · (repeat (first | with_reducible exact But.refl _ _ _ | with_reducible apply But.drewN | with_reducible apply But.drew | with_reducible apply But.alloc | (with_reducible refine But.setNew ?_ (by simp; try omega) _)))
  · have ga := goodS_no ha
    have gb : goodS s0 = true := rfl
    have gj : goodS s0 = true := rfl
    go_enter Try.func27, Try.ntmps27
    repeat (first | (go_at_call 41; refine (sgood _ _ _ _ _).mono ?_; rintro e w' ⟨rfl, rfl⟩; (first | rw [ga] | rw [gb] | rw [gj]); dsimp only) | go_values | go_skip | go_guarded | go_step | go_upon)
    refine bodyPost_ret (v := .tuple #[sv s0, .bool false]) (by simp [results, Try.results27, go_sem, s0]) rfl ?_
    refine ⟨?_, ?_⟩
    · have hx : joinA (ax, ay, at', af) (bx, bY, bt, bf) = (s0, false) := if_neg (fun h => ha h.1)
      rw [hx]
    · (repeat (first | with_reducible exact But.refl _ _ _ | with_reducible apply But.drewN | with_reducible apply But.drew | with_reducible apply But.alloc | (with_reducible refine But.setNew ?_ (by simp; try omega) _)))
end Go.Proofs.Ytcljppnakmeldaa
