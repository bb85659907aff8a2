/-
  Spots joined and taken back, in the specification and in the program.
-/
import Derived.Test.YtcljppnakmeldaaSpot
namespace Go.Proofs.Ytcljppnakmeldaa
open Go.ChangeShapes Go.WideShapes Go.ChangeAt Go.RowKit

theorem igood (x y t : Int) (f : Bool) (w : World) : Calls Try.prog 38 #[.agg #[.int .i64 x, .int .i64 y, .int .i64 t, .bool f]] w fun e w' => e = .returned (.bool (goodS (x, y, t, f))) ∧ ∃ n, w' = (w.alloc (.cells #[.int .i64 x, .int .i64 y, .int .i64 t, .bool f] 24)).drewN n := implGoodSpot (x, y, t, f) w
theorem sgood (x y t : Int) (f : Bool) (w : World) : Calls Try.prog 41 #[.agg #[.int .i64 x, .int .i64 y, .int .i64 t, .bool f]] w fun e w' => e = .returned (.bool (goodS (x, y, t, f))) ∧ w' = w.alloc (.cells #[.int .i64 x, .int .i64 y, .int .i64 t, .bool f] 24) := l4Good (x, y, t, f) w
theorem icarry (sx sy t : Int) (f : Bool) (x y : Int) (w : World) (ht0 : 0 ≤ t) (ht3 : t ≤ 3) (hs : GoodS (sx, sy, 0, true)) (h1 : -1000000000 ≤ x) (h2 : x ≤ 1000000000) (h3 : -1000000000 ≤ y) (h4 : y ≤ 1000000000) :
    Calls Try.prog 40 #[.agg #[.int .i64 sx, .int .i64 sy, .int .i64 t, .bool f], .int .i64 x, .int .i64 y] w fun e w' => e = .returned (.tuple #[.int .i64 ((carryM (sx, sy, t, f) x y).1 + sx), .int .i64 ((carryM (sx, sy, t, f) x y).2 + sy)]) ∧ ∃ n, w' = (w.alloc (.cells #[.int .i64 sx, .int .i64 sy, .int .i64 t, .bool f] 24)).drewN n :=
  carry (sx, sy, t, f) x y w ht0 ht3 hs h1 h2 h3 h4
theorem sapply (sx sy t : Int) (f : Bool) (x y : Int) (w : World) (ht0 : 0 ≤ t) (ht3 : t ≤ 3) (hs : GoodS (sx, sy, 0, true)) (h1 : -1000000000 ≤ x) (h2 : x ≤ 1000000000) (h3 : -1000000000 ≤ y) (h4 : y ≤ 1000000000) :
    Calls Try.prog 67 #[.agg #[.int .i64 sx, .int .i64 sy, .int .i64 t, .bool f], .int .i64 x, .int .i64 y] w fun e w' => e = .returned (.tuple #[.int .i64 (carryM (sx, sy, t, f) x y).1, .int .i64 (carryM (sx, sy, t, f) x y).2]) ∧ w' = w.alloc (.cells #[.int .i64 sx, .int .i64 sy, .int .i64 t, .bool f] 24) :=
  l4Apply (sx, sy, t, f) x y w ht0 ht3 hs h1 h2 h3 h4

def s0 : SpotD := (0, 0, 0, false)
/-- What JoinSpots answers. -/
def joinA (a b : SpotD) : SpotD × Bool := if GoodS a ∧ GoodS b ∧ GoodS (joinM a b) then (joinM a b, true) else (s0, false)

set_option maxRecDepth 100000 in
set_option maxHeartbeats 4000000 in
theorem implJoin (a b : SpotD) (w : World) : Calls Try.prog 15 #[sv a, sv b] w fun e w' => e = .returned (.tuple #[sv (joinA a b).1, .bool (joinA a b).2]) ∧ Kept w w' := by
  obtain ⟨ax, ay, at', af⟩ := a
  obtain ⟨bx, bY, bt, bf⟩ := b
  have gj : goodS s0 = true := rfl
  by_cases ha : GoodS (ax, ay, at', af)
  · have ga := (goodS_iff _).2 ha
    by_cases hb : GoodS (bx, bY, bt, bf)
    · have gb := (goodS_iff _).2 hb
      have ha0 := ha
      have hb0 := hb
      obtain ⟨a1, a2, a3, a4, a5, a6⟩ := ha
      obtain ⟨b1, b2, b3, b4, b5, b6⟩ := hb
      simp only at a1 a2 a3 a4 a5 a6 b1 b2 b3 b4 b5 b6
      have hg : GoodS (ax, ay, 0, true) := ⟨a1, a2, a3, a4, by simp, by simp⟩
      cases af
      · go_enter Try.func15, Try.ntmps15
        repeat (first | (go_at_call 38; refine (igood _ _ _ _ _).mono ?_; rintro e w' ⟨rfl, n1, rfl⟩; (first | rw [ga] | rw [gb] | rw [gj]); dsimp only) | (go_at_call 40; refine (icarry ax ay at' false bx bY _ a5 a6 hg (by omega) (by omega) (by omega) (by omega)).mono ?_; rintro e w' ⟨rfl, n1, rfl⟩; dsimp only) | go_values | go_skip | go_guarded | go_step | go_upon)
        go_region_held3 (fun w' => w'.cell? ⟨w.heap.size, 3, none⟩ = some (.bool false) ∧ w'.cell? ⟨w.heap.size + 1, 3, none⟩ = some (.bool bf)) (simp [go_sem, *])
          (first | (go_at_call 39; refine (inOneRound _ _).mono ?_; rintro e w' ⟨rfl, rfl⟩))
        all_goals
          by_cases hj : GoodS (joinM (ax, ay, at', false) (bx, bY, bt, bf))
          · have gj : goodS ((carryM (ax, ay, at', false) bx bY).1 + ax, (carryM (ax, ay, at', false) bx bY).2 + ay, (at' + bt) % 4, bf) = true := by
              have := (goodS_iff _).2 hj
              simpa [joinM] using this
            repeat (first | (go_at_call 38; refine (igood _ _ _ _ _).mono ?_; rintro e w' ⟨rfl, n1, rfl⟩; (first | rw [ga] | rw [gb] | rw [gj]); dsimp only) | go_values | go_skip | go_guarded | go_step | go_upon)
            refine bodyPost_ret (v := .tuple #[sv ((carryM (ax, ay, at', false) bx bY).1 + ax, (carryM (ax, ay, at', false) bx bY).2 + ay, (at' + bt) % 4, bf), .bool true]) (by simp [results, Try.results15, go_sem]) rfl ?_
            refine ⟨?_, ?_⟩
            · have hx : joinA (ax, ay, at', false) (bx, bY, bt, bf) = (joinM (ax, ay, at', false) (bx, bY, bt, bf), true) := if_pos ⟨ha0, hb0, hj⟩
              rw [hx]
              simp [joinM]
            · (repeat (first | with_reducible exact But.refl _ _ _ | with_reducible apply But.drewN | with_reducible apply But.drew | with_reducible apply But.alloc | (with_reducible refine But.setNew ?_ (by simp; try omega) _)))
          · have gj : goodS ((carryM (ax, ay, at', false) bx bY).1 + ax, (carryM (ax, ay, at', false) bx bY).2 + ay, (at' + bt) % 4, bf) = false := by
              have := goodS_no hj
              simpa [joinM] using this
            repeat (first | (go_at_call 38; refine (igood _ _ _ _ _).mono ?_; rintro e w' ⟨rfl, n1, rfl⟩; (first | rw [ga] | rw [gb] | rw [gj]); dsimp only) | go_values | go_skip | go_guarded | go_step | go_upon)
            refine bodyPost_ret (v := .tuple #[sv s0, .bool false]) (by simp [results, Try.results15, go_sem, s0]) rfl ?_
            refine ⟨?_, ?_⟩
            · have hx : joinA (ax, ay, at', false) (bx, bY, bt, bf) = (s0, false) := if_neg (fun h => hj h.2.2)
              rw [hx]
            · (repeat (first | with_reducible exact But.refl _ _ _ | with_reducible apply But.drewN | with_reducible apply But.drew | with_reducible apply But.alloc | (with_reducible refine But.setNew ?_ (by simp; try omega) _)))
      · go_enter Try.func15, Try.ntmps15
        repeat (first | (go_at_call 38; refine (igood _ _ _ _ _).mono ?_; rintro e w' ⟨rfl, n1, rfl⟩; (first | rw [ga] | rw [gb] | rw [gj]); dsimp only) | (go_at_call 40; refine (icarry ax ay at' true bx bY _ a5 a6 hg (by omega) (by omega) (by omega) (by omega)).mono ?_; rintro e w' ⟨rfl, n1, rfl⟩; dsimp only) | go_values | go_skip | go_guarded | go_step | go_upon)
        go_region_held3 (fun w' => w'.cell? ⟨w.heap.size, 3, none⟩ = some (.bool true) ∧ w'.cell? ⟨w.heap.size + 1, 3, none⟩ = some (.bool bf)) (simp [go_sem, *])
          (first | (go_at_call 39; refine (inOneRound _ _).mono ?_; rintro e w' ⟨rfl, rfl⟩))
        all_goals
          by_cases hj : GoodS (joinM (ax, ay, at', true) (bx, bY, bt, bf))
          · have gj : goodS ((carryM (ax, ay, at', true) bx bY).1 + ax, (carryM (ax, ay, at', true) bx bY).2 + ay, (at' - bt) % 4, !bf) = true := by
              have := (goodS_iff _).2 hj
              simpa [joinM] using this
            repeat (first | (go_at_call 38; refine (igood _ _ _ _ _).mono ?_; rintro e w' ⟨rfl, n1, rfl⟩; (first | rw [ga] | rw [gb] | rw [gj]); dsimp only) | go_values | go_skip | go_guarded | go_step | go_upon)
            refine bodyPost_ret (v := .tuple #[sv ((carryM (ax, ay, at', true) bx bY).1 + ax, (carryM (ax, ay, at', true) bx bY).2 + ay, (at' - bt) % 4, !bf), .bool true]) (by simp [results, Try.results15, go_sem]) rfl ?_
            refine ⟨?_, ?_⟩
            · have hx : joinA (ax, ay, at', true) (bx, bY, bt, bf) = (joinM (ax, ay, at', true) (bx, bY, bt, bf), true) := if_pos ⟨ha0, hb0, hj⟩
              rw [hx]
              simp [joinM]
            · (repeat (first | with_reducible exact But.refl _ _ _ | with_reducible apply But.drewN | with_reducible apply But.drew | with_reducible apply But.alloc | (with_reducible refine But.setNew ?_ (by simp; try omega) _)))
          · have gj : goodS ((carryM (ax, ay, at', true) bx bY).1 + ax, (carryM (ax, ay, at', true) bx bY).2 + ay, (at' - bt) % 4, !bf) = false := by
              have := goodS_no hj
              simpa [joinM] using this
            repeat (first | (go_at_call 38; refine (igood _ _ _ _ _).mono ?_; rintro e w' ⟨rfl, n1, rfl⟩; (first | rw [ga] | rw [gb] | rw [gj]); dsimp only) | go_values | go_skip | go_guarded | go_step | go_upon)
            refine bodyPost_ret (v := .tuple #[sv s0, .bool false]) (by simp [results, Try.results15, go_sem, s0]) rfl ?_
            refine ⟨?_, ?_⟩
            · have hx : joinA (ax, ay, at', true) (bx, bY, bt, bf) = (s0, false) := if_neg (fun h => hj h.2.2)
              rw [hx]
            · (repeat (first | with_reducible exact But.refl _ _ _ | with_reducible apply But.drewN | with_reducible apply But.drew | with_reducible apply But.alloc | (with_reducible refine But.setNew ?_ (by simp; try omega) _)))
    · have gb := goodS_no hb
      go_enter Try.func15, Try.ntmps15
      repeat (first | (go_at_call 38; refine (igood _ _ _ _ _).mono ?_; rintro e w' ⟨rfl, n1, rfl⟩; (first | rw [ga] | rw [gb] | rw [gj]); dsimp only) | go_values | go_skip | go_guarded | go_step | go_upon)
      refine bodyPost_ret (v := .tuple #[sv s0, .bool false]) (by simp [results, Try.results15, go_sem, s0]) rfl ?_
      refine ⟨?_, ?_⟩
      · have hx : joinA (ax, ay, at', af) (bx, bY, bt, bf) = (s0, false) := if_neg (fun h => hb h.2.1)
        rw [hx]
      · (repeat (first | with_reducible exact But.refl _ _ _ | with_reducible apply But.drewN | with_reducible apply But.drew | with_reducible apply But.alloc | (with_reducible refine But.setNew ?_ (by simp; try omega) _)))
  · have ga := goodS_no ha
    have gb : goodS s0 = true := rfl
    go_enter Try.func15, Try.ntmps15
    repeat (first | (go_at_call 38; refine (igood _ _ _ _ _).mono ?_; rintro e w' ⟨rfl, n1, rfl⟩; (first | rw [ga] | rw [gb] | rw [gj]); dsimp only) | go_values | go_skip | go_guarded | go_step | go_upon)
    refine bodyPost_ret (v := .tuple #[sv s0, .bool false]) (by simp [results, Try.results15, go_sem, s0]) rfl ?_
    refine ⟨?_, ?_⟩
    · have hx : joinA (ax, ay, at', af) (bx, bY, bt, bf) = (s0, false) := if_neg (fun h => ha h.1)
      rw [hx]
    · (repeat (first | with_reducible exact But.refl _ _ _ | with_reducible apply But.drewN | with_reducible apply But.drew | with_reducible apply But.alloc | (with_reducible refine But.setNew ?_ (by simp; try omega) _)))

end Go.Proofs.Ytcljppnakmeldaa
