/-
  What Steer answers, whole: in the specification and in the program.
-/
import Derived.Test.YtjpceimaggcncaaSteer
namespace Go.Proofs.Ytjpceimaggcncaa
open Go.ChangeShapes Go.WideShapes Go.ChangeAt Go.RowKit Plain
set_option maxRecDepth 100000
set_option linter.unusedVariables false

def GoodI (t : Int) : Prop := -1099511627776 ≤ t ∧ t ≤ 1099511627776
def SteerOk (x y tx ty m : Int) : Prop := GoodI x ∧ GoodI y ∧ GoodI tx ∧ GoodI ty ∧ GoodI (tx - x) ∧ GoodI (ty - y) ∧ 0 ≤ m ∧ m ≤ 1099511627776
def wayI (d m n : Int) : Int := if n ≤ m then d else partI d m n
def SteerE (x y tx ty m : Int) (e : Ending) : Prop :=
  (SteerOk x y tx ty m ∧ ∃ n, IsRoot (aabs (tx - x) * aabs (tx - x) + aabs (ty - y) * aabs (ty - y)) n ∧ e = .returned (.tuple #[.int .i64 (wayI (tx - x) m n), .int .i64 (wayI (ty - y) m n)])) ∨
  (¬ SteerOk x y tx ty m ∧ e = .returned (.tuple #[.int .i64 0, .int .i64 0]))
theorem SteerE.eq {x y tx ty m : Int} {e e' : Ending} (h : SteerE x y tx ty m e) (h' : SteerE x y tx ty m e') : e = e' := by
  rcases h with ⟨h1, n, h2, rfl⟩ | ⟨h1, rfl⟩
  · rcases h' with ⟨_, n', h3, rfl⟩ | ⟨h3, _⟩
    · rw [h2.eq h3]
    · exact absurd h1 h3
  · rcases h' with ⟨h3, _⟩ | ⟨_, rfl⟩
    · exact absurd h3 h1
    · rfl
theorem SteerE.form {x y tx ty m : Int} {e : Ending} (h : SteerE x y tx ty m e) : ∃ a b : Int, e = .returned (.tuple #[.int .i64 a, .int .i64 b]) := by
  rcases h with ⟨_, n, _, rfl⟩ | ⟨_, rfl⟩
  · exact ⟨_, _, rfl⟩
  · exact ⟨_, _, rfl⟩
theorem retB {a b : Bool} (h : a = b) : Ending.returned (.bool a) = .returned (.bool b) := by rw [h]
theorem sIn2 (n lo hi : Int) (w : World) : Calls Try.prog 56 #[.int .i64 n, .int .i64 lo, .int .i64 hi] w fun e w' => e = .returned (.bool (decide (lo ≤ n ∧ n ≤ hi))) ∧ w' = w := by
  go_enter Try.func56, Try.ntmps56
  go_wp2
  all_goals
    go_ret
    exact ⟨retB (by rw [Bool.eq_iff_iff]; simp <;> omega), rfl⟩
theorem le_root {n a : Int} {r : Int} (h : IsRoot n r) (h0 : 0 ≤ a) (h1 : a ≤ 1099511627776) (hn : a * a ≤ n) : a ≤ r := by
  obtain ⟨r0, r1, r2, r3⟩ := h
  rcases r3 with r3 | r3
  · omega
  · rcases Int.lt_or_le r a with h | h
    · have := sq_mono (r + 1) a (by omega) (by omega)
      omega
    · exact h

set_option maxHeartbeats 2000000 in
theorem sSteer_no (x y tx ty m : Int) (w : World) (h : ¬ SteerOk x y tx ty m) : Calls Try.prog 38 #[.int .i64 x, .int .i64 y, .int .i64 tx, .int .i64 ty, .int .i64 m] w fun e w' => e = .returned (.tuple #[.int .i64 0, .int .i64 0]) ∧ w' = w := by
  by_cases b0 : x < -1099511627776 ∨ 1099511627776 < x
  · go_enter Try.func38, Try.ntmps38
    go_wp2_with (first | (go_at_call 67; refine (gs_yes _ _ (by omega) (by omega)).mono ?_; rintro e w' ⟨rfl, rfl⟩) | (go_at_call 67; refine (gs_no _ _ (by omega)).mono ?_; rintro e w' ⟨rfl, rfl⟩) | (go_at_call 56; refine (sIn2 _ _ _ _).mono ?_; rintro e w' ⟨rfl, rfl⟩))
    all_goals go_ret2
    all_goals exact ⟨rfl, rfl⟩
  by_cases b1 : y < -1099511627776 ∨ 1099511627776 < y
  · go_enter Try.func38, Try.ntmps38
    go_wp2_with (first | (go_at_call 67; refine (gs_yes _ _ (by omega) (by omega)).mono ?_; rintro e w' ⟨rfl, rfl⟩) | (go_at_call 67; refine (gs_no _ _ (by omega)).mono ?_; rintro e w' ⟨rfl, rfl⟩) | (go_at_call 56; refine (sIn2 _ _ _ _).mono ?_; rintro e w' ⟨rfl, rfl⟩))
    all_goals go_ret2
    all_goals exact ⟨rfl, rfl⟩
  by_cases b2 : tx < -1099511627776 ∨ 1099511627776 < tx
  · go_enter Try.func38, Try.ntmps38
    go_wp2_with (first | (go_at_call 67; refine (gs_yes _ _ (by omega) (by omega)).mono ?_; rintro e w' ⟨rfl, rfl⟩) | (go_at_call 67; refine (gs_no _ _ (by omega)).mono ?_; rintro e w' ⟨rfl, rfl⟩) | (go_at_call 56; refine (sIn2 _ _ _ _).mono ?_; rintro e w' ⟨rfl, rfl⟩))
    all_goals go_ret2
    all_goals exact ⟨rfl, rfl⟩
  by_cases b3 : ty < -1099511627776 ∨ 1099511627776 < ty
  · go_enter Try.func38, Try.ntmps38
    go_wp2_with (first | (go_at_call 67; refine (gs_yes _ _ (by omega) (by omega)).mono ?_; rintro e w' ⟨rfl, rfl⟩) | (go_at_call 67; refine (gs_no _ _ (by omega)).mono ?_; rintro e w' ⟨rfl, rfl⟩) | (go_at_call 56; refine (sIn2 _ _ _ _).mono ?_; rintro e w' ⟨rfl, rfl⟩))
    all_goals go_ret2
    all_goals exact ⟨rfl, rfl⟩
  by_cases b4 : tx - x < -1099511627776 ∨ 1099511627776 < tx - x
  · go_enter Try.func38, Try.ntmps38
    go_wp2_with (first | (go_at_call 67; refine (gs_yes _ _ (by omega) (by omega)).mono ?_; rintro e w' ⟨rfl, rfl⟩) | (go_at_call 67; refine (gs_no _ _ (by omega)).mono ?_; rintro e w' ⟨rfl, rfl⟩) | (go_at_call 56; refine (sIn2 _ _ _ _).mono ?_; rintro e w' ⟨rfl, rfl⟩))
    all_goals go_ret2
    all_goals exact ⟨rfl, rfl⟩
  by_cases b5 : ty - y < -1099511627776 ∨ 1099511627776 < ty - y
  · go_enter Try.func38, Try.ntmps38
    go_wp2_with (first | (go_at_call 67; refine (gs_yes _ _ (by omega) (by omega)).mono ?_; rintro e w' ⟨rfl, rfl⟩) | (go_at_call 67; refine (gs_no _ _ (by omega)).mono ?_; rintro e w' ⟨rfl, rfl⟩) | (go_at_call 56; refine (sIn2 _ _ _ _).mono ?_; rintro e w' ⟨rfl, rfl⟩))
    all_goals go_ret2
    all_goals exact ⟨rfl, rfl⟩
  by_cases b6 : m < 0 ∨ 1099511627776 < m
  · go_enter Try.func38, Try.ntmps38
    have hdm : decide (0 ≤ m ∧ m ≤ 1099511627776) = false := by simp; omega
    go_wp2_with (first | (go_at_call 67; refine (gs_yes _ _ (by omega) (by omega)).mono ?_; rintro e w' ⟨rfl, rfl⟩) | (go_at_call 67; refine (gs_no _ _ (by omega)).mono ?_; rintro e w' ⟨rfl, rfl⟩) | (go_at_call 56; refine (sIn2 _ _ _ _).mono ?_; rintro e w' ⟨rfl, rfl⟩))
    all_goals go_ret2
    all_goals exact ⟨rfl, rfl⟩
  exact absurd (show SteerOk x y tx ty m by unfold SteerOk GoodI; omega) h

set_option maxHeartbeats 2000000 in
theorem iSteer_no (x y tx ty m : Int) (w : World) (h : ¬ SteerOk x y tx ty m) : Calls Try.prog 39 #[.int .i64 x, .int .i64 y, .int .i64 tx, .int .i64 ty, .int .i64 m] w fun e w' => e = .returned (.tuple #[.int .i64 0, .int .i64 0]) ∧ w' = w := by
  by_cases b0 : x < -1099511627776 ∨ 1099511627776 < x
  · go_enter Try.func39, Try.ntmps39
    go_wp2_with (first | (go_at_call 71; refine (gi_yes _ _ (by omega) (by omega)).mono ?_; rintro e w' ⟨rfl, rfl⟩) | (go_at_call 71; refine (gi_no _ _ (by omega)).mono ?_; rintro e w' ⟨rfl, rfl⟩))
    all_goals go_ret2
    all_goals exact ⟨rfl, rfl⟩
  by_cases b1 : y < -1099511627776 ∨ 1099511627776 < y
  · go_enter Try.func39, Try.ntmps39
    go_wp2_with (first | (go_at_call 71; refine (gi_yes _ _ (by omega) (by omega)).mono ?_; rintro e w' ⟨rfl, rfl⟩) | (go_at_call 71; refine (gi_no _ _ (by omega)).mono ?_; rintro e w' ⟨rfl, rfl⟩))
    all_goals go_ret2
    all_goals exact ⟨rfl, rfl⟩
  by_cases b2 : tx < -1099511627776 ∨ 1099511627776 < tx
  · go_enter Try.func39, Try.ntmps39
    go_wp2_with (first | (go_at_call 71; refine (gi_yes _ _ (by omega) (by omega)).mono ?_; rintro e w' ⟨rfl, rfl⟩) | (go_at_call 71; refine (gi_no _ _ (by omega)).mono ?_; rintro e w' ⟨rfl, rfl⟩))
    all_goals go_ret2
    all_goals exact ⟨rfl, rfl⟩
  by_cases b3 : ty < -1099511627776 ∨ 1099511627776 < ty
  · go_enter Try.func39, Try.ntmps39
    go_wp2_with (first | (go_at_call 71; refine (gi_yes _ _ (by omega) (by omega)).mono ?_; rintro e w' ⟨rfl, rfl⟩) | (go_at_call 71; refine (gi_no _ _ (by omega)).mono ?_; rintro e w' ⟨rfl, rfl⟩))
    all_goals go_ret2
    all_goals exact ⟨rfl, rfl⟩
  by_cases b4 : m  < -1099511627776 ∨ 1099511627776 < m 
  · go_enter Try.func39, Try.ntmps39
    go_wp2_with (first | (go_at_call 71; refine (gi_yes _ _ (by omega) (by omega)).mono ?_; rintro e w' ⟨rfl, rfl⟩) | (go_at_call 71; refine (gi_no _ _ (by omega)).mono ?_; rintro e w' ⟨rfl, rfl⟩))
    all_goals go_ret2
    all_goals exact ⟨rfl, rfl⟩
  by_cases b5 : m < 0
  · go_enter Try.func39, Try.ntmps39
    go_wp2_with (first | (go_at_call 71; refine (gi_yes _ _ (by omega) (by omega)).mono ?_; rintro e w' ⟨rfl, rfl⟩) | (go_at_call 71; refine (gi_no _ _ (by omega)).mono ?_; rintro e w' ⟨rfl, rfl⟩))
    all_goals go_ret2
    all_goals exact ⟨rfl, rfl⟩
  by_cases b6 : tx - x < -1099511627776 ∨ 1099511627776 < tx - x
  · go_enter Try.func39, Try.ntmps39
    go_wp2_with (first | (go_at_call 71; refine (gi_yes _ _ (by omega) (by omega)).mono ?_; rintro e w' ⟨rfl, rfl⟩) | (go_at_call 71; refine (gi_no _ _ (by omega)).mono ?_; rintro e w' ⟨rfl, rfl⟩))
    all_goals go_ret2
    all_goals exact ⟨rfl, rfl⟩
  by_cases b7 : ty - y < -1099511627776 ∨ 1099511627776 < ty - y
  · go_enter Try.func39, Try.ntmps39
    go_wp2_with (first | (go_at_call 71; refine (gi_yes _ _ (by omega) (by omega)).mono ?_; rintro e w' ⟨rfl, rfl⟩) | (go_at_call 71; refine (gi_no _ _ (by omega)).mono ?_; rintro e w' ⟨rfl, rfl⟩))
    all_goals go_ret2
    all_goals exact ⟨rfl, rfl⟩
  exact absurd (show SteerOk x y tx ty m by unfold SteerOk GoodI; omega) h

theorem cut_le {n a b r : Int} (h : IsRoot n (if 1099511627776 < r then 1099511627776 else r)) (ha : 0 ≤ a ∧ a ≤ 1099511627776) (hb : 0 ≤ b ∧ b ≤ 1099511627776) (ha2 : a * a ≤ n) (hb2 : b * b ≤ n) :
    (r ≤ 1099511627776 → a ≤ r) ∧ (r ≤ 1099511627776 → b ≤ r) := by
  refine ⟨fun hr => ?_, fun hr => ?_⟩
  · rw [if_neg (by omega)] at h
    exact le_root h ha.1 ha.2 ha2
  · rw [if_neg (by omega)] at h
    exact le_root h hb.1 hb.2 hb2

set_option maxHeartbeats 4000000 in
theorem sSteer_yes (x y tx ty m : Int) (w : World) (h : SteerOk x y tx ty m) : Calls Try.prog 38 #[.int .i64 x, .int .i64 y, .int .i64 tx, .int .i64 ty, .int .i64 m] w fun e w' => SteerE x y tx ty m e ∧ Grown w w' := by
  have HK : Hid (SteerOk x y tx ty m) := h
  obtain ⟨⟨x0, x1⟩, ⟨y0, y1⟩, ⟨tx0, tx1⟩, ⟨ty0, ty1⟩, ⟨dx0, dx1⟩, ⟨dy0, dy1⟩, m0, m1⟩ := h
  have bx := aabs_bd _ dx0 dx1
  have bY := aabs_bd _ dy0 dy1
  have mx := mul_bd (aabs (tx - x)) (aabs (tx - x)) 1099511627776 1099511627776 bx.1 bx.2 bx.1 bx.2
  have my := mul_bd (aabs (ty - y)) (aabs (ty - y)) 1099511627776 1099511627776 bY.1 bY.2 bY.1 bY.2
  have hdm : decide (0 ≤ m ∧ m ≤ 1099511627776) = true := by simp; omega
  go_enter Try.func38, Try.ntmps38
  go_wp2_with (first
    | (go_at_call 67; refine (gs_yes _ _ (by omega) (by omega)).mono ?_; rintro e w' ⟨rfl, rfl⟩)
    | (go_at_call 56; refine (sIn2 _ _ _ _).mono ?_; rintro e w' ⟨rfl, rfl⟩)
    | (go_at_call 69; refine (squares_any _ _ _ (by omega) (by omega) (by omega) (by omega)).mono ?_; rintro e w1 ⟨rfl, hg1⟩)
    | (go_at_call 68; refine (sroot2 (aabs (tx - x) * aabs (tx - x) + aabs (ty - y) * aabs (ty - y)) _ (by omega)).mono ?_; rintro e w2 ⟨⟨r, rfl, hr⟩, hg2⟩; have hr2 := hr.cut (by omega); have HL : Hid ((r ≤ 1099511627776 → aabs (tx - x) ≤ r) ∧ (r ≤ 1099511627776 → aabs (ty - y) ≤ r)) := cut_le hr2 bx bY (by omega) (by omega); have HR : Hid _ := hr2; obtain ⟨r0, r1, -, -⟩ := hr; clear hr2)
    | (go_at_call_of 70 (tx - x); refine (scut _ _ _ _ dx0 dx1 (by first | exact bx.2 | exact HL.out.1 (by omega)) (by omega) m0 (by omega)).mono ?_; rintro e w3 ⟨rfl, hg3⟩)
    | (go_at_call_of 70 (ty - y); refine (scut _ _ _ _ dy0 dy1 (by first | exact bY.2 | exact HL.out.2 (by omega)) (by omega) m0 (by omega)).mono ?_; rintro e w4 ⟨rfl, hg4⟩))
  all_goals go_ret2
  all_goals
    refine ⟨Or.inl ⟨HK.out, _, HR.out, ret_two ?_ ?_⟩, ?_⟩
    · simp only [wayI]
      repeat' split
      all_goals first | rfl | (exfalso; omega)
    · simp only [wayI]
      repeat' split
      all_goals first | rfl | (exfalso; omega)
    · first | exact gtrans hg1 hg2 | exact gtrans (gtrans (gtrans hg1 hg2) hg3) hg4

set_option maxHeartbeats 4000000 in
theorem iSteer_yes (x y tx ty m : Int) (w : World) (h : SteerOk x y tx ty m) : Calls Try.prog 39 #[.int .i64 x, .int .i64 y, .int .i64 tx, .int .i64 ty, .int .i64 m] w fun e w' => SteerE x y tx ty m e ∧ Grown w w' := by
  have HK : Hid (SteerOk x y tx ty m) := h
  obtain ⟨⟨x0, x1⟩, ⟨y0, y1⟩, ⟨tx0, tx1⟩, ⟨ty0, ty1⟩, ⟨dx0, dx1⟩, ⟨dy0, dy1⟩, m0, m1⟩ := h
  have bx := aabs_bd _ dx0 dx1
  have bY := aabs_bd _ dy0 dy1
  have mx := mul_bd (aabs (tx - x)) (aabs (tx - x)) 1099511627776 1099511627776 bx.1 bx.2 bx.1 bx.2
  have my := mul_bd (aabs (ty - y)) (aabs (ty - y)) 1099511627776 1099511627776 bY.1 bY.2 bY.1 bY.2
  have hdm : decide (0 ≤ m ∧ m ≤ 1099511627776) = true := by simp; omega
  go_enter Try.func39, Try.ntmps39
  go_wp2_with (first
    | (go_at_call 71; refine (gi_yes _ _ (by omega) (by omega)).mono ?_; rintro e w' ⟨rfl, rfl⟩)
    | (go_at_call 72; refine (ilen_yes _ _ _ dx0 dx1 dy0 dy1).mono ?_; rintro e w2 ⟨⟨r, rfl, hr⟩, hg2⟩; have HL : Hid ((r ≤ 1099511627776 → aabs (tx - x) ≤ r) ∧ (r ≤ 1099511627776 → aabs (ty - y) ≤ r)) := ⟨fun _ => le_root hr bx.1 bx.2 (by omega), fun _ => le_root hr bY.1 bY.2 (by omega)⟩; have HR : Hid _ := hr; obtain ⟨r0, r1, -, -⟩ := hr)
    | (go_at_call_of 73 (tx - x); refine (ipart _ _ _ _ dx0 dx1 (by first | exact bx.2 | exact HL.out.1 (by omega)) (by omega) m0 (by omega)).mono ?_; rintro e w3 ⟨rfl, hg3⟩)
    | (go_at_call_of 73 (ty - y); refine (ipart _ _ _ _ dy0 dy1 (by first | exact bY.2 | exact HL.out.2 (by omega)) (by omega) m0 (by omega)).mono ?_; rintro e w4 ⟨rfl, hg4⟩))
  all_goals go_ret2
  all_goals
    refine ⟨Or.inl ⟨HK.out, _, HR.out, ret_two ?_ ?_⟩, ?_⟩
    · simp only [wayI]
      repeat' split
      all_goals first | rfl | (exfalso; omega)
    · simp only [wayI]
      repeat' split
      all_goals first | rfl | (exfalso; omega)
    · first | exact hg2 | exact gtrans (gtrans (hg2) hg3) hg4

theorem sSteer (x y tx ty m : Int) (w : World) : Calls Try.prog 38 #[.int .i64 x, .int .i64 y, .int .i64 tx, .int .i64 ty, .int .i64 m] w fun e w' => SteerE x y tx ty m e ∧ Grown w w' := by
  by_cases h : SteerOk x y tx ty m
  · exact sSteer_yes x y tx ty m w h
  · exact (sSteer_no x y tx ty m w h).mono fun _ _ ⟨a, b⟩ => ⟨Or.inr ⟨h, a⟩, b ▸ Grown.refl _⟩
theorem iSteer (x y tx ty m : Int) (w : World) : Calls Try.prog 39 #[.int .i64 x, .int .i64 y, .int .i64 tx, .int .i64 ty, .int .i64 m] w fun e w' => SteerE x y tx ty m e ∧ Grown w w' := by
  by_cases h : SteerOk x y tx ty m
  · exact iSteer_yes x y tx ty m w h
  · exact (iSteer_no x y tx ty m w h).mono fun _ _ ⟨a, b⟩ => ⟨Or.inr ⟨h, a⟩, b ▸ Grown.refl _⟩
end Go.Proofs.Ytjpceimaggcncaa
