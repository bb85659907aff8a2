/-
  FixMul and FixDiv at every argument, in the program and in its specification: both answer the numbers mulM and divM.
-/
import Derived.Test.YtapfafibhjpkdaaMul
namespace Go.Proofs.Ytapfafibhjpkdaa
open Go.ChangeShapes Go.WideShapes Go.ChangeAt Go.RowKit Plain

def mulM (a b : Int) : Int := if (-1099511627776 ≤ a ∧ a ≤ 1099511627776) ∧ (-1099511627776 ≤ b ∧ b ≤ 1099511627776) then nearM (a * b) 65536 else 0
def divM (a b : Int) : Int := if (-1099511627776 ≤ a ∧ a ≤ 1099511627776) ∧ (-1099511627776 ≤ b ∧ b ≤ 1099511627776) ∧ b ≠ 0 then (if b < 0 then nearM (-a * 65536) (-b) else nearM (a * 65536) b) else 0
theorem near_zero : nearM 0 65536 = 0 := by decide

theorem calls_of {f : FuncId} {args args' : Array Value} {w : World} {Q : Ending → World → Prop} (h : Calls Try.prog f args' w Q) (e : args = args') : Calls Try.prog f args w Q := by rw [e]; exact h

theorem smul_bad (a b : Int) (w : World) (h : (a < -1099511627776 ∨ 1099511627776 < a) ∨ (-1099511627776 ≤ a ∧ a ≤ 1099511627776 ∧ (b < -1099511627776 ∨ 1099511627776 < b))) :
    Calls Try.prog 47 #[.int .i64 a, .int .i64 b] w fun e w' => e = .returned (.int .i64 0) ∧ Grown w w' := by
  rcases h with h | ⟨h1, h2, h⟩
  · go_enter Try.func47, Try.ntmps47
    go_wp2_with fail
    refine (gs_no a _ h).mono ?_
    rintro e w' ⟨rfl, rfl⟩
    go_wp2_with fail
    go_ret
    exact ⟨rfl, Grown.refl _⟩
  · go_enter Try.func47, Try.ntmps47
    go_wp2_with fail
    refine (gs_yes a _ h1 h2).mono ?_
    rintro e w' ⟨rfl, rfl⟩
    go_wp2_with fail
    refine (gs_no b _ h).mono ?_
    rintro e w' ⟨rfl, rfl⟩
    go_wp2_with fail
    go_ret
    exact ⟨rfl, Grown.refl _⟩

theorem imul_bad (a b : Int) (w : World) (h : (a < -1099511627776 ∨ 1099511627776 < a) ∨ (-1099511627776 ≤ a ∧ a ≤ 1099511627776 ∧ (b < -1099511627776 ∨ 1099511627776 < b))) :
    Calls Try.prog 68 #[.int .i64 a, .int .i64 b] w fun e w' => e = .returned (.int .i64 0) ∧ w' = w := by
  rcases h with h | ⟨h1, h2, h⟩
  · go_enter Try.func68, Try.ntmps68
    go_wp2_with fail
    refine (gi_no a _ h).mono ?_
    rintro e w' ⟨rfl, rfl⟩
    go_wp2_with fail
    go_ret
    exact ⟨rfl, rfl⟩
  · go_enter Try.func68, Try.ntmps68
    go_wp2_with fail
    refine (gi_yes a _ h1 h2).mono ?_
    rintro e w' ⟨rfl, rfl⟩
    go_wp2_with fail
    refine (gi_no b _ h).mono ?_
    rintro e w' ⟨rfl, rfl⟩
    go_wp2_with fail
    go_ret
    exact ⟨rfl, rfl⟩

theorem sdiv_bad (a b : Int) (w : World) (h : (a < -1099511627776 ∨ 1099511627776 < a) ∨ (-1099511627776 ≤ a ∧ a ≤ 1099511627776 ∧ (b < -1099511627776 ∨ 1099511627776 < b))) :
    Calls Try.prog 63 #[.int .i64 a, .int .i64 b] w fun e w' => e = .returned (.int .i64 0) ∧ Grown w w' := by
  rcases h with h | ⟨h1, h2, h⟩
  · go_enter Try.func63, Try.ntmps63
    go_wp2_with fail
    refine (gs_no a _ h).mono ?_
    rintro e w' ⟨rfl, rfl⟩
    go_wp2_with fail
    go_ret
    exact ⟨rfl, Grown.refl _⟩
  · go_enter Try.func63, Try.ntmps63
    go_wp2_with fail
    refine (gs_yes a _ h1 h2).mono ?_
    rintro e w' ⟨rfl, rfl⟩
    go_wp2_with fail
    refine (gs_no b _ h).mono ?_
    rintro e w' ⟨rfl, rfl⟩
    go_wp2_with fail
    go_ret
    exact ⟨rfl, Grown.refl _⟩

theorem sdiv_zero (a : Int) (w : World) (h1 : -1099511627776 ≤ a) (h2 : a ≤ 1099511627776) :
    Calls Try.prog 63 #[.int .i64 a, .int .i64 0] w fun e w' => e = .returned (.int .i64 0) ∧ Grown w w' := by
  go_enter Try.func63, Try.ntmps63
  go_wp2_with fail
  refine (gs_yes a _ h1 h2).mono ?_
  rintro e w' ⟨rfl, rfl⟩
  go_wp2_with fail
  refine (gs_yes 0 _ (by decide) (by decide)).mono ?_
  rintro e w' ⟨rfl, rfl⟩
  go_wp2_with fail
  go_ret
  exact ⟨rfl, Grown.refl _⟩

theorem idiv_bad (a b : Int) (w : World) (h : (a < -1099511627776 ∨ 1099511627776 < a) ∨ (-1099511627776 ≤ a ∧ a ≤ 1099511627776 ∧ (b < -1099511627776 ∨ 1099511627776 < b))) :
    Calls Try.prog 67 #[.int .i64 a, .int .i64 b] w fun e w' => e = .returned (.int .i64 0) ∧ w' = w := by
  rcases h with h | ⟨h1, h2, h⟩
  · go_enter Try.func67, Try.ntmps67
    go_wp2_with fail
    refine (gi_no a _ h).mono ?_
    rintro e w' ⟨rfl, rfl⟩
    go_wp2_with fail
    go_ret
    exact ⟨rfl, rfl⟩
  · go_enter Try.func67, Try.ntmps67
    go_wp2_with fail
    refine (gi_yes a _ h1 h2).mono ?_
    rintro e w' ⟨rfl, rfl⟩
    go_wp2_with fail
    refine (gi_no b _ h).mono ?_
    rintro e w' ⟨rfl, rfl⟩
    go_wp2_with fail
    go_ret
    exact ⟨rfl, rfl⟩

theorem idiv_zero (a : Int) (w : World) (h1 : -1099511627776 ≤ a) (h2 : a ≤ 1099511627776) :
    Calls Try.prog 67 #[.int .i64 a, .int .i64 0] w fun e w' => e = .returned (.int .i64 0) ∧ w' = w := by
  go_enter Try.func67, Try.ntmps67
  go_wp2_with fail
  refine (gi_yes a _ h1 h2).mono ?_
  rintro e w' ⟨rfl, rfl⟩
  go_wp2_with fail
  refine (gi_yes 0 _ (by decide) (by decide)).mono ?_
  rintro e w' ⟨rfl, rfl⟩
  go_wp2_with fail
  go_ret
  exact ⟨rfl, rfl⟩

theorem imul_zl (b : Int) (w : World) (h1 : -1099511627776 ≤ b) (h2 : b ≤ 1099511627776) :
    Calls Try.prog 68 #[.int .i64 0, .int .i64 b] w fun e w' => e = .returned (.int .i64 0) ∧ w' = w := by
  go_enter Try.func68, Try.ntmps68
  go_wp2_with fail
  refine (gi_yes 0 _ (by decide) (by decide)).mono ?_
  rintro e w' ⟨rfl, rfl⟩
  go_wp2_with fail
  refine (gi_yes b _ h1 h2).mono ?_
  rintro e w' ⟨rfl, rfl⟩
  go_wp2_with fail
  go_ret
  exact ⟨rfl, rfl⟩

theorem imul_zr (a : Int) (w : World) (h1 : -1099511627776 ≤ a) (h2 : a ≤ 1099511627776) (h0 : a ≠ 0) :
    Calls Try.prog 68 #[.int .i64 a, .int .i64 0] w fun e w' => e = .returned (.int .i64 0) ∧ w' = w := by
  have hz : (a == 0) = false := beq_eq_false_iff_ne.2 h0
  clear h0
  go_enter Try.func68, Try.ntmps68
  go_wp2_with fail
  refine (gi_yes a _ h1 h2).mono ?_
  rintro e w' ⟨rfl, rfl⟩
  go_wp2_with fail
  refine (gi_yes 0 _ (by decide) (by decide)).mono ?_
  rintro e w' ⟨rfl, rfl⟩
  go_wp2_with fail
  go_ret
  exact ⟨rfl, rfl⟩

theorem smul_any (a b : Int) (w : World) :
    Calls Try.prog 47 #[.int .i64 a, .int .i64 b] w fun e w' => e = .returned (.int .i64 (mulM a b)) ∧ Grown w w' := by
  by_cases h : (-1099511627776 ≤ a ∧ a ≤ 1099511627776) ∧ (-1099511627776 ≤ b ∧ b ≤ 1099511627776)
  · rw [show mulM a b = nearM (a * b) 65536 from if_pos h]
    obtain ⟨⟨h1, h2⟩, h3, h4⟩ := h
    rcases Int.lt_or_le a 0 with sa | sa <;> rcases Int.lt_or_le b 0 with sb | sb
    · exact smul_nn a b w h1 h2 h3 h4 sa sb
    · exact smul_np a b w h1 h2 h3 h4 sa sb
    · exact smul_pn a b w h1 h2 h3 h4 sa sb
    · exact smul_pp a b w h1 h2 h3 h4 sa sb
  · rw [show mulM a b = 0 from if_neg h]
    exact smul_bad a b w (by omega)

theorem imul_any (a b : Int) (w : World) :
    Calls Try.prog 68 #[.int .i64 a, .int .i64 b] w fun e w' => e = .returned (.int .i64 (mulM a b)) ∧ w' = w := by
  by_cases h : (-1099511627776 ≤ a ∧ a ≤ 1099511627776) ∧ (-1099511627776 ≤ b ∧ b ≤ 1099511627776)
  · rw [show mulM a b = nearM (a * b) 65536 from if_pos h]
    obtain ⟨⟨h1, h2⟩, h3, h4⟩ := h
    by_cases ha : a = 0
    · subst ha
      rw [Int.zero_mul, near_zero]
      exact imul_zl b w h3 h4
    by_cases hb : b = 0
    · subst hb
      rw [Int.mul_zero, near_zero]
      exact imul_zr a w h1 h2 ha
    rcases Int.lt_or_le a 0 with sa | sa <;> rcases Int.lt_or_le b 0 with sb | sb
    · have := imul_nn (-a) (-b) w (by omega) (by omega) (by omega) (by omega)
      rw [Int.neg_neg, Int.neg_neg, Int.neg_mul_neg] at this
      exact this
    · have := imul_np (-a) b w (by omega) (by omega) (by omega) (by omega)
      rw [Int.neg_neg, Int.neg_mul, Int.neg_neg] at this
      exact this
    · have := imul_pn a (-b) w (by omega) (by omega) (by omega) (by omega)
      rw [Int.neg_neg, Int.mul_neg, Int.neg_neg] at this
      exact this
    · exact imul_pp a b w (by omega) (by omega) (by omega) (by omega)
  · rw [show mulM a b = 0 from if_neg h]
    exact imul_bad a b w (by omega)

theorem sdiv_any (a b : Int) (w : World) :
    Calls Try.prog 63 #[.int .i64 a, .int .i64 b] w fun e w' => e = .returned (.int .i64 (divM a b)) ∧ Grown w w' := by
  by_cases h : (-1099511627776 ≤ a ∧ a ≤ 1099511627776) ∧ (-1099511627776 ≤ b ∧ b ≤ 1099511627776) ∧ b ≠ 0
  · rw [show divM a b = _ from if_pos h]
    obtain ⟨⟨h1, h2⟩, ⟨h3, h4⟩, h0⟩ := h
    rcases Int.lt_or_le b 0 with sb | sb
    · rw [if_pos sb]
      rcases Int.lt_or_le a 0 with sa | sa
      · exact sdiv_nn a b w h1 h2 h3 h4 sa sb
      · exact sdiv_pn a b w h1 h2 h3 h4 sa sb
    · rw [if_neg (by omega)]
      rcases Int.lt_or_le a 0 with sa | sa
      · exact sdiv_np a b w h1 h2 h3 h4 sa (by omega)
      · exact sdiv_pp a b w h1 h2 h3 h4 sa (by omega)
  · rw [show divM a b = 0 from if_neg h]
    by_cases hb : (-1099511627776 ≤ a ∧ a ≤ 1099511627776) ∧ b = 0
    · obtain ⟨⟨h1, h2⟩, rfl⟩ := hb
      exact sdiv_zero a w h1 h2
    · exact sdiv_bad a b w (by omega)

theorem idiv_any (a b : Int) (w : World) :
    Calls Try.prog 67 #[.int .i64 a, .int .i64 b] w fun e w' => e = .returned (.int .i64 (divM a b)) ∧ w' = w := by
  by_cases h : (-1099511627776 ≤ a ∧ a ≤ 1099511627776) ∧ (-1099511627776 ≤ b ∧ b ≤ 1099511627776) ∧ b ≠ 0
  · rw [show divM a b = _ from if_pos h]
    obtain ⟨⟨h1, h2⟩, ⟨h3, h4⟩, h0⟩ := h
    rcases Int.lt_or_le b 0 with sb | sb
    · rw [if_pos sb]
      exact idiv_n a b w h1 h2 h3 h4 sb
    · rw [if_neg (by omega)]
      exact idiv_p a b w h1 h2 h3 h4 (by omega)
  · rw [show divM a b = 0 from if_neg h]
    by_cases hb : (-1099511627776 ≤ a ∧ a ≤ 1099511627776) ∧ b = 0
    · obtain ⟨⟨h1, h2⟩, rfl⟩ := hb
      exact idiv_zero a w h1 h2
    · exact idiv_bad a b w (by omega)
end Go.Proofs.Ytapfafibhjpkdaa
