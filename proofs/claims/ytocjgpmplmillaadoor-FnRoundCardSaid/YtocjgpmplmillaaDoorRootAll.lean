/-
  What FixRoot and LengthOf answer, in the program and in its specification: the root as IsRoot says it, 0 where an argument is no fixed number.
-/
import Derived.Test.YtocjgpmplmillaaDoorRoot
namespace Go.Proofs.YtocjgpmplmillaaDoor
open Go.ChangeShapes Go.WideShapes Go.ChangeAt Go.RowKit Plain

theorem sroot_yes (a : Int) (w : World) (h : 0 ≤ a) (h' : a ≤ 1099511627776) :
    Calls Tryd.prog 15 #[.int .i64 a] w fun e w' => (∃ q : Int, e = .returned (.int .i64 q) ∧ IsRoot (a * 65536) q) ∧ Grown w w' := by
  have da : decide (a < 0) = false := by simp; omega
  go_enter Tryd.func15, Tryd.ntmps15
  go_wp2_with (first
    | (go_at_call 28; refine (gs_yes _ _ (by omega) (by omega)).mono ?_; rintro e w' ⟨rfl, rfl⟩)
    | (go_at_call 30; refine (times_any a 65536 _ (by omega) (by omega) (by omega) (by omega)).mono ?_; rintro e w1 ⟨rfl, hg1⟩)
    | (go_at_call 29; refine (sroot_any (a * 65536) _ (by omega)).mono ?_; rintro e w2 ⟨⟨q, rfl, hq⟩, hg2⟩; have q0 := hq.1; have q1 := hq.2.1))
  go_ret
  exact ⟨⟨q, rfl, hq⟩, gtrans hg1 hg2⟩

theorem iroot_low (n : Int) (w : World) (h : 0 ≤ n) (h' : n < 18446744073709551616) :
    Calls Tryd.prog 27 #[.agg #[.int .u64 0, .int .u64 n]] w fun e w' => (∃ q : Int, e = .returned (.int .i64 q) ∧ IsRoot n q) ∧ Grown w w' := by
  have := iroot_any n w h
  rw [show n / 18446744073709551616 = 0 from by omega, show n % 18446744073709551616 = n from by omega] at this
  exact this

theorem iroot_yes (a : Int) (w : World) (h : 0 ≤ a) (h' : a ≤ 1099511627776) :
    Calls Tryd.prog 14 #[.int .i64 a] w fun e w' => (∃ q : Int, e = .returned (.int .i64 q) ∧ IsRoot (a * 65536) q) ∧ Grown w w' := by
  have da : decide (a < 0) = false := by simp; omega
  go_enter Tryd.func14, Tryd.ntmps14
  go_wp2_with (first
    | (go_at_call 26; refine (gi_yes _ _ (by omega) (by omega)).mono ?_; rintro e w' ⟨rfl, rfl⟩)
    | (go_at_call 27; refine (iroot_low (a * 65536) _ (by omega) (by omega)).mono ?_; rintro e w2 ⟨⟨q, rfl, hq⟩, hg2⟩))
  go_ret
  exact ⟨⟨q, rfl, hq⟩, hg2⟩

theorem sroot_no (a : Int) (w : World) (h : a < 0 ∨ 1099511627776 < a) :
    Calls Tryd.prog 15 #[.int .i64 a] w fun e w' => e = .returned (.int .i64 0) ∧ w' = w := by
  by_cases s : a < 0
  · clear h
    go_enter Tryd.func15, Tryd.ntmps15
    go_wp2_with fail
    go_ret
    exact ⟨rfl, rfl⟩
  · have da : decide (a < 0) = false := by simpa using s
    have h2 : a < -1099511627776 ∨ 1099511627776 < a := by omega
    clear h
    go_enter Tryd.func15, Tryd.ntmps15
    go_wp2_with (go_at_call 28; refine (gs_no _ _ h2).mono ?_; rintro e w' ⟨rfl, rfl⟩)
    go_ret
    exact ⟨rfl, rfl⟩

theorem iroot_no (a : Int) (w : World) (h : a < 0 ∨ 1099511627776 < a) :
    Calls Tryd.prog 14 #[.int .i64 a] w fun e w' => e = .returned (.int .i64 0) ∧ w' = w := by
  by_cases s : a < -1099511627776 ∨ 1099511627776 < a
  · clear h
    go_enter Tryd.func14, Tryd.ntmps14
    go_wp2_with (go_at_call 26; refine (gi_no _ _ s).mono ?_; rintro e w' ⟨rfl, rfl⟩)
    go_ret
    exact ⟨rfl, rfl⟩
  · have h2 : a < 0 := by omega
    have h3 : -1099511627776 ≤ a := by omega
    clear h s
    go_enter Tryd.func14, Tryd.ntmps14
    go_wp2_with (go_at_call 26; refine (gi_yes _ _ (by omega) (by omega)).mono ?_; rintro e w' ⟨rfl, rfl⟩)
    go_ret
    exact ⟨rfl, rfl⟩

end Go.Proofs.YtocjgpmplmillaaDoor
