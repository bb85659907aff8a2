/-
  Whether a timer fires yet.
-/
import Derived.Test.YthihgjcnjgpegaaPut0
namespace Go.Proofs.Ythihgjcnjgpegaa
open Go.ChangeShapes Go.WideShapes Go.ChangeAt Go.RowKit

set_option maxRecDepth 100000
/-- What waits again behind a firing. -/
def again (t : TimerD) : List TimerD := if decide (0 < t.2.2.1) && decide (1 < t.2.2.2) then [(t.1, t.2.1 + t.2.2.1, t.2.2.1, t.2.2.2 - 1)] else []
set_option maxHeartbeats 2000000 in
theorem isDue (B : Nat) (u : Int) (iv : Value) (ao : Option Addr) (nf cf : Nat) (a b c d : Int) (w : World) (hL : Loc w B [.int .i64 u, .func (.func 38) #[] #[], iv, .slice ao nf cf]) :
    Calls Try.prog 41 #[.pointer (some ⟨B, 0, none⟩), .agg #[.int .i64 a, .int .i64 b, .int .i64 c, .int .i64 d]] w fun e w' => e = .returned (.bool (decide (b ≤ u) && decide (nf ≤ 2000))) ∧ Kept w w' := by
  have b0 := hL.cell 0 rfl
  have b3 := hL.cell 3 rfl
  have hBw := hL.lt
  by_cases hb : b ≤ u
  · have q1 : decide (b ≤ u) = true := by simpa using hb
    by_cases hn : nf ≤ 2000
    · have q2 : decide ((nf : Int) ≤ 2000) = true := by simp; omega
      have q3 : decide (nf ≤ 2000) = true := by simpa using hn
      go_enter Try.func41, Try.ntmps41
      repeat (first | go_values | go_skip | go_guarded | go_step | go_upon)
      refine wp_region_kept (by kernel_rfl) (by kernel_rfl) ?_
      have hcc := KW.cell_eq (w.alloc (.cells #[.int .i64 a, .int .i64 b, .int .i64 c, .int .i64 d] 46))
      repeat (go_big_quiet_step (fail))
      refine wpQuiet_nil ?_
      rintro w5 ⟨⟨w6, k5⟩, rfl⟩
      clear hcc
      repeat (first | go_values | go_skip | go_guarded | go_step | go_upon)
      go_ret
      exact ⟨ret_bool (by rw [q1, q3]; rfl), ((But.refl _ _ w).alloc _).trans k5⟩
    · have q2 : decide ((nf : Int) ≤ 2000) = false := by simp; omega
      have q3 : decide (nf ≤ 2000) = false := by simpa using hn
      go_enter Try.func41, Try.ntmps41
      repeat (first | go_values | go_skip | go_guarded | go_step | go_upon)
      refine wp_region_kept (by kernel_rfl) (by kernel_rfl) ?_
      have hcc := KW.cell_eq (w.alloc (.cells #[.int .i64 a, .int .i64 b, .int .i64 c, .int .i64 d] 46))
      repeat (go_big_quiet_step (fail))
      refine wpQuiet_nil ?_
      rintro w5 ⟨⟨w6, k5⟩, rfl⟩
      clear hcc
      repeat (first | go_values | go_skip | go_guarded | go_step | go_upon)
      go_ret
      exact ⟨ret_bool (by rw [q3, Bool.and_false]), ((But.refl _ _ w).alloc _).trans k5⟩
  · have q1 : decide (b ≤ u) = false := by simpa using hb
    go_enter Try.func41, Try.ntmps41
    repeat (first | go_values | go_skip | go_guarded | go_step | go_upon)
    refine wp_region_kept (by kernel_rfl) (by kernel_rfl) ?_
    have hcc := KW.cell_eq (w.alloc (.cells #[.int .i64 a, .int .i64 b, .int .i64 c, .int .i64 d] 46))
    repeat (go_big_quiet_step (fail))
    refine wpQuiet_nil ?_
    rintro w5 ⟨⟨w6, k5⟩, rfl⟩
    clear hcc
    repeat (first | go_values | go_skip | go_guarded | go_step | go_upon)
    go_ret
    exact ⟨ret_bool (by rw [q1]; rfl), ((But.refl _ _ w).alloc _).trans k5⟩

end Go.Proofs.Ythihgjcnjgpegaa
