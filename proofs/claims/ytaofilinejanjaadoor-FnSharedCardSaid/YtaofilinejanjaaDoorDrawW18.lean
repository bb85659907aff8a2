/-
  What DrawWrapText draws.
-/
import Derived.Test.YtaofilinejanjaaDoorDrawX18
namespace Go.Proofs.YtaofilinejanjaaDoor
open Go.ChangeShapes Go.WideShapes Go.ChangeAt Go.RowKit

set_option maxRecDepth 100000
set_option linter.unusedVariables false

theorem Code.keep {W W' : World} {ao : Option Addr} {len : Nat} (h : Code W ao len) (k : Kept W W') : Code W' ao len := fun i hi => by
  obtain ⟨ab, off, c, e, hc, hb⟩ := h i hi
  exact ⟨ab, off, c, e, Kept.cell k hc, hb⟩
set_option maxHeartbeats 8000000 in
theorem drawW (ao : Option Addr) (len cap : Nat) (w : World) (h : Code w ao len) (hl : len ≤ 9223372036854775807) :
    Calls Tryd.prog 9 #[.slice ao len cap] w fun e w' => ∃ (s : ByteArray) (n : Int), e = .returned (.tuple #[.string s, .int .i64 n]) ∧ s.size ≤ 800 ∧ (-1000 ≤ n ∧ n ≤ 1000) ∧ Kept w w' := by
  have hC0 := Code.cur (cap := cap) (t := 43) h (by omega)
  have K0 : Kept w (w.alloc (.cells #[.slice ao len cap, .int .i64 0, .int .u64 0] 43)) := (But.refl _ _ w).alloc _
  go_enter Tryd.func9, Tryd.ntmps9
  repeat (first | go_values | go_skip | go_guarded | go_step | go_upon)
  go_at_call 27
  refine (text_ok _ _ 0 (by simpa using hC0) (by omega)).mono ?_
  rintro e w1 ⟨s, rfl, hs, hC, hg⟩
  dsimp only
  have K1 : Kept w w1 := But.onto K0 hg (by omega)
  clear hg hC0 K0 h
  repeat (first | go_values | go_skip | go_guarded | go_step | go_upon)
  go_at_call 19
  refine (pick_ok _ _ _ 12 hC (by omega) (by omega)).mono ?_
  rintro e w2 ⟨z, rfl, hz, hC2, hg2⟩
  dsimp only
  have K2 : Kept w w2 := But.onto K1 hg2 (by omega)
  obtain ⟨Z, rfl, hZ⟩ := nat_of z 12 hz.1 hz.2
  have hsum : IntKind.i64.wrap (1 + (Z : Int)) = 1 + (Z : Int) := by rw [IntWalk.i64_in _ (by omega)]
  clear hg2 hC K1 hz
  repeat (first | go_values | go_skip | go_guarded | go_step | go_upon)
  go_at_call 20
  refine (one_ok _ _ _ 20 hC2 (by omega) (by omega)).mono ?_
  rintro e w3 ⟨yes, rfl, hC3, hg3⟩
  dsimp only
  have K3 : Kept w w3 := But.onto K2 hg3 (by omega)
  clear hg3 hC2 K2
  cases yes
  · repeat (first | go_values | go_skip | go_guarded | go_step | go_upon)
    go_ret2
    exact ⟨s, _, rfl, hs, by omega, K3⟩
  · have hlt := hC3.lt
    have HL : Listed (w3.alloc (.cells #[.int .i64 0, .int .i64 100, .int .i64 101] 3)) w3.heap.size [0, 100, 101] := listed_new w3 [0, 100, 101] 3
    have K4 : Kept w (w3.alloc (.cells #[.int .i64 0, .int .i64 100, .int .i64 101] 3)) := K3.alloc _
    have hC4 := hC3.alloc (.cells #[.int .i64 0, .int .i64 100, .int .i64 101] 3)
    clear hC3 hsum
    repeat (first | go_values | go_skip | go_guarded | go_step | go_upon)
    go_at_call 21
    refine (among_ok _ w.heap.size w3.heap.size _ [0, 100, 101] hC4 (by omega) (by omega) HL (by simp) (by simp) 3 rfl).mono ?_
    rintro e w5 ⟨z, rfl, hz, hC5, hg5⟩
    dsimp only
    have K5 : Kept w w5 := But.onto K4 hg5 (by omega)
    clear hC4 hC5 hg5 HL K4
    repeat (first | go_values | go_skip | go_guarded | go_step | go_upon)
    go_ret2
    exact ⟨s, z, rfl, hs, by simp at hz; omega, K5⟩

end Go.Proofs.YtaofilinejanjaaDoor
