/-
  Coins, on both sides.
-/
import Derived.Test.YtpeiblodefaajaaDoorGoodC12
namespace Go.Proofs.YtpeiblodefaajaaDoor
open Go.ChangeShapes Go.WideShapes Go.ChangeAt Go.RowKit

set_option maxRecDepth 100000
set_option linter.unusedVariables false
/-- The next seed, and its coin. -/
def coinN (x : Int) : Int := (x * 1103515245 + 12345) % 2147483648
def coinC (x : Int) : Int := coinN x / 65536
theorem coinN_bd (x : Int) : 0 ≤ coinN x ∧ coinN x ≤ 2147483647 := by unfold coinN; omega
theorem coinC_bd (x : Int) : 0 ≤ coinC x ∧ coinC x ≤ 32767 := by have := coinN_bd x; unfold coinC; omega
theorem scoin (x : Int) (w : World) (h0 : 0 ≤ x) (h1 : x ≤ 2147483647) : Calls Tryd.prog 39 #[.int .i64 x] w fun e w' => e = .returned (.tuple #[.int .i64 (coinN x), .int .i64 (coinC x)]) ∧ w' = w := by
  go_enter Tryd.func39, Tryd.ntmps39
  go_wp2
  go_returns
  exact ⟨rfl, rfl⟩
theorem icoin (x : Int) (w : World) (h0 : 0 ≤ x) (h1 : x ≤ 2147483647) : Calls Tryd.prog 59 #[.int .i64 x] w fun e w' => e = .returned (.tuple #[.int .i64 (coinN x), .int .i64 (coinC x)]) ∧ w' = w := by
  go_enter Tryd.func59, Tryd.ntmps59
  go_wp2_with (go_at_call 36; refine (iseed _ _).mono ?_; rintro e w1 ⟨rfl, rfl⟩; rw [decide_eq_true (And.intro h0 h1)])
  go_returns
  exact ⟨rfl, rfl⟩
theorem ishare (x c : Int) (w : World) (h0 : 0 ≤ x) (h1 : x ≤ 60000000) (h2 : 0 ≤ c) (h3 : c ≤ 32767) (h4 : 0 ≤ x * c) (h5 : x * c ≤ 2000000000000) : Calls Tryd.prog 69 #[.int .i64 x, .int .i64 c] w fun e w' => e = .returned (.int .i64 (x * c / 32768)) ∧ w' = w := by
  go_enter Tryd.func69, Tryd.ntmps69
  go_wp2
  go_ret
  exact ⟨rfl, rfl⟩
theorem ifrom (a : Addr) (w : World) : Calls Tryd.prog 37 #[.pointer (some a)] w fun e w' => e = .returned (.func (.func 58) #[] #[.pointer (some ⟨w.heap.size, 0, none⟩)]) ∧ w' = w.alloc (.cells #[.pointer (some a)] 71) := by
  go_enter Tryd.func37, Tryd.ntmps37
  go_wp2
  go_ret
  exact ⟨rfl, rfl⟩
theorem iflip (b s : Nat) (x : Int) (w : World) (h0 : 0 ≤ x) (h1 : x ≤ 2147483647) (hb : w.cell? ⟨b, 0, none⟩ = some (.pointer (some ⟨s, 0, none⟩))) (hs : w.cell? ⟨s, 0, none⟩ = some (.int .i64 x)) (hf : w.frozen? ⟨s, 0, none⟩ = false) :
    Calls Tryd.prog 58 #[.pointer (some ⟨b, 0, none⟩)] w fun e w' => e = .returned (.int .i64 (coinC x)) ∧ w' = w.setCell ⟨s, 0, none⟩ (.int .i64 (coinN x)) := by
  go_enter Tryd.func58, Tryd.ntmps58
  go_wp2_with (go_at_call 59; refine (icoin _ _ h0 h1).mono ?_; rintro e w1 ⟨rfl, rfl⟩)
  go_ret
  exact ⟨rfl, rfl⟩
/-- A coin taken by the closure; the seed lies in front of its block. -/
theorem iflipL (b s : Nat) (x : Int) (cs : List Value) (w : World) (h0 : 0 ≤ x) (h1 : x ≤ 2147483647) (Lb : Loc w b [.pointer (some ⟨s, 0, none⟩)]) (Ls : Loc w s (.int .i64 x :: cs)) :
    Calls Tryd.prog 58 #[.pointer (some ⟨b, 0, none⟩)] w fun e w' => e = .returned (.int .i64 (coinC x)) ∧ Loc w' s (.int .i64 (coinN x) :: cs) ∧ But s (s + 1) w w' := by
  refine (iflip b s x w h0 h1 (Lb.cell 0 rfl) (Ls.cell 0 rfl) (Ls.frozen 0)).mono ?_
  rintro e w' ⟨rfl, rfl⟩
  exact ⟨rfl, Ls.set 0 _, (But.refl _ _ _).setCell (by simp) (by simp) _⟩
theorem ifromL (s : Nat) (w : World) : Calls Tryd.prog 37 #[.pointer (some ⟨s, 0, none⟩)] w fun e w' => e = .returned (.func (.func 58) #[] #[.pointer (some ⟨w.heap.size, 0, none⟩)]) ∧ Loc w' w.heap.size [.pointer (some ⟨s, 0, none⟩)] ∧ Kept w w' := by
  refine (ifrom _ w).mono ?_
  rintro e w' ⟨rfl, rfl⟩
  exact ⟨rfl, Loc.new w _ _, (But.refl _ _ _).alloc _⟩

end Go.Proofs.YtpeiblodefaajaaDoor
