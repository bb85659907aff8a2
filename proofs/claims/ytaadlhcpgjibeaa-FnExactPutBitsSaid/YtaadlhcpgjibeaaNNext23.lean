/-
  A reader of one number gives its next bit.
-/
import Derived.Test.YtaadlhcpgjibeaaPutA23
import Derived.BigQuiet
namespace Go.Proofs.Ytaadlhcpgjibeaa
open Go.ChangeShapes Go.WideShapes Go.ChangeAt Go.RowKit

set_option maxRecDepth 100000
set_option linter.unusedVariables false
set_option linter.unusedSimpArgs false

theorem loc_left {w : World} {b : Nat} {x y : Value} (h : Loc w b [x, y]) (u u' : Value) (e : u = u') : Loc (w.setCell ⟨b, 1, none⟩ u) b [x, u'] := by
  subst e
  exact h.set 1 u
theorem nnext_end (x rb : Nat) (w : World) (hL : Loc w rb [.int .i64 (x : Int), .int .i64 0]) :
    Calls Try.prog 46 #[.pointer (some ⟨rb, 0, none⟩)] w fun e w' => e = .returned (.tuple #[.int .i64 0, .bool false]) ∧ Kept w w' := by
  have b0 := hL.cell 0 rfl
  have b1 := hL.cell 1 rfl
  go_enter Try.func46, Try.ntmps46
  repeat (first | go_values | go_skip | go_guarded | go_step | go_upon)
  go_ret2
  exact ⟨rfl, But.refl _ _ _⟩
theorem nnext (x k rb : Nat) (w : World) (hx : x < 4294967296) (hk : k < 32) (hL : Loc w rb [.int .i64 (x : Int), .int .i64 ((k + 1 : Nat) : Int)]) :
    Calls Try.prog 46 #[.pointer (some ⟨rb, 0, none⟩)] w fun e w' => e = .returned (.tuple #[.int .i64 (x / 2 ^ k % 2 : Nat), .bool true]) ∧ But rb (rb + 1) w w' ∧ Loc w' rb [.int .i64 (x : Int), .int .i64 (k : Int)] := by
  have b0 := hL.cell 0 rfl
  have b1 := hL.cell 1 rfl
  have f1 := hL.frozen 1
  have d0 : (((k + 1 : Nat) : Int) == 0) = false := by simp; omega
  have hbit := i64_bit x k hx
  obtain ⟨B, hB⟩ : ∃ B, x / 2 ^ k % 2 = B := ⟨_, rfl⟩
  rw [hB] at hbit ⊢
  clear hB
  go_enter Try.func46, Try.ntmps46
  repeat (first | go_values | go_skip | go_guarded | go_step | go_upon)
  go_quiet (fail)
  repeat (first | go_values | go_skip | go_guarded | go_step | go_upon)
  go_ret2
  refine ⟨rfl, ?_, ?_⟩
  · exact But.drewN (but_one (But.refl _ _ _) _) _
  · exact Loc.kept (loc_left hL _ _ (by simp)) ((But.refl _ _ _).drewN _)

/-- The bit that comes behind j of m bits of x. -/
def bitOf (x m j : Nat) : Nat := if j < m then x / 2 ^ (m - 1 - j) % 2 else 0
theorem bitOf_lt (x m j : Nat) : bitOf x m j < 2 := by
  unfold bitOf
  split <;> omega
theorem nstep (x j m rb : Nat) (w : World) (hx : x < 4294967296) (hm : m ≤ 32) (hL : Loc w rb [.int .i64 (x : Int), .int .i64 ((m - j : Nat) : Int)]) :
    Calls Try.prog 46 #[.pointer (some ⟨rb, 0, none⟩)] w fun e w' => e = .returned (.tuple #[.int .i64 (bitOf x m j : Nat), .bool (decide (j < m))]) ∧ But rb (rb + 1) w w' ∧ Loc w' rb [.int .i64 (x : Int), .int .i64 ((m - 1 - j : Nat) : Int)] := by
  unfold bitOf
  by_cases h : j < m
  · rw [if_pos h, decide_eq_true h]
    exact nnext x (m - 1 - j) rb w hx (by omega) (by rw [show m - 1 - j + 1 = m - j by omega]; exact hL)
  · rw [if_neg h, decide_eq_false h, show m - 1 - j = 0 by omega]
    rw [show m - j = 0 by omega] at hL
    refine (nnext_end x rb w hL).mono ?_
    rintro e w' ⟨rfl, k⟩
    exact ⟨rfl, But.of k, hL.kept k⟩

end Go.Proofs.Ytaadlhcpgjibeaa
