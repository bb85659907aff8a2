/-
  The place of a cell, in the specification.
-/
import Derived.Test.YtnfkgnbhdhpnmaaLeaf13
import Derived.Test.YtnfkgnbhdhpnmaaSplit13
namespace Go.Proofs.Ytnfkgnbhdhpnmaa
open Go.ChangeShapes Go.WideShapes Go.ChangeAt Go.RowKit

set_option maxRecDepth 100000
set_option linter.unusedVariables false
theorem wp_region_ksp {P : Program} {id : Nat} {Q : Exit → Act → World → Prop} {a : Act} {w : World} {l : List Oper} (m d : Nat) (hm : P.follows .mixedOrders = true) (hB : Region.lexB .any l.toArray = true) (hR : splitB l.toArray m d = true) (hml : m ≤ l.length)
    (h : wpQuiet P l.toArray (fun w' => ∃ x : KW w, w' = x.w) (fun a' => ∀ w', (∃ x : KW w, w' = x.w) → wpList P l.toArray Q (l.drop m) a' w') (l.take m) a) : (Code.region id l.toArray true).wp P Q a w :=
  wp_region_split m d hm hB hR hml ⟨⟨w.drew, (But.refl _ _ w).drew⟩, rfl⟩ h
theorem num_three (w : World) (lo : Nat) (a b d : Int) (hlo : lo ≤ w.heap.size) : NumO (w.alloc (.cells #[.int .i64 a, .int .i64 b, .int .i64 d] 3)) lo (w.heap.size + 1) (.slice (some ⟨w.heap.size, 0, none⟩) 3 3) [a, b, d] := by
  refine ⟨⟨rfl, Or.inr ⟨w.heap.size, 3, _, rfl, hlo, heap_alloc_new w _, Nat.le_refl _, by unfold maxLen; omega, rfl, rfl⟩⟩, fun g hg => ?_⟩
  simp [Value.ownBlock] at hg
  omega
theorem tdiv_e {n a : Int} (h : 0 ≤ n) : n.tdiv a = n / a := Int.tdiv_eq_ediv_of_nonneg h
theorem tmod_e {n a : Int} (h : 0 ≤ n) : n.tmod a = n % a := Int.tmod_eq_emod_of_nonneg h
set_option maxHeartbeats 4000000 in
theorem splace (a b d n : Int) (s : Value) (w : World) (he : Edge a b d) (h0 : 0 ≤ n) (h1 : n ≤ 511) :
    Calls Try.prog 66 #[.agg #[.int .i64 a, .int .i64 b, .int .i64 d, s], .int .i64 n] w fun e w' => ∃ v, e = .returned v ∧ NumO w' w.heap.size w'.heap.size v [n % a, n / a % b, n / a / b] ∧ Kept w w' := by
  have a1 := he.1.1
  have a2 := he.1.2
  have b1 := he.2.1.1
  have b2 := he.2.1.2
  have za : (a == 0) = false := by simp; omega
  have zb : (b == 0) = false := by simp; omega
  have t1 : 0 ≤ n / a := Int.ediv_nonneg h0 (by omega)
  have t2 : n / a ≤ 511 := Int.le_trans (Int.ediv_le_self a h0) h1
  have t3 : 0 ≤ n / a / b := Int.ediv_nonneg t1 (by omega)
  have t4 : n / a / b ≤ 511 := Int.le_trans (Int.ediv_le_self b t1) t2
  go_enter Try.func66, Try.ntmps66
  repeat (first | go_values | go_skip | go_guarded | go_step | go_upon)
  obtain ⟨W, hW⟩ : ∃ x, x = w.alloc (.cells #[.int .i64 a, .int .i64 b, .int .i64 d, s] 25) := ⟨_, rfl⟩
  have kz : Kept w W := by rw [hW]; exact (But.refl _ _ _).alloc _
  have LW : Loc W w.heap.size [.int .i64 a, .int .i64 b, .int .i64 d, s] := by rw [hW]; exact Loc.new _ _ _
  rw [← hW]
  clear hW
  have v0 := LW.cell 0 rfl
  have v1 := LW.cell 1 rfl
  have v2 := LW.cell 2 rfl
  have v3 := LW.cell 3 rfl
  have vl := LW.lt
  refine wp_region_ksp 18 5 (by kernel_rfl) (by kernel_rfl) (by kernel_rfl) (by decide) ?_
  have hcc := KW.cell_eq W
  simp only [List.take_succ_cons, List.take_zero, List.drop_succ_cons, List.drop_zero]
  repeat (go_big_quiet_step (fail))
  refine wpQuiet_nil ?_
  rintro y0 ⟨⟨w8, k0⟩, h9⟩
  change y0 = w8 at h9
  subst h9
  clear hcc
  repeat (first | go_values | go_skip | go_guarded | go_step | go_upon)
  go_ret
  have hs := (kz.trans k0).size
  exact ⟨_, rfl, (num_three y0 w.heap.size _ _ _ hs).mono (Nat.le_refl _) (by simp), (kz.trans k0).alloc _⟩

end Go.Proofs.Ytnfkgnbhdhpnmaa
