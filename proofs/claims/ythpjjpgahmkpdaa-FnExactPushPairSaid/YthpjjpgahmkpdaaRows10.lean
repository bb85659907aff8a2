/-
  Lists of bodies; one more behind each.
-/
import Derived.Test.YthpjjpgahmkpdaaSolid10
import Derived.Test.YthpjjpgahmkpdaaTo
namespace Go.Proofs.Ythpjjpgahmkpdaa
open Go.ChangeShapes Go.WideShapes Go.ChangeAt Go.RowKit

set_option maxRecDepth 100000
set_option linter.unusedVariables false

theorem cell_lt {w : World} {b o : Nat} {x : Value} (h : w.cell? ⟨b, o, none⟩ = some x) : b < w.heap.size := World.block_lt_of_cell? _ _ h
/-- What append onto a row of its own leaves. -/
theorem app_row {W w2 : World} {lo hi : Nat} {e : TypeId} {size : Nat} {v v' : Value} {n m : Nat} {xs ys : List Value} (ho : RowO W lo hi e size v n xs) (hown : w2.ownsRow lo e size v' m ys) (hg : W.grownBy w2 v.ownBlock) :
    RowO w2 lo w2.heap.size e size v' m ys ∧ (∀ b cs, Loc W b cs → b < lo → Loc w2 b cs) ∧ (∀ u, Kept u W → u.heap.size ≤ lo → Kept u w2) := by
  have hlo : ∀ g, v.ownBlock = some g → lo ≤ g := fun g h => (own_lt ho.1 h).1
  refine ⟨RowO.top hown, fun b cs h hb => h.grown hg (fun x => by have := hlo b x; omega), fun u hk hu => hk.grown hg (fun k h => .inl ?_)⟩
  have := hlo k h
  omega

theorem app_solid {W w2 : World} {lo hi : Nat} {v v' : Value} {n : Nat} {ps : List SolidD} {t : SolidD} (ho : SolidO W lo hi v ps) (hn : ps.length = n) (hown : w2.ownsRow lo 95 4 v' (n + 1) (ps.flatMap solidC ++ solidC t)) (hg : W.grownBy w2 v.ownBlock) :
    SolidO w2 lo w2.heap.size v' (ps ++ [t]) ∧ (∀ b cs, Loc W b cs → b < lo → Loc w2 b cs) ∧ (∀ u, Kept u W → u.heap.size ≤ lo → Kept u w2) := by
  subst hn
  have h := app_row ho hown hg
  refine ⟨?_, h.2⟩
  have := h.1
  unfold SolidO
  rw [List.length_append, List.flatMap_append]
  simpa using this
theorem news_solid {W : World} {b : Nat} {t : SolidD} (h : Loc W b (solidC t)) : ∀ j u, (solidC t)[j]? = some u → W.cell? ((⟨b, 0, none⟩ : Addr).add j) = some u := fun j u hu => by
  rw [Go.WideShapes.add_plain, Nat.zero_add]
  exact h.cell j hu

theorem app_body {W w2 : World} {lo hi : Nat} {v v' : Value} {n : Nat} {ps : List BodyD} {t : BodyD} (ho : BodyO W lo hi v ps) (hn : ps.length = n) (hown : w2.ownsRow lo 33 4 v' (n + 1) (ps.flatMap bodyC ++ bodyC t)) (hg : W.grownBy w2 v.ownBlock) :
    BodyO w2 lo w2.heap.size v' (ps ++ [t]) ∧ (∀ b cs, Loc W b cs → b < lo → Loc w2 b cs) ∧ (∀ u, Kept u W → u.heap.size ≤ lo → Kept u w2) := by
  subst hn
  have h := app_row ho hown hg
  refine ⟨?_, h.2⟩
  have := h.1
  unfold BodyO
  rw [List.length_append, List.flatMap_append]
  simpa using this
theorem news_body {W : World} {b : Nat} {t : BodyD} (h : Loc W b (bodyC t)) : ∀ j u, (bodyC t)[j]? = some u → W.cell? ((⟨b, 0, none⟩ : Addr).add j) = some u := fun j u hu => by
  rw [Go.WideShapes.add_plain, Nat.zero_add]
  exact h.cell j hu

theorem one_solid (p : SolidD) : ∀ u ∈ solidC p, u.oneCell' = true := fun u hu => by
  simp [solidC] at hu
  rcases hu with rfl | rfl | rfl | rfl <;> rfl
theorem one_body (p : BodyD) : ∀ u ∈ bodyC p, u.oneCell' = true := fun u hu => by
  simp [bodyC] at hu
  rcases hu with rfl | rfl | rfl | rfl <;> rfl
theorem infoSolid : (Try.prog.info? 95).map (fun i => (i.zero, i.size, i.bytes)) = some (some (.agg #[.int .i64 0, .int .i64 0, .int .i64 0, .int .i64 0]), 4, 32) := by kernel_rfl
theorem infoBody : (Try.prog.info? 33).map (fun i => (i.zero, i.size, i.bytes)) = some (some (.agg #[.int .i64 0, .int .i64 0, .int .i64 0, .int .i64 0]), 4, 32) := by kernel_rfl
theorem solid_nil (w : World) (lo hi : Nat) : SolidO w lo hi (.slice none 0 0) [] := ⟨World.ownsRow_nil _ _ _ _, fun g hg => by simp [Value.ownBlock] at hg⟩
theorem body_nil (w : World) (lo hi : Nat) : BodyO w lo hi (.slice none 0 0) [] := ⟨World.ownsRow_nil _ _ _ _, fun g hg => by simp [Value.ownBlock] at hg⟩

end Go.Proofs.Ythpjjpgahmkpdaa
