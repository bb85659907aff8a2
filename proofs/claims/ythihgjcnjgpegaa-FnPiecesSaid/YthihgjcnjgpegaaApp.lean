/-
  What append onto a row of its own leaves.
-/
import Derived.Test.YthihgjcnjgpegaaCopy
namespace Go.Proofs.Ythihgjcnjgpegaa
open Go.ChangeShapes Go.WideShapes Go.ChangeAt Go.RowKit

/-- What append onto a row of its own leaves. -/
theorem app_row {W w2 : World} {lo hi : Nat} {e : TypeId} {size : Nat} {v v' : Value} {n m : Nat} {xs ys : List Value} (ho : RowO W lo hi e size v n xs) (hown : w2.ownsRow lo e size v' m ys) (hg : W.grownBy w2 v.ownBlock) :
    RowO w2 lo w2.heap.size e size v' m ys ∧ (∀ b cs, Loc W b cs → b < lo ∨ hi ≤ b → Loc w2 b cs) ∧ (∀ u, Kept u W → u.heap.size ≤ lo → Kept u w2) := by
  have hlo : ∀ g, v.ownBlock = some g → lo ≤ g := fun g h => (own_lt ho.1 h).1
  refine ⟨RowO.top hown, fun b cs h hb => h.grown hg (fun x => by have := hlo b x; have := ho.2 b x; omega), fun u hk hu => hk.grown hg (fun k h => .inl ?_)⟩
  have := hlo k h
  omega
theorem own_ks {W W' : World} {lo hi : Nat} {e : TypeId} {size : Nat} {v : Value} {n : Nat} {xs : List Value} (ho : RowO W lo hi e size v n xs) (k : Kept W W') : W'.ownsRow lo e size v n xs := (RowO.kept ho k).1
theorem news4 {W : World} {b : Nat} {t : TimerD} (h : Loc W b (timerC t)) : ∀ j u, (timerC t)[j]? = some u → W.cell? ((⟨b, 0, none⟩ : Addr).add j) = some u := fun j u hu => by
  rw [Go.WideShapes.add_plain, Nat.zero_add]
  exact h.cell j hu
theorem one4 (t : TimerD) : ∀ u ∈ timerC t, u.oneCell' = true := fun u hu => by
  simp [timerC] at hu
  rcases hu with rfl | rfl | rfl | rfl <;> rfl
theorem news2 {W : World} {b : Nat} {t : FiredD} (h : Loc W b (firedC t)) : ∀ j u, (firedC t)[j]? = some u → W.cell? ((⟨b, 0, none⟩ : Addr).add j) = some u := fun j u hu => by
  rw [Go.WideShapes.add_plain, Nat.zero_add]
  exact h.cell j hu
theorem one2 (t : FiredD) : ∀ u ∈ firedC t, u.oneCell' = true := fun u hu => by
  simp [firedC] at hu
  rcases hu with rfl | rfl <;> rfl
/-- One more timer behind a list. -/
theorem app_timer {W w2 : World} {lo hi : Nat} {v v' : Value} {n : Nat} {ps : List TimerD} {t : TimerD} (ho : TimerO W lo hi v ps) (hn : ps.length = n) (hown : w2.ownsRow lo 46 4 v' (n + 1) (ps.flatMap timerC ++ timerC t)) (hg : W.grownBy w2 v.ownBlock) :
    TimerO w2 lo w2.heap.size v' (ps ++ [t]) ∧ (∀ b cs, Loc W b cs → b < lo ∨ hi ≤ b → Loc w2 b cs) ∧ (∀ u, Kept u W → u.heap.size ≤ lo → Kept u w2) := by
  subst hn
  have h := app_row ho hown hg
  refine ⟨?_, h.2⟩
  have := h.1
  unfold TimerO
  rw [List.length_append, List.flatMap_append]
  simpa using this
theorem app_fired {W w2 : World} {lo hi : Nat} {v v' : Value} {n : Nat} {ps : List FiredD} {t : FiredD} (ho : FiredO W lo hi v ps) (hn : ps.length = n) (hown : w2.ownsRow lo 83 2 v' (n + 1) (ps.flatMap firedC ++ firedC t)) (hg : W.grownBy w2 v.ownBlock) :
    FiredO w2 lo w2.heap.size v' (ps ++ [t]) ∧ (∀ b cs, Loc W b cs → b < lo ∨ hi ≤ b → Loc w2 b cs) ∧ (∀ u, Kept u W → u.heap.size ≤ lo → Kept u w2) := by
  subst hn
  have h := app_row ho hown hg
  refine ⟨?_, h.2⟩
  have := h.1
  unfold FiredO
  rw [List.length_append, List.flatMap_append]
  simpa using this

end Go.Proofs.Ythihgjcnjgpegaa
