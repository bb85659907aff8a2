/-
  Memory that a call makes for itself: rows that it owns, what changes of the rest, what is read of a row. Free of the program.
-/
import Derived.WalkKit
import Derived.ProofKit
import Derived.OpenShut
import Derived.Handy
import Derived.ChangeSame
import Derived.Laws.AppendOwn
import Derived.Deep.RegionHeld3
import Derived.Deep.Draws
namespace Go.Proofs.YtaadlhcpgjibeaaDoor
open Go.ChangeShapes Go.WideShapes Go.ChangeAt Go.RowKit

/-- All blocks but those from lo to below hi are as they were. -/
structure But (lo hi : Nat) (w w' : World) : Prop where
  os : w'.os = w.os
  out : w'.output = w.output
  size : w.heap.size ≤ w'.heap.size
  block : ∀ b, b < w.heap.size → b < lo ∨ hi ≤ b → w'.heap[b]? = w.heap[b]?
abbrev Kept (w w' : World) : Prop := But 0 0 w w'

theorem But.refl (lo hi : Nat) (w : World) : But lo hi w w := ⟨rfl, rfl, Nat.le_refl _, fun _ _ _ => rfl⟩
theorem But.trans {lo hi : Nat} {a b c : World} (h : But lo hi a b) (k : But lo hi b c) : But lo hi a c :=
  ⟨k.os.trans h.os, k.out.trans h.out, Nat.le_trans h.size k.size, fun i hi' ho => (k.block i (Nat.lt_of_lt_of_le hi' h.size) ho).trans (h.block i hi' ho)⟩
theorem But.mono {lo hi lo' hi' : Nat} {a b : World} (h : But lo hi a b) (h1 : lo' ≤ lo) (h2 : hi ≤ hi') : But lo' hi' a b :=
  ⟨h.os, h.out, h.size, fun i hs ho => h.block i hs (by omega)⟩
theorem But.of {lo hi : Nat} {a b : World} (h : Kept a b) : But lo hi a b := ⟨h.os, h.out, h.size, fun i hs _ => h.block i hs (by omega)⟩
theorem But.transK {lo hi : Nat} {a b c : World} (h : But lo hi a b) (k : Kept b c) : But lo hi a c := h.trans (But.of k)
/-- What lies behind the first world's blocks may change. -/
theorem But.fresh {lo hi : Nat} {a b : World} (h : But lo hi a b) (hl : a.heap.size ≤ lo) : Kept a b := ⟨h.os, h.out, h.size, fun i hs _ => h.block i hs (by omega)⟩
theorem But.onto {lo hi : Nat} {a b c : World} (h : Kept a b) (k : But lo hi b c) (hl : a.heap.size ≤ lo) : Kept a c :=
  ⟨k.os.trans h.os, k.out.trans h.out, Nat.le_trans h.size k.size, fun i hi' _ => (k.block i (Nat.lt_of_lt_of_le hi' h.size) (by omega)).trans (h.block i hi' (by omega))⟩
theorem But.alloc {lo hi : Nat} {a b : World} (h : But lo hi a b) (o : Obj) : But lo hi a (b.alloc o) :=
  h.trans ⟨rfl, rfl, by simp, fun k hk _ => Go.heap_alloc_old b o hk⟩
theorem But.drew {lo hi : Nat} {a b : World} (h : But lo hi a b) : But lo hi a b.drew := h.trans ⟨rfl, rfl, Nat.le_refl _, fun _ _ _ => rfl⟩
theorem But.drewN {lo hi : Nat} {a b : World} (h : But lo hi a b) (n : Nat) : But lo hi a (b.drewN n) := h.trans ⟨rfl, rfl, Nat.le_refl _, fun _ _ _ => rfl⟩
theorem But.setCell {lo hi : Nat} {a b : World} (h : But lo hi a b) {p : Addr} (h1 : lo ≤ p.block) (h2 : p.block < hi) (v : Value) : But lo hi a (b.setCell p v) := by
  refine h.trans ⟨rfl, rfl, by simp [World.setCell], fun k _ ho => ?_⟩
  simp only [World.setCell, Array.getElem?_modify]
  rw [if_neg (by omega)]
/-- A store into a block that the first world doesn't have. -/
theorem But.setNew {lo hi : Nat} {a b : World} (h : But lo hi a b) {p : Addr} (h1 : a.heap.size ≤ p.block) (v : Value) : But lo hi a (b.setCell p v) := by
  refine ⟨h.os, h.out, by have := h.size; simpa [World.setCell] using this, fun k hk ho => ?_⟩
  simp only [World.setCell, Array.getElem?_modify]
  rw [if_neg (by omega)]
  exact h.block k hk ho
theorem But.grown {lo hi : Nat} {a b c : World} {row : Option Nat} (h : But lo hi a b) (g : b.grownBy c row) (hr : ∀ k, row = some k → a.heap.size ≤ k ∨ lo ≤ k ∧ k < hi) : But lo hi a c := by
  refine ⟨g.os.trans h.os, g.output.trans h.out, Nat.le_trans h.size g.size, fun i hi' ho => ?_⟩
  refine (g.block i (Nat.lt_of_lt_of_le hi' h.size) (fun e => ?_)).trans (h.block i hi' ho)
  have := hr i e.symm
  omega
theorem But.cell {lo hi : Nat} {w w' : World} (h : But lo hi w w') {a : Addr} {v : Value} (hc : w.cell? a = some v) (ho : a.block < lo ∨ hi ≤ a.block) : w'.cell? a = some v :=
  (World.cell?_of_block (h.block a.block (World.block_lt_of_cell? w a hc) ho)).trans hc
theorem Kept.cell {w w' : World} (h : Kept w w') {a : Addr} {v : Value} (hc : w.cell? a = some v) : w'.cell? a = some v := But.cell h hc (by omega)
theorem Kept.keptBut {W w' : World} (h : Kept W w') : W.keptBut w' (fun _ => False) := by
  refine ⟨h.os, h.out, fun i hi => ?_⟩
  rw [h.block i hi (by omega)]
  cases W.heap[i]? with
  | none => simp
  | some x => cases x <;> simp

section
variable {w w' : World} {base : Nat} {e : TypeId} {size : Nat} {v : Value} {n : Nat} {xs : List Value}
theorem own_but {lo hi : Nat} (h : w.ownsRow base e size v n xs) (hb : But lo hi w w') (ho : ∀ g, v.ownBlock = some g → g < lo ∨ hi ≤ g) : w'.ownsRow base e size v n xs := by
  refine ⟨h.1, ?_⟩
  rcases h.2 with hn | ⟨g, cap, cur, rfl, hbs, hgg, rest⟩
  · exact .inl hn
  · refine .inr ⟨g, cap, cur, rfl, hbs, ?_, rest⟩
    rw [hb.block g (Array.getElem?_eq_some_iff.1 hgg).1 (ho g rfl)]
    exact hgg
theorem own_kept (h : w.ownsRow base e size v n xs) (hb : Kept w w') : w'.ownsRow base e size v n xs := own_but h hb (fun _ _ => by omega)
theorem own_base {base' : Nat} (h : w.ownsRow base e size v n xs) (hle : base' ≤ base) : w.ownsRow base' e size v n xs := by
  refine ⟨h.1, ?_⟩
  rcases h.2 with hn | ⟨g, cap, cur, rfl, hbs, rest⟩
  · exact .inl hn
  · exact .inr ⟨g, cap, cur, rfl, Nat.le_trans hle hbs, rest⟩
theorem own_cell (h : w.ownsRow base e size v n xs) {j : Nat} {x : Value} (hx : xs[j]? = some x) :
    ∃ g cap, v = .slice (some ⟨g, 0, none⟩) n cap ∧ base ≤ g ∧ w.cell? ⟨g, j, none⟩ = some x ∧ w.frozen? ⟨g, j, none⟩ = false ∧ g < w.heap.size := by
  rcases h.2 with ⟨rfl, rfl⟩ | ⟨g, cap, cur, rfl, hbs, hgg, _, _, hsz, htake⟩
  · have := h.1
    simp at this
    subst this
    simp at hx
  · refine ⟨g, cap, rfl, hbs, ?_, by simp [World.frozen?, hgg], (Array.getElem?_eq_some_iff.1 hgg).1⟩
    rw [cell_of_row w g j cur e (0, 0) hgg]
    rw [← htake, List.getElem?_take] at hx
    split at hx
    · simpa using hx
    · cases hx
theorem own_set {g cap : Nat} (h : w.ownsRow base e size (.slice (some ⟨g, 0, none⟩) n cap) n xs) (j : Nat) (u : Value) :
    (w.setCell ⟨g, j, none⟩ u).ownsRow base e size (.slice (some ⟨g, 0, none⟩) n cap) n (xs.set j u) := by
  rcases h.2 with ⟨hv, _⟩ | ⟨g', cap', cur, hv, hbs, hgg, h1, h2, hsz, htake⟩
  · cases hv
  · cases hv
    refine ⟨by rw [List.length_set]; exact h.1, .inr ⟨g, cap, cur.setIfInBounds j u, rfl, hbs, ?_, h1, h2, by simpa using hsz, ?_⟩⟩
    · simp only [World.setCell, Array.getElem?_modify, if_true, hgg]
      rfl
    · rw [Array.toList_setIfInBounds, ← htake, List.take_set]
theorem own_lt (h : w.ownsRow base e size v n xs) {g : Nat} (hg : v.ownBlock = some g) : base ≤ g ∧ g < w.heap.size := h.lt g hg
theorem own_form (h : w.ownsRow base e size v n xs) : ∃ ao cap, v = .slice ao n cap ∧ (ao = none → n = 0) := by
  rcases h.2 with ⟨rfl, rfl⟩ | ⟨g, cap, cur, rfl, _⟩
  · exact ⟨none, 0, rfl, fun _ => rfl⟩
  · exact ⟨_, cap, rfl, fun h => by cases h⟩
end

/-- Block b is a variable's own: it holds the cells cs. -/
def Loc (w : World) (b : Nat) (cs : List Value) : Prop := ∃ t, w.heap[b]? = some (.cells cs.toArray t (0, 0))
theorem Loc.but {w w' : World} {b lo hi : Nat} {cs : List Value} (h : Loc w b cs) (k : But lo hi w w') (ho : b < lo ∨ hi ≤ b) : Loc w' b cs := by
  obtain ⟨t, e⟩ := h
  exact ⟨t, (k.block b (Array.getElem?_eq_some_iff.1 e).1 ho).trans e⟩
theorem Loc.kept {w w' : World} {b : Nat} {cs : List Value} (h : Loc w b cs) (k : Kept w w') : Loc w' b cs := h.but k (by omega)
theorem Loc.cell {w : World} {b : Nat} {cs : List Value} (h : Loc w b cs) (j : Nat) {v : Value} (hv : cs[j]? = some v) : w.cell? ⟨b, j, none⟩ = some v := by
  obtain ⟨t, e⟩ := h
  rw [cell_of_row w b j _ t (0, 0) e]
  simpa using hv
theorem Loc.frozen {w : World} {b : Nat} {cs : List Value} (h : Loc w b cs) (j : Nat) : w.frozen? ⟨b, j, none⟩ = false := by
  obtain ⟨t, e⟩ := h
  simp [World.frozen?, e]
theorem Loc.new (w : World) (cs : List Value) (t : TypeId) : Loc (w.alloc (.cells cs.toArray t)) w.heap.size cs := ⟨t, heap_alloc_new w _⟩
theorem Loc.lt {w : World} {b : Nat} {cs : List Value} (h : Loc w b cs) : b < w.heap.size := by
  obtain ⟨t, e⟩ := h
  exact (Array.getElem?_eq_some_iff.1 e).1
theorem Loc.alloc {w : World} {b : Nat} {cs : List Value} (h : Loc w b cs) (o : Obj) : Loc (w.alloc o) b cs := h.kept ((But.refl _ _ w).alloc o)
theorem Loc.set {w : World} {b : Nat} {cs : List Value} (h : Loc w b cs) (j : Nat) (v : Value) : Loc (w.setCell ⟨b, j, none⟩ v) b (cs.set j v) := by
  obtain ⟨t, e⟩ := h
  refine ⟨t, ?_⟩
  simp only [World.setCell, Array.getElem?_modify, if_true, e]
  simp
theorem Loc.other {w : World} {b b' j : Nat} {cs : List Value} (h : Loc w b cs) (hb : b ≠ b') (v : Value) : Loc (w.setCell ⟨b', j, none⟩ v) b cs := by
  obtain ⟨t, e⟩ := h
  refine ⟨t, ?_⟩
  simp only [World.setCell, Array.getElem?_modify]
  rw [if_neg (fun x => hb x.symm)]
  exact e
theorem Loc.grown {w w' : World} {b : Nat} {cs : List Value} {row : Option Nat} (h : Loc w b cs) (g : w.grownBy w' row) (hr : row ≠ some b) : Loc w' b cs := by
  obtain ⟨t, e⟩ := h
  exact ⟨t, (g.block b (Array.getElem?_eq_some_iff.1 e).1 (fun x => hr x.symm)).trans e⟩

/-- The slice value v of n elements has the cells xs behind it. -/
def RowAt (w : World) (v : Value) (n : Nat) (xs : List Value) : Prop :=
  ∃ ao cap, v = .slice ao n cap ∧ ∀ j x, xs[j]? = some x → ∃ b o, ao = some ⟨b, o, none⟩ ∧ w.cell? ⟨b, o + j, none⟩ = some x
theorem own_row {w : World} {base : Nat} {e : TypeId} {size : Nat} {v : Value} {n : Nat} {xs : List Value} (h : w.ownsRow base e size v n xs) : RowAt w v n xs := by
  obtain ⟨ao, cap, rfl, _⟩ := own_form h
  refine ⟨ao, cap, rfl, fun j x hx => ?_⟩
  obtain ⟨g, cap', e1, _, hc, _⟩ := own_cell h hx
  cases e1
  exact ⟨g, 0, rfl, by simpa using hc⟩
theorem RowAt.kept {w w' : World} {v : Value} {n : Nat} {xs : List Value} (h : RowAt w v n xs) (k : Kept w w') : RowAt w' v n xs := by
  obtain ⟨ao, cap, rfl, hc⟩ := h
  refine ⟨ao, cap, rfl, fun j x hx => ?_⟩
  obtain ⟨b, o, e, h1⟩ := hc j x hx
  exact ⟨b, o, e, k.cell h1⟩

/-- The cells of a list of elements, laid flat. -/
theorem flat_get {α : Type} (k : Nat) (f : α → List Value) (hf : ∀ a, (f a).length = k) : ∀ (l : List α) (i j : Nat) (a : α), l[i]? = some a → j < k → (l.flatMap f)[k * i + j]? = (f a)[j]?
  | [], _, _, _, h, _ => by simp at h
  | a :: l, 0, j, b, h, hj => by
    simp at h
    subst h
    rw [List.flatMap_cons, List.getElem?_append_left (by rw [hf]; omega)]
    simp
  | a :: l, i + 1, j, b, h, hj => by
    rw [List.flatMap_cons, List.getElem?_append_right (by rw [hf, Nat.mul_succ]; omega), hf, show k * (i + 1) + j - k = k * i + j by rw [Nat.mul_succ]; omega]
    exact flat_get k f hf l i j b (by simpa using h) hj
theorem flat_len {α : Type} (k : Nat) (f : α → List Value) (hf : ∀ a, (f a).length = k) (l : List α) : (l.flatMap f).length = l.length * k := by
  induction l with
  | nil => simp
  | cons a l ih => rw [List.flatMap_cons, List.length_append, ih, hf, List.length_cons, Nat.succ_mul, Nat.add_comm]
/-- One cell of the flat row set anew: one element set anew. -/
theorem flat_set {α : Type} (k : Nat) (f : α → List Value) (hf : ∀ a, (f a).length = k) : ∀ (l : List α) (i j : Nat) (a b : α) (u : Value), l[i]? = some a → j < k → (f a).set j u = f b → (l.flatMap f).set (k * i + j) u = (l.set i b).flatMap f
  | [], _, _, _, _, _, h, _, _ => by simp at h
  | a :: l, 0, j, a', b, u, h, hj, hs => by
    simp at h
    subst h
    rw [List.flatMap_cons, List.set_append_left _ _ (by rw [hf]; omega)]
    simp [hs]
  | a :: l, i + 1, j, a', b, u, h, hj, hs => by
    rw [List.flatMap_cons, List.set_append_right _ _ (by rw [hf, Nat.mul_succ]; omega), hf, show k * (i + 1) + j - k = k * i + j by rw [Nat.mul_succ]; omega]
    rw [flat_set k f hf l i j a' b u (by simpa using h) hj hs]
    simp
end Go.Proofs.YtaadlhcpgjibeaaDoor
