/-
  Functions that only draw and lay memory.
-/
import Derived.Test.YthpjjpgahmkpdaaQuiet
import Derived.Test.YthpjjpgahmkpdaaSplit10
import Derived.Sort.Grow
namespace Go.Proofs.Ythpjjpgahmkpdaa
open Go.ChangeShapes Go.WideShapes Go.ChangeAt Go.RowKit

set_option maxRecDepth 100000
set_option linter.unusedVariables false
set_option linter.unusedSimpArgs false
open Go.Sort
/-- Draws, and blocks laid behind: nothing else. -/
def Gr (W w' : World) : Prop := ∃ q os', w' = grow (W.drewN q) os'
theorem Gr.refl (W : World) : Gr W W := ⟨0, #[], by simp [grow, World.drewN]⟩
theorem Gr.trans {a b c : World} (h : Gr a b) (k : Gr b c) : Gr a c := by
  obtain ⟨q, os, rfl⟩ := h
  obtain ⟨q', os', rfl⟩ := k
  exact ⟨q + q', os ++ os', by simp [grow, World.drewN, Array.append_assoc, Nat.add_assoc]⟩
theorem Gr.alloc {a b : World} (h : Gr a b) (o : Obj) : Gr a (b.alloc o) := h.trans ⟨0, #[o], by rw [alloc_eq_grow]; simp [grow, World.drewN]⟩
theorem Gr.drew {a b : World} (h : Gr a b) : Gr a b.drew := h.trans ⟨1, #[], by rw [grow_empty]; rfl⟩
theorem Gr.drewN {a b : World} (h : Gr a b) (n : Nat) : Gr a (b.drewN n) := h.trans ⟨n, #[], by rw [grow_empty]⟩
theorem Gr.kept {a b : World} (h : Gr a b) : Kept a b := by
  obtain ⟨q, os, rfl⟩ := h
  refine ⟨rfl, rfl, by simp [grow, World.drewN], fun i hi _ => ?_⟩
  simp [grow, World.drewN]
  rw [Array.getElem?_append_left hi]
structure GW (W : World) where
  w : World
  k : Gr W w
instance (W : World) : Nonempty (GW W) := ⟨⟨W, Gr.refl W⟩⟩
theorem GW.cell_eq (W : World) (x : GW W) (b o : Nat) (hb : b < W.heap.size) : x.w.cell? ⟨b, o, none⟩ = W.cell? ⟨b, o, none⟩ := x.k.kept.cell_eq b o hb
theorem wp_region_gr {P : Program} {id : Nat} {Q : Exit → Act → World → Prop} {a : Act} {w : World} {l : List Oper} (hm : P.follows .mixedOrders = true) (hB : Region.lexB .any l.toArray = true)
    (h : wpQuiet P l.toArray (fun w' => ∃ x : GW w, w' = x.w) (fun a' => ∀ w', (∃ x : GW w, w' = x.w) → Q .normal a' w') l a) : (Code.region id l.toArray true).wp P Q a w :=
  wp_region_quiet (C := fun w' => ∃ x : GW w, w' = x.w) hm hB ⟨⟨w.drew, (Gr.refl w).drew⟩, rfl⟩ (by simpa using h)
theorem gw_call {P : Program} {f : FuncId} {args : Array Value} {W : World} {x : GW W} {v : Value} (h : Calls P f args x.w fun e w' => e = .returned v ∧ Gr x.w w') : Calls P f args x.w fun e w'' => e = .returned v ∧ ∃ y : GW W, w'' = y.w :=
  h.mono fun _ _ ⟨he, hk⟩ => ⟨he, ⟨_, x.k.trans hk⟩, rfl⟩
theorem gw_same {P : Program} {f : FuncId} {args : Array Value} {W : World} {x : GW W} {v : Value} (h : Calls P f args x.w fun e w' => e = .returned v ∧ w' = x.w) : Calls P f args x.w fun e w'' => e = .returned v ∧ ∃ y : GW W, w'' = y.w :=
  h.mono fun _ _ ⟨he, hk⟩ => ⟨he, x, hk⟩

theorem wp_region_gsp {P : Program} {id : Nat} {Q : Exit → Act → World → Prop} {a : Act} {w : World} {l : List Oper} (m d : Nat) (hm : P.follows .mixedOrders = true) (hB : Region.lexB .any l.toArray = true) (hR : splitB l.toArray m d = true) (hml : m ≤ l.length)
    (h : wpQuiet P l.toArray (fun w' => ∃ x : GW w, w' = x.w) (fun a' => ∀ w', (∃ x : GW w, w' = x.w) → wpList P l.toArray Q (l.drop m) a' w') (l.take m) a) : (Code.region id l.toArray true).wp P Q a w :=
  wp_region_split m d hm hB hR hml ⟨⟨w.drew, (Gr.refl w).drew⟩, rfl⟩ h

end Go.Proofs.Ythpjjpgahmkpdaa
