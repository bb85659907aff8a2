/-
  A region that draws its order, whose operations read what was there before it and whose callees leave what was there as it was: walked once. Free of the program.
-/
import Derived.Test.YtaadlhcpgjibeaaDoorBase
import Derived.Deep.QuietTactic
import Derived.BigQuiet
namespace Go.Proofs.YtaadlhcpgjibeaaDoor
open Go.ChangeShapes Go.WideShapes Go.ChangeAt Go.RowKit

/-- A world in which all blocks of W are as they were. -/
structure KW (W : World) where
  w : World
  k : Kept W w
theorem Kept.cell_eq {w w' : World} (h : Kept w w') (b o : Nat) (hb : b < w.heap.size) : w'.cell? ⟨b, o, none⟩ = w.cell? ⟨b, o, none⟩ := World.cell?_of_block (h.block b hb (by omega))
theorem Kept.frozen_eq {w w' : World} (h : Kept w w') (b o : Nat) (hb : b < w.heap.size) : w'.frozen? ⟨b, o, none⟩ = w.frozen? ⟨b, o, none⟩ := by
  have := h.block b hb (by omega)
  simp [World.frozen?, this]
theorem kw_some (W : World) : Nonempty (KW W) := ⟨⟨W, But.refl _ _ W⟩⟩
theorem KW.cell_eq (W : World) (x : KW W) (b o : Nat) (hb : b < W.heap.size) : x.w.cell? ⟨b, o, none⟩ = W.cell? ⟨b, o, none⟩ := x.k.cell_eq b o hb
theorem wp_region_kept {P : Program} {id : Nat} {Q : Exit → Act → World → Prop} {a : Act} {w : World} {l : List Oper} (hm : P.follows .mixedOrders = true) (hB : Region.lexB .any l.toArray = true)
    (h : wpQuiet P l.toArray (fun w' => ∃ x : KW w, w' = x.w) (fun a' => ∀ w', (∃ x : KW w, w' = x.w) → Q .normal a' w') l a) : (Code.region id l.toArray true).wp P Q a w :=
  wp_region_quiet (C := fun w' => ∃ x : KW w, w' = x.w) hm hB ⟨⟨w.drew, (But.refl _ _ w).drew⟩, rfl⟩ (by simpa using h)
theorem kw_call {P : Program} {f : FuncId} {args : Array Value} {W : World} {x : KW W} {v : Value} (h : Calls P f args x.w fun e w' => e = .returned v ∧ Kept x.w w') : Calls P f args x.w fun e w'' => e = .returned v ∧ ∃ y : KW W, w'' = y.w :=
  h.mono fun _ _ ⟨he, hk⟩ => ⟨he, ⟨_, x.k.trans hk⟩, rfl⟩
theorem kw_same {P : Program} {f : FuncId} {args : Array Value} {W : World} {x : KW W} {v : Value} (h : Calls P f args x.w fun e w' => e = .returned v ∧ w' = x.w) : Calls P f args x.w fun e w'' => e = .returned v ∧ ∃ y : KW W, w'' = y.w :=
  h.mono fun _ _ ⟨he, hk⟩ => ⟨he, x, hk⟩
theorem calls_bool {P : Program} {f : FuncId} {args : Array Value} {w : World} {b c : Bool} (h : b = c) {R : World → Prop} (k : Calls P f args w fun e w' => e = .returned (.bool b) ∧ R w') : Calls P f args w fun e w' => e = .returned (.bool c) ∧ R w' := by
  rw [← h]
  exact k
theorem quiet_val {P : Program} {C : World → Prop} {K : Act → Prop} {a : Act} {o : Oper} (v : Value) (h : ∀ w, C w → (execOp a.eval o).run P w = .ok (.value v) w) (hk : K (a.put o.dst v)) : o.quiet P a C K :=
  ⟨v, fun w hw => by unfold Oper.quietAt; rw [h w hw]; exact ⟨rfl, rfl⟩, hk⟩
end Go.Proofs.YtaadlhcpgjibeaaDoor
