/-
  Frames of regions that draw their order.
-/
import Derived.Test.YtaofilinejanjaaRoom818
namespace Go.Proofs.Ytaofilinejanjaa
open Go.ChangeShapes Go.WideShapes Go.ChangeAt Go.RowKit

set_option maxRecDepth 100000
set_option linter.unusedVariables false

theorem act_eq {a b : Act} (h1 : ∀ i : Nat, a.tmps[i]? = b.tmps[i]?) (h2 : a.defers = b.defers) : a = b := by
  obtain ⟨x, y⟩ := a
  obtain ⟨x', y'⟩ := b
  have : x = x' := Array.ext_getElem? h1
  subst this
  simp only at h2
  subst h2
  rfl
theorem ST.act {S : World → Prop} {a0 : Act} {w0 : World} {lo bb : Nat} {x : Fin 3 → Int} {L : Fin 3 → List Int} {cur : Fin 3 → Value} {g : Fin 3 → Nat} {a : Act} {w : World} (h : ST S a0 w0 lo bb x L (fun _ => 2) cur g a w) (hsz : a0.tmps.size = 91) :
    ∃ b0 b1 b2, a = { tmps := (((((a0.tmps.setIfInBounds 28 b0).setIfInBounds 29 (cur 0)).setIfInBounds 33 b1).setIfInBounds 34 (cur 1)).setIfInBounds 38 b2).setIfInBounds 39 (cur 2), defers := a0.defers } := by
  have hsz2 : a.tmps.size = 91 := h.siz.trans hsz
  refine ⟨a.tmps.getD 28 undef, a.tmps.getD 33 undef, a.tmps.getD 38 undef, act_eq (fun i => ?_) h.dfs⟩
  have d0 : a.tmps[29]? = some (cur 0) := h.dn 0 rfl
  have d1 : a.tmps[34]? = some (cur 1) := h.dn 1 rfl
  have d2 : a.tmps[39]? = some (cur 2) := h.dn 2 rfl
  simp only [Array.getElem?_setIfInBounds, Array.size_setIfInBounds, hsz]
  by_cases i0 : i = 39
  · subst i0; simpa using d2
  by_cases i1 : i = 38
  · subst i1; simp [hsz2]
  by_cases i2 : i = 34
  · subst i2; simpa using d1
  by_cases i3 : i = 33
  · subst i3; simp [hsz2]
  by_cases i4 : i = 29
  · subst i4; simpa using d0
  by_cases i5 : i = 28
  · subst i5; simp [hsz2]
  have := h.oth i (fun c => by
    match c with
    | 0 => exact ⟨i5, i4⟩
    | 1 => exact ⟨i3, i2⟩
    | 2 => exact ⟨i1, i0⟩)
  rw [this, if_neg (fun e => i0 e.symm), if_neg (fun e => i1 e.symm), if_neg (fun e => i2 e.symm), if_neg (fun e => i3 e.symm), if_neg (fun e => i4 e.symm), if_neg (fun e => i5 e.symm)]
theorem S8.act {a0 : Act} {w1 : World} {P pad lay V1 V2 : Value} {B : Nat} {a : Act} {w : World} (h : S8 a0 w1 P pad lay V1 V2 2 1 B a w) (hsz : a0.tmps.size = 91) :
    a = { tmps := ((a0.tmps.setIfInBounds 55 V1).setIfInBounds 57 V2).setIfInBounds 12 (.pointer (some ⟨B, 0, none⟩)), defers := a0.defers } := by
  refine act_eq (fun i => ?_) h.dfs
  have d1 := h.r1 (by omega)
  have d2 := h.r2 (by omega)
  have d3 := (h.rb rfl).1
  simp only [Array.getElem?_setIfInBounds, Array.size_setIfInBounds, hsz]
  by_cases i0 : i = 12
  · subst i0; simpa using d3
  by_cases i1 : i = 57
  · subst i1; simpa using d2
  by_cases i2 : i = 55
  · subst i2; simpa using d1
  rw [h.oth i i2 i1 i0, if_neg (fun e => i0 e.symm), if_neg (fun e => i1 e.symm), if_neg (fun e => i2 e.symm)]
theorem three0 {ops : Array Oper} {Q : Exit → Act → World → Prop} {S : World → Prop} {a0 : Act} {w0 : World} {lo bb : Nat} {x : Fin 3 → Int} {L : Fin 3 → List Int} {cur : Fin 3 → Value} (H : Six ops) (hsz : a0.tmps.size = 91) (hlo : lo ≤ w0.heap.size)
    (hSk : ∀ w w', Kept w w' → S w → S w') (hSb : ∀ w w' lo hi, But lo hi w w' → (bb < lo ∨ hi ≤ bb) → S w → S w') (hL : ∀ c, (L c).length ≤ 1000)
    (row : ∀ c, NumO w0 lo w0.heap.size (cur c) (L c)) (ap : ∀ c d, c ≠ d → Ap (cur c) (cur d)) (nb : ∀ c, (cur c).ownBlock ≠ some bb) (bbl : bb < w0.heap.size)
    (src : ∀ c, a0.tmps[sS c]? = some (cur c)) (ind : ∀ c, a0.tmps[sX c]? = some (.int .i64 (x c))) (hS : S w0)
    (fin : ∀ cur g a w, ST S a0 w0 lo bb x L (fun _ => 2) cur g a w → wpAnyZ Try.prog .any ops Q S 99 3 (lst fun _ => 2) a w) : wpAnyZ Try.prog .any ops Q S 99 9 (lst fun _ => 0) a0 w0 :=
  three H hsz hlo hSk hSb hL fin 6 (fun _ => 0) cur (fun _ => 0) a0 w0 rfl ⟨fun c => by simp, ⟨fun e => by simp at e, fun e => by simp at e⟩, fun c => by simpa using row c, ap, nb, bbl, fun c _ => src c, ind, fun c h => by simp at h, fun c h => by simp at h, fun i _ => rfl, rfl, rfl, hS, But.refl _ _ _⟩
theorem six_of {ops : Array Oper} (h : readyB ops = true) {o2 o7 o12 o3 o8 o13 : Oper} (e2 : ops[2]? = some o2) (e7 : ops[7]? = some o7) (e12 : ops[12]? = some o12) (e3 : ops[3]? = some o3) (e8 : ops[8]? = some o8) (e13 : ops[13]? = some o13)
    (b2 : o2.guard = none ∧ o2.dst = some 28 ∧ o2.op = .buildSlice 29 1 #[(0, .tmp 27)]) (b7 : o7.guard = none ∧ o7.dst = some 33 ∧ o7.op = .buildSlice 29 1 #[(0, .tmp 32)]) (b12 : o12.guard = none ∧ o12.dst = some 38 ∧ o12.op = .buildSlice 29 1 #[(0, .tmp 37)])
    (a3 : o3.guard = none ∧ o3.dst = some 29 ∧ o3.op = .call { callee := .builtin .append, args := #[.tmp 26, .tmp 28], argTypes := #[29, 29] }) (a8 : o8.guard = none ∧ o8.dst = some 34 ∧ o8.op = .call { callee := .builtin .append, args := #[.tmp 30, .tmp 33], argTypes := #[29, 29] })
    (a13 : o13.guard = none ∧ o13.dst = some 39 ∧ o13.op = .call { callee := .builtin .append, args := #[.tmp 35, .tmp 38], argTypes := #[29, 29] }) : Six ops :=
  ⟨h, fun c => by
    match c with
    | 0 => exact ⟨o2, e2, b2⟩
    | 1 => exact ⟨o7, e7, b7⟩
    | 2 => exact ⟨o12, e12, b12⟩, fun c => by
    match c with
    | 0 => exact ⟨o3, e3, a3⟩
    | 1 => exact ⟨o8, e8, a8⟩
    | 2 => exact ⟨o13, e13, a13⟩⟩
theorem room80 {ops : Array Oper} {Q : Exit → Act → World → Prop} {a0 : Act} {w1 w0 : World} {P pad lay V1 V2 : Value} (H : Ops8 ops) (hsz : a0.tmps.size = 91) (hk : Kept w1 w0)
    (c1 : ∀ W, Kept w1 W → Calls Try.prog 51 #[P, pad] W fun e w' => e = .returned V1 ∧ Kept W w') (c2 : ∀ W, Calls Try.prog 50 #[V1, lay] W fun e w' => e = .returned V2 ∧ Kept W w')
    (s49 : a0.tmps[49]? = some P) (s54 : a0.tmps[54]? = some pad) (s56 : a0.tmps[56]? = some lay)
    (fin : ∀ B a w, S8 a0 w1 P pad lay V1 V2 2 1 B a w → wpAnyZ Try.prog .any ops Q (fun W => Kept w1 W) 99 1 (lst8 2 1) a w) : wpAnyZ Try.prog .any ops Q (fun W => Kept w1 W) 99 4 (lst8 0 0) a0 w0 :=
  room8 H hsz c1 c2 fin 3 0 0 0 a0 w0 rfl ⟨⟨by omega, by omega⟩, hk, s49, s54, s56, fun h => by omega, fun h => by omega, fun h => by omega, fun i _ _ _ => rfl, rfl, rfl⟩
theorem ops8_of {ops : Array Oper} (h : readyB8 ops = true) {o9 o11 o12 : Oper} {t9 t11 : Array TypeId} (e9 : ops[9]? = some o9) (e11 : ops[11]? = some o11) (e12 : ops[12]? = some o12)
    (b9 : o9.guard = none ∧ o9.dst = some 55 ∧ o9.op = .call { callee := .value (.func 51), args := #[.tmp 49, .tmp 54], argTypes := t9 }) (b11 : o11.guard = none ∧ o11.dst = some 57 ∧ o11.op = .call { callee := .value (.func 50), args := #[.tmp 55, .tmp 56], argTypes := t11 })
    (b12 : o12.guard = none ∧ o12.dst = some 12 ∧ o12.op = .alloc 61) : Ops8 ops := ⟨h, ⟨o9, t9, e9, b9⟩, ⟨o11, t11, e11, b11⟩, ⟨o12, e12, b12⟩⟩
theorem listedZ {P : Program} {ops : Array Oper} {Q : Exit → Act → World → Prop} {S : World → Prop} {z fuel : Nat} {listed l' : Array Bool} {a : Act} {w : World} (e : listed = l') (h : wpAnyZ P .any ops Q S z fuel l' a w) : wpAnyZ P .any ops Q S z fuel listed a w := e ▸ h
def vv3 (a b c : Value) : Fin 3 → Value
  | 0 => a
  | 1 => b
  | 2 => c
def xx3 (a b c : Int) : Fin 3 → Int
  | 0 => a
  | 1 => b
  | 2 => c
def ll3 (a b c : List Int) : Fin 3 → List Int
  | 0 => a
  | 1 => b
  | 2 => c
theorem forgetC {P : Program} {c : Go.Code} {Q : Exit → Act → World → Prop} {a : Act} {W : World} (F : World → Prop) (hF : F W) (h : ∀ W', F W' → Code.wp P c Q a W') : Code.wp P c Q a W := h W hF
theorem forgetE {K : Exit → Act → World → Prop} {x : Exit} {a : Act} {W : World} (F : World → Prop) (hF : F W) (h : ∀ W', F W' → K x a W') : K x a W := h W hF

end Go.Proofs.Ytaofilinejanjaa
