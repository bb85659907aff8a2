/-
  How a turn that comes in is opened and shut: two floats, as plain bits.
-/
import Derived.Test.YthbhoppmdcfgeaaRows
import Derived.Test.YthbhoppmdcfgeaaLeaf
import Derived.ChangeSame
namespace Go.Proofs.Ythbhoppmdcfgeaa
open Go.ChangeShapes Go.WideShapes Go.ChangeAt Go.RowKit

section
variable {H : Type} {enc : TypeId × Value → H} {P : Program} {w : World} {base : Nat} {spare : Nat → Bool} {held : Bool}
theorem trod_float {t : TypeId} {k : FloatKind} {fuel : Nat} {cs : List Value} {x : DataW H × List MemPlace} (ht : P.underlying t = some (.float k)) (h : DataW.trod enc P w base spare held fuel t cs = some x) :
    ∃ b, cs = [.float k b] ∧ x = (.lit (.float k b), []) ∧ (Lit.float k b).wf = true := by
  cases fuel with
  | zero => simp [DataW.trod] at h
  | succ n =>
    unfold DataW.trod at h
    rw [ht] at h
    split at h <;> simp_all
end
theorem wf64 {b : Nat} (h : (Lit.float .f64 b).wf = true) : b < 18446744073709551616 := by
  simpa [Lit.wf] using h
theorem cells25 : Try.prog.cellsOf 25 = 1 := by kernel_rfl
theorem cells47 : Try.prog.cellsOf 47 = 2 := by kernel_rfl
theorem open_turn {H : Type} {enc : TypeId × Value → H} {w : World} {base b0 : Nat} {spare : Nat → Bool} {held : Bool} {r : Reach} {v : Value} {d : DataW H} {ps : List MemPlace}
    (hval : Value.okWide Try.prog w r b0 47 v) (hd : DataW.Trod enc Try.prog w base spare held 47 v d ps) :
    ∃ a b, v = .agg #[.float .f64 a, .float .f64 b] ∧ d = .agg [.lit (.float .f64 a), .lit (.float .f64 b)] ∧ ps = [] ∧ (Lit.float .f64 a).wf = true ∧ (Lit.float .f64 b).wf = true := by
  obtain ⟨cs, rfl, hsz⟩ := okWide_struct Try.underlying47 hval
  rw [cells47] at hsz
  obtain ⟨l⟩ := cs
  match l, hsz with
  | [c0, c1], _ =>
  obtain ⟨fuel, hf⟩ := hd
  obtain ⟨y0, y1, m, hx, _, hy0, hy1⟩ := trod_struct2 Try.underlying47 hf
  obtain ⟨a, e0, rfl, wa⟩ := trod_float Try.underlying25 hy0
  obtain ⟨b, e1, rfl, wb⟩ := trod_float Try.underlying25 hy1
  simp [Value.cells, cells25] at e0 e1
  subst e0 e1
  simp only [Prod.mk.injEq] at hx
  obtain ⟨rfl, rfl⟩ := hx
  exact ⟨a, b, rfl, rfl, rfl, wa, wb⟩
theorem shut_turn {H : Type} {enc : TypeId × Value → H} {w : World} {base : Nat} {spare : Nat → Bool} {held : Bool} {a b : Nat} (wa : (Lit.float .f64 a).wf = true) (wb : (Lit.float .f64 b).wf = true) :
    DataW.Trod enc Try.prog w base spare held 47 (.agg #[.float .f64 a, .float .f64 b]) (.agg [.lit (.float .f64 a), .lit (.float .f64 b)]) [] := ⟨2, by
  have f0 : DataW.trod enc Try.prog w base spare held 1 25 [.float .f64 a] = some (.lit (.float .f64 a), []) := by simp [DataW.trod, Try.underlying25, wa]
  have f1 : DataW.trod enc Try.prog w base spare held 1 25 [.float .f64 b] = some (.lit (.float .f64 b), []) := by simp [DataW.trod, Try.underlying25, wb]
  have := trod_struct2_mk (enc := enc) (w := w) (base := base) (spare := spare) (held := held) (n := 1) (cs := [.float .f64 a, .float .f64 b]) Try.underlying47 (by simp [cells47]) (by simpa [cells25] using f0) (by simpa [cells25] using f1)
  simpa [Value.cells] using this⟩
end Go.Proofs.Ythbhoppmdcfgeaa
