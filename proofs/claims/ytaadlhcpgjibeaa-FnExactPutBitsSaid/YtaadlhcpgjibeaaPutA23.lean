/-
  Own blocks of bytes.
-/
import Derived.Test.YtaadlhcpgjibeaaPutP23
import Derived.Test.YtaadlhcpgjibeaaApp23
namespace Go.Proofs.Ytaadlhcpgjibeaa
open Go.ChangeShapes Go.WideShapes Go.ChangeAt Go.RowKit

set_option maxRecDepth 100000
set_option linter.unusedVariables false
set_option linter.unusedSimpArgs false

theorem loc_own {w w' : World} {b : Nat} {cs : List Value} {s : Value} (h : Loc w b cs) (k : But (blo s) (bhi s) w w') (hs : ∀ g, s.ownBlock = some g → g ≠ b) : Loc w' b cs := h.but k (by
  unfold blo bhi
  cases hv : s.ownBlock with
  | none => simp
  | some g => have := hs g hv; simp; omega)
theorem but_one {w a : World} {b i : Nat} (h : But b (b + 1) w a) (v : Value) : But b (b + 1) w (a.setCell ⟨b, i, none⟩ v) := h.setCell (Nat.le_refl b) (Nat.lt_succ_self b) v
theorem but_in {w a : World} {lo hi b i : Nat} (h : But lo hi w a) (h1 : lo ≤ b) (h2 : b < hi) (v : Value) : But lo hi w (a.setCell ⟨b, i, none⟩ v) := h.setCell h1 h2 v
theorem but_own {lo hi : Nat} {w a b : World} {s : Value} (h : But lo hi w a) (k : But (blo s) (bhi s) a b) (hs : ∀ g, s.ownBlock = some g → (lo ≤ g ∧ g < hi) ∨ w.heap.size ≤ g) : But lo hi w b := by
  refine ⟨k.os.trans h.os, k.out.trans h.out, Nat.le_trans h.size k.size, fun i hi' ho => (k.block i (Nat.lt_of_lt_of_le hi' h.size) ?_).trans (h.block i hi' ho)⟩
  unfold blo bhi
  cases hv : s.ownBlock with
  | none => simp
  | some g => have := hs g hv; simp; omega
theorem but_put {lo hi g i : Nat} {w a : World} (h : But lo hi w a) (v : Value) (hs : (lo ≤ g ∧ g < hi) ∨ w.heap.size ≤ g) : But lo hi w (a.setCell ⟨g, i, none⟩ v) := by
  rcases hs with hs | hs
  · exact h.setCell hs.1 hs.2 v
  · exact h.setNew hs v
theorem own_away {w w' : World} {lo hi lo' hi' : Nat} {s : Value} {l : List UInt8} (h : BytO w lo hi s l) (k : But lo' hi' w w') (hs : ∀ g, s.ownBlock = some g → g < lo' ∨ hi' ≤ g) : BytO w' lo hi s l := ⟨own_but h.1 k hs, h.2⟩
theorem own_of {w : World} {lo hi n cap : Nat} {ao : Option Addr} {l : List UInt8} {x : UInt8} {i : Nat} (h : BytO w lo hi (.slice ao n cap) l) (hx : l[i]? = some x) : ∃ g, ao = some ⟨g, 0, none⟩ ∧ (Value.slice ao n cap).ownBlock = some g := by
  rcases h.1.2 with ⟨hf, h0⟩ | ⟨g, c2, cur, hf, _⟩
  · have e : l = [] := by
      have h1 := hf
      cases l with
      | nil => rfl
      | cons a t => simp at h0
    rw [e] at hx
    simp at hx
  · cases hf
    exact ⟨g, rfl, rfl⟩

end Go.Proofs.Ytaadlhcpgjibeaa
