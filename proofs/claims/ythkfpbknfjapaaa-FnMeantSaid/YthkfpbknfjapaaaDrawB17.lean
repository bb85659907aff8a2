/-
  What a drawing of binds holds.
-/
import Derived.Test.YthkfpbknfjapaaaDrawC17
import Derived.Test.YthkfpbknfjapaaaDrawN17
import Derived.Test.YthkfpbknfjapaaaSReb17
import Derived.Test.YthkfpbknfjapaaaBApp17
import Derived.Test.YthkfpbknfjapaaaRebP17
namespace Go.Proofs.Ythkfpbknfjapaaa
open Go.ChangeShapes Go.WideShapes Go.ChangeAt Go.RowKit

set_option maxRecDepth 100000
set_option linter.unusedVariables false

def SmallB (l : List BindD) : Prop := ∀ d ∈ l, d.1.size ≤ 300 ∧ d.2.length ≤ 5
theorem small_cost {l : List BindD} (h : SmallB l) (hl : l.length ≤ 30) : bindsCost l ≤ 1048576 := by
  have : ∀ q : List BindD, SmallB q → (q.map bindsOne).sum ≤ q.length * 305 := fun q => by
    induction q with
    | nil => intro _; simp
    | cons a q ih =>
      intro hq
      have h1 := hq a (by simp)
      have h2 := ih (fun d hd => hq d (by simp [hd]))
      simp only [List.map_cons, List.sum_cons, List.length_cons]
      unfold bindsOne at *
      omega
  have := this l h
  unfold bindsCost
  omega
theorem small_reb {l : List BindD} {a : ByteArray} {c : List Int} (h : SmallB l) (ha : a.size ≤ 300) (hc : c.length ≤ 5) (hk : (rebA l a c).2.2 = true) : SmallB (rebA l a c).1 ∧ (rebA l a c).1.length ≤ l.length + 1 := by
  rcases Classical.em (RebOk l a c) with hr | hr
  · rw [rebA_yes hr]
    have hs := binds_ris hr.1
    refine ⟨fun d hd => ?_, rebR_len hs a c⟩
    rcases (rebR_mem hs a c d).1 hd with rfl | hd
    · exact ⟨ha, hc⟩
    · exact h d hd.1
  · rw [rebA_no hr] at hk
    cases hk
theorem cap_binds {w : World} {lo hi : Nat} {ao : Option Addr} {n cap : Nat} {l : List BindD} (h : BindsO w lo hi (.slice ao n cap) l) : n ≤ cap ∧ cap ≤ 9223372036854775807 := by
  obtain ⟨ts, h, _⟩ := h
  rcases h.row.1.2 with ⟨hf, _⟩ | ⟨g, c2, cur, hf, _, _, hle, h2, _⟩
  · cases hf; omega
  · cases hf
    unfold maxLen at h2
    omega
/-- What the drawing of binds holds. -/
structure DrB (w wr : World) (b : Nat) (K : Int) (x : Value) (l : List BindD) : Prop where
  cur : CurOk wr b K
  rx : BindsO wr w.heap.size wr.heap.size x l
  but : But b (b + 1) w wr
  lo : b < w.heap.size
  small : SmallB l
theorem DrB.sz {w wr : World} {b : Nat} {K : Int} {x : Value} {l : List BindD} (h : DrB w wr b K x l) : w.heap.size ≤ wr.heap.size := h.but.size
theorem DrB.le {w wr : World} {b : Nat} {K K' : Int} {x : Value} {l : List BindD} (h : DrB w wr b K x l) (hk : K ≤ K') : DrB w wr b K' x l := ⟨h.cur.le hk, h.rx, h.but, h.lo, h.small⟩
theorem DrB.draw {w wr w' : World} {b : Nat} {K K' : Int} {x : Value} {l : List BindD} (h : DrB w wr b K x l) (g : But b (b + 1) wr w') (hC : CurOk w' b K') : DrB w w' b K' x l := by
  have := h.lo
  exact ⟨hC, (h.rx.but g (.inr (by omega))).low, h.but.trans g, h.lo, h.small⟩
theorem DrB.kept {w wr w' : World} {b : Nat} {K : Int} {x : Value} {l : List BindD} (h : DrB w wr b K x l) (g : Kept wr w') : DrB w w' b K x l := h.draw (But.of g) (h.cur.kept g)
theorem DrB.new {w wr w' : World} {b : Nat} {K : Int} {x v : Value} {l l' : List BindD} (h : DrB w wr b K x l) (g : Kept wr w') (o : BindsO w' wr.heap.size w'.heap.size v l') (hs : SmallB l') : DrB w w' b K v l' :=
  ⟨h.cur.kept g, o.mono h.sz (Nat.le_refl _), h.but.trans (But.of g), h.lo, hs⟩

end Go.Proofs.Ythkfpbknfjapaaa
