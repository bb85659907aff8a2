/-
  Lists of lists of whole numbers: how they lie in memory.
-/
import Derived.Test.YtcbenpnnjkgkdaaNumM
namespace Go.Proofs.Ytcbenpnnjkgkdaa
open Go.ChangeShapes Go.WideShapes Go.ChangeAt Go.RowKit

abbrev NumsE := Value × List NumD
def numsC (r : NumsE) : List Value := [r.1]
theorem numsC_len (r : NumsE) : (numsC r).length = 1 := rfl
def nums0 : NumsE := (.slice none 0 0, [])
def NumsAt (w : World) (v : Value) (rs : List NumsE) : Prop := RowAt w v rs.length (rs.flatMap numsC) ∧ ∀ r ∈ rs, NumAt w r.1 r.2
theorem NumsAt.kept {w w' : World} {v : Value} {rs : List NumsE} (h : NumsAt w v rs) (k : Kept w w') : NumsAt w' v rs := ⟨RowAt.kept h.1 k, fun r hr => (h.2 r hr).kept k⟩
theorem nums_get {w : World} {v : Value} {rs : List NumsE} (h : NumsAt w v rs) {i : Nat} {r : NumsE} (hr : rs[i]? = some r) :
    ∃ b o cap, v = .slice (some ⟨b, o, none⟩) rs.length cap ∧ w.cell? ⟨b, o + i, none⟩ = some r.1 ∧ NumAt w r.1 r.2 := by
  obtain ⟨b, o, cap, e, hc⟩ := row_get 1 numsC numsC_len (by omega) h.1 hr
  exact ⟨b, o, cap, e, by have := hc 0 _ rfl; simpa using this, h.2 r (List.mem_of_getElem? hr)⟩
/-- A row of its own, whose lists have blocks of their own. -/
structure NumsO (w : World) (lo hi : Nat) (v : Value) (rs : List NumsE) : Prop where
  row : RowO w lo hi 35 1 v rs.length (rs.flatMap numsC)
  inn : ∀ (i : Nat) (r : NumsE), rs[i]? = some r → NumO w lo hi r.1 r.2
  apart : ∀ (i j : Nat) (r r' : NumsE), i ≠ j → rs[i]? = some r → rs[j]? = some r' → Ap r.1 r'.1
theorem NumsO.but {w w' : World} {lo hi lo' hi' : Nat} {v : Value} {rs : List NumsE} (h : NumsO w lo hi v rs) (k : But lo' hi' w w') (ho : hi ≤ lo' ∨ hi' ≤ lo) : NumsO w' lo hi v rs := ⟨RowO.but h.row k ho, fun i r hr => (h.inn i r hr).but k ho, h.apart⟩
theorem NumsO.kept {w w' : World} {lo hi : Nat} {v : Value} {rs : List NumsE} (h : NumsO w lo hi v rs) (k : Kept w w') : NumsO w' lo hi v rs := h.but k (by omega)
theorem NumsO.mono {w : World} {lo hi lo' hi' : Nat} {v : Value} {rs : List NumsE} (h : NumsO w lo hi v rs) (h1 : lo' ≤ lo) (h2 : hi ≤ hi') : NumsO w lo' hi' v rs := ⟨RowO.mono h.row h1 h2, fun i r hr => (h.inn i r hr).mono h1 h2, h.apart⟩
theorem NumsO.low {w : World} {lo hi : Nat} {v : Value} {rs : List NumsE} (h : NumsO w lo hi v rs) : NumsO w lo w.heap.size v rs := ⟨RowO.low h.row, fun i r hr => (h.inn i r hr).low, h.apart⟩
theorem NumsO.at {w : World} {lo hi : Nat} {v : Value} {rs : List NumsE} (h : NumsO w lo hi v rs) : NumsAt w v rs := ⟨own_row h.row.1, fun r hr => by
  obtain ⟨i, hi⟩ := List.mem_iff_getElem?.1 hr
  exact (h.inn i r hi).at⟩
theorem NumsO.form {w : World} {lo hi : Nat} {v : Value} {rs : List NumsE} (h : NumsO w lo hi v rs) : ∃ ao cap, v = .slice ao rs.length cap := by
  obtain ⟨ao, cap, e, _⟩ := own_form h.row.1
  exact ⟨ao, cap, e⟩
theorem nums_len {ps qs : List NumsE} (h : ps.map Prod.snd = qs.map Prod.snd) : ps.length = qs.length := by have := congrArg List.length h; simpa using this
theorem nums_same {ps qs : List NumsE} (h : ps.map Prod.snd = qs.map Prod.snd) {i : Nat} {p q : NumsE} (hp : ps[i]? = some p) (hq : qs[i]? = some q) : p.2 = q.2 := by
  have := congrArg (fun l => l[i]?) h
  simpa [hp, hq] using this

def numsSum (ps : List NumsE) : Nat := (ps.map fun p => p.2.length).sum
def numsCost (ps : List NumsE) : Nat := ps.length + numsSum ps
theorem numsSum_snoc (l : List NumsE) (p : NumsE) : numsSum (l ++ [p]) = numsSum l + p.2.length := by simp [numsSum]
theorem numsSum_take (l : List NumsE) (k : Nat) : numsSum (l.take k) ≤ numsSum l := by
  have h := congrArg numsSum (List.take_append_drop k l)
  have h2 : ∀ a b : List NumsE, numsSum (a ++ b) = numsSum a + numsSum b := fun a b => by simp [numsSum]
  rw [h2] at h
  omega
theorem numsSum_le {l : List NumsE} {k : Nat} {p : NumsE} (h : l[k]? = some p) : p.2.length ≤ numsSum l := by
  have := numsSum_take l (k + 1)
  rw [take_snoc h, numsSum_snoc] at this
  omega
def NumsFit (ps : List NumsE) : Prop := ∀ p ∈ ps, p.2.length ≤ 9223372036854775807


end Go.Proofs.Ytcbenpnnjkgkdaa
