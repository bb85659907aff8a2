/-
  Values that move: free of the program.
-/
import Derived.Test.YtklgjhemcofhhaaDoorBinP22
import Derived.Test.YtklgjhemcofhhaaDoorLeafC22
namespace Go.Proofs.YtklgjhemcofhhaaDoor
open Go.ChangeShapes Go.WideShapes Go.ChangeAt Go.RowKit

set_option maxRecDepth 100000
set_option linter.unusedVariables false
set_option linter.unusedSimpArgs false

/-- The place of a name in values, or -1. -/
def atI (l : List ValD) (s : ByteArray) : Int := match l.findIdx? (fun d => d.1.toList == s.toList) with
  | some k => (k : Int)
  | none => -1
theorem at_hit {l : List ValD} {s : ByteArray} {k : Nat} {d : ValD} (h0 : ∀ (j : Nat) (q : ValD), j < k → l[j]? = some q → (q.1.toList == s.toList) = false) (hd : l[k]? = some d) (h1 : (d.1.toList == s.toList) = true) : atI l s = k := by
  obtain ⟨hk, he⟩ := List.getElem?_eq_some_iff.1 hd
  have : l.findIdx? (fun d => d.1.toList == s.toList) = some k := by
    rw [List.findIdx?_eq_some_iff_getElem]
    refine ⟨hk, by rw [he]; exact h1, fun j hj => ?_⟩
    have := h0 j l[j] hj (List.getElem?_eq_getElem (by omega))
    simpa using this
  unfold atI
  rw [this]
theorem at_none {l : List ValD} {s : ByteArray} (h0 : ∀ (j : Nat) (q : ValD), l[j]? = some q → (q.1.toList == s.toList) = false) : atI l s = -1 := by
  have : l.findIdx? (fun d => d.1.toList == s.toList) = none := by
    rw [List.findIdx?_eq_none_iff]
    intro q hq
    obtain ⟨j, hj⟩ := List.mem_iff_getElem?.1 hq
    exact h0 j q hj
  unfold atI
  rw [this]
theorem at_cases (l : List ValD) (s : ByteArray) : (atI l s = -1 ∧ ∀ (j : Nat) (q : ValD), l[j]? = some q → (q.1.toList == s.toList) = false) ∨ ∃ (k : Nat) (d : ValD), atI l s = k ∧ l[k]? = some d ∧ (d.1.toList == s.toList) = true := by
  unfold atI
  cases h : l.findIdx? (fun d => d.1.toList == s.toList) with
  | none =>
    rw [List.findIdx?_eq_none_iff] at h
    exact .inl ⟨rfl, fun j q hq => h q (List.mem_of_getElem? hq)⟩
  | some k =>
    rw [List.findIdx?_eq_some_iff_getElem] at h
    obtain ⟨hk, h1, _⟩ := h
    exact .inr ⟨k, l[k], rfl, List.getElem?_eq_getElem hk, h1⟩
theorem pos_of {l : List ValD} {s : ByteArray} {k : Nat} (hk : k ≤ l.length) (h0 : ∀ (j : Nat) (q : ValD), j < k → l[j]? = some q → Op.bytesLess q.1.toList s.toList = true) (h1 : ∀ q : ValD, l[k]? = some q → Op.bytesLess q.1.toList s.toList = false) : posL s l = k := by
  rcases Nat.lt_trichotomy (posL s l) k with h | h | h
  · exfalso
    obtain ⟨q, hq⟩ : ∃ q, l[posL s l]? = some q := ⟨_, List.getElem?_eq_getElem (by omega)⟩
    have a := tw_end (fun r : ValD => Op.bytesLess r.1.toList s.toList) l q hq
    have b := h0 _ _ h hq
    rw [b] at a
    cases a
  · exact h
  · exfalso
    have hle : posL s l ≤ l.length := tw_len_le _ _
    obtain ⟨q, hq⟩ : ∃ q, l[k]? = some q := ⟨_, List.getElem?_eq_getElem (by omega)⟩
    have a := tw_at (fun r : ValD => Op.bytesLess r.1.toList s.toList) l k q hq h
    have b := h1 _ hq
    rw [b] at a
    cases a
def putL (l : List ValD) (x : ValD) : List ValD := l.take (posL x.1 l) ++ [x] ++ l.drop (posL x.1 l)
def dropL (l : List ValD) (k : Nat) : List ValD := l.take k ++ l.drop (k + 1)
def turnL (kd by' n : Int) : Option Int := if kd = 3 then (if -1000000000000000 ≤ by' * n ∧ by' * n ≤ 1000000000000000 then some (by' * n) else none) else (if -1000000000000000 ≤ n + by' ∧ n + by' ≤ 1000000000000000 then some (n + by') else none)
def empB : ByteArray := ⟨#[]⟩
/-- One change of values. -/
def stepV (l : List ValD) (c : ChgD) : Option (List ValD) :=
  if c.2.1 = 5 then (if atI l c.2.2.1 < 0 then (if (putL l (c.2.2.1, c.2.2.2.2, empB)).length ≤ 30 then some (putL l (c.2.2.1, c.2.2.2.2, empB)) else none) else some l)
  else match l[(atI l c.2.2.1).toNat]? with
    | none => some l
    | some d =>
      if atI l c.2.2.1 < 0 then some l
      else if c.2.1 = 1 then (if 0 ≤ atI l c.2.2.2.1 then none else some (putL (dropL l (atI l c.2.2.1).toNat) (c.2.2.2.1, d.2.1, d.2.2)))
      else if c.2.1 = 4 then some (dropL l (atI l c.2.2.1).toNat)
      else (turnL c.2.1 c.2.2.2.2 d.2.1).map fun m => l.set (atI l c.2.2.1).toNat (d.1, m, d.2.2)
def migV (v : Int) : List ValD → List ChgD → Option (List ValD)
  | l, [] => some l
  | l, c :: cs => if c.1 < v then migV v l cs else (stepV l c).bind fun m => migV v m cs
theorem put_len (l : List ValD) (x : ValD) : (putL l x).length = l.length + 1 := by
  have : posL x.1 l ≤ l.length := tw_len_le _ _
  simp only [putL, List.length_append, List.length_take, List.length_drop, List.length_cons, List.length_nil]
  omega
theorem drop_len {l : List ValD} {k : Nat} (h : k < l.length) : (dropL l k).length + 1 = l.length := by
  simp only [dropL, List.length_append, List.length_take, List.length_drop]
  omega

end Go.Proofs.YtklgjhemcofhhaaDoor
