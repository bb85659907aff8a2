/-
  What makes a clip good, free of the program.
-/
import Derived.Test.YtpnplfngglfpoaaClip
import Derived.Test.YtpnplfngglfpoaaKeys11
import Derived.Test.YtpnplfngglfpoaaName
import Derived.Test.YtpnplfngglfpoaaLess
namespace Go.Proofs.Ytpnplfngglfpoaa
open Go.ChangeShapes Go.WideShapes Go.ChangeAt Go.RowKit

set_option maxRecDepth 100000
set_option linter.unusedVariables false

/-- What is asked of the track at place j, and of the mark at place j. -/
def TrkOk (b : Int) (l : List TrackD) (j : Nat) : Prop := ∀ d, l[j]? = some d → nameB d.1 = true ∧ KeysP b d.2 ∧ ∀ a, 0 < j → l[j - 1]? = some a → less a.1 d.1 = true
def MrkOk (b : Int) (l : List MarkD) (j : Nat) : Prop := ∀ d, l[j]? = some d → (0 ≤ d.1 ∧ d.1 < b) ∧ nameB d.2 = true ∧ ∀ a, 0 < j → l[j - 1]? = some a → (a.1 < d.1 ∨ a.1 = d.1 ∧ less a.2 d.2 = true)
def TrksP (b : Int) (l : List TrackD) : Prop := l.length ≤ 8 ∧ ∀ j, j < l.length → TrkOk b l j
def MrksP (b : Int) (l : List MarkD) : Prop := l.length ≤ 20 ∧ ∀ j, j < l.length → MrkOk b l j
def ClipP (c : ClipD) : Prop := (1 ≤ c.1 ∧ c.1 ≤ 60) ∧ TrksP c.1 c.2.1 ∧ MrksP c.1 c.2.2
noncomputable instance (b : Int) (l : List TrackD) : Decidable (TrksP b l) := Classical.propDecidable _
noncomputable instance (b : Int) (l : List MarkD) : Decidable (MrksP b l) := Classical.propDecidable _
noncomputable instance (c : ClipD) : Decidable (ClipP c) := Classical.propDecidable _
theorem all_more {P : Nat → Prop} {k : Nat} (h : ∀ j, j < k → P j) (hk : P k) : ∀ j, j < k + 1 → P j := fun j hj => by
  by_cases e : j = k
  · subst e; exact hk
  · exact h j (by omega)
theorem name_pos {s : ByteArray} (h : nameB s = true) : 1 ≤ s.size := ((nameB_iff s).1 h).1
def LastT (ds : List TrackD) (k : Nat) (s : ByteArray) : Prop := (k = 0 → s = ⟨#[]⟩) ∧ ∀ j a, j + 1 = k → ds[j]? = some a → s = a.1
theorem trk_iff {b : Int} {ds : List TrackD} {k : Nat} {nm s : ByteArray} {ks : List KeyD} (hp : ds[k]? = some (nm, ks)) (h : LastT ds k s) (hn : nameB nm = true) :
    TrkOk b ds k ↔ (Op.bytesLess nm.toList s.toList = false ∧ (nm.toList == s.toList) = false) ∧ KeysP b ks := by
  have key : (∀ a, 0 < k → ds[k - 1]? = some a → less a.1 nm = true) ↔ (Op.bytesLess nm.toList s.toList = false ∧ (nm.toList == s.toList) = false) := by
    by_cases e : k = 0
    · have hs := h.1 e
      subst hs
      refine ⟨fun _ => ⟨?_, ?_⟩, fun _ q h => by omega⟩
      · have : (⟨#[]⟩ : ByteArray).toList = [] := by rw [ByteArray.toList_eq]
        rw [this]
        cases nm.toList <;> rfl
      · rw [beq_eq_false_iff_ne]
        intro e2
        have := toList_inj e2
        have h1 := name_pos hn
        rw [this] at h1
        simp [ByteArray.size] at h1
    · have hk : k < ds.length := (List.getElem?_eq_some_iff.1 hp).1
      obtain ⟨q, hqq⟩ : ∃ q, ds[k - 1]? = some q := ⟨_, List.getElem?_eq_getElem (by omega)⟩
      have hs := h.2 (k - 1) q (by omega) hqq
      subst hs
      constructor
      · intro h
        have h1 := h q (by omega) hqq
        refine ⟨bl_asym _ _ h1, ?_⟩
        rw [beq_eq_false_iff_ne]
        intro e2
        have := toList_inj e2
        rw [this, less_irr] at h1
        exact absurd h1 (by simp)
      · rintro ⟨h1, h2⟩ a h0 ha
        rw [hqq] at ha
        cases ha
        rw [beq_eq_false_iff_ne] at h2
        exact bl_tri _ _ h1 h2
  constructor
  · intro hk
    have h1 := hk _ hp
    exact ⟨key.1 h1.2.2, h1.2.1⟩
  · rintro ⟨h1, h2⟩ y hy
    rw [hp] at hy
    cases hy
    exact ⟨hn, h2, key.2 h1⟩
theorem last_trk {ds : List TrackD} {k : Nat} {nm : ByteArray} {ks : List KeyD} (hp : ds[k]? = some (nm, ks)) : LastT ds (k + 1) nm := by
  refine ⟨fun h => by omega, fun j a hj ha => ?_⟩
  have : j = k := by omega
  subst this
  rw [hp] at ha
  cases ha
  rfl

end Go.Proofs.Ytpnplfngglfpoaa
