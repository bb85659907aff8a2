/-
  Lists of lists of whole numbers as plain data.
-/
import Derived.Test.YtopakblckajdmaaNumsT
import Derived.Test.YtopakblckajdmaaNumsM
namespace Go.Proofs.Ytopakblckajdmaa
open Go.ChangeShapes Go.WideShapes Go.ChangeAt Go.RowKit

def LLAt (w : World) (v : Value) (fs : List (List NumD)) : Prop := ∃ rs, NumsAt w v rs ∧ rs.map Prod.snd = fs
def LLO (w : World) (lo hi : Nat) (v : Value) (fs : List (List NumD)) : Prop := ∃ rs, NumsO w lo hi v rs ∧ rs.map Prod.snd = fs
theorem LLAt.kept {w w' : World} {v : Value} {fs : List (List NumD)} (h : LLAt w v fs) (k : Kept w w') : LLAt w' v fs := h.imp fun _ h => ⟨h.1.kept k, h.2⟩
theorem LLO.kept {w w' : World} {lo hi : Nat} {v : Value} {fs : List (List NumD)} (h : LLO w lo hi v fs) (k : Kept w w') : LLO w' lo hi v fs := h.imp fun _ h => ⟨h.1.kept k, h.2⟩
theorem LLO.but {w w' : World} {lo hi lo' hi' : Nat} {v : Value} {fs : List (List NumD)} (h : LLO w lo hi v fs) (k : But lo' hi' w w') (ho : hi ≤ lo' ∨ hi' ≤ lo) : LLO w' lo hi v fs := h.imp fun _ h => ⟨h.1.but k ho, h.2⟩
theorem LLO.mono {w : World} {lo hi lo' hi' : Nat} {v : Value} {fs : List (List NumD)} (h : LLO w lo hi v fs) (h1 : lo' ≤ lo) (h2 : hi ≤ hi') : LLO w lo' hi' v fs := h.imp fun _ h => ⟨h.1.mono h1 h2, h.2⟩
theorem LLO.low {w : World} {lo hi : Nat} {v : Value} {fs : List (List NumD)} (h : LLO w lo hi v fs) : LLO w lo w.heap.size v fs := h.imp fun _ h => ⟨h.1.low, h.2⟩
theorem LLO.at {w : World} {lo hi : Nat} {v : Value} {fs : List (List NumD)} (h : LLO w lo hi v fs) : LLAt w v fs := h.imp fun _ h => ⟨h.1.at, h.2⟩
theorem LLAt.form {w : World} {v : Value} {fs : List (List NumD)} (h : LLAt w v fs) : ∃ ao cap, v = .slice ao fs.length cap := by
  obtain ⟨rs, h, rfl⟩ := h
  obtain ⟨ao, cap, e⟩ := row_nil h.1
  exact ⟨ao, cap, by rw [List.length_map]; exact e⟩
theorem LLO.form {w : World} {lo hi : Nat} {v : Value} {fs : List (List NumD)} (h : LLO w lo hi v fs) : ∃ ao cap, v = .slice ao fs.length cap := h.at.form
/-- One of the lists. -/
theorem lL_get {w : World} {v : Value} {fs : List (List NumD)} (h : LLAt w v fs) {i : Nat} {l : List NumD} (hl : fs[i]? = some l) :
    ∃ b o cap u, v = .slice (some ⟨b, o, none⟩) fs.length cap ∧ w.cell? ⟨b, o + i, none⟩ = some u ∧ NumAt w u l := by
  obtain ⟨rs, h, rfl⟩ := h
  rw [List.getElem?_map] at hl
  obtain ⟨r, hr, rfl⟩ := Option.map_eq_some_iff.1 hl
  obtain ⟨b, o, cap, e, c, ha⟩ := nums_get h hr
  exact ⟨b, o, cap, r.1, by rw [List.length_map]; exact e, c, ha⟩
def lLSum (fs : List (List NumD)) : Nat := (fs.map List.length).sum
def lLCost (fs : List (List NumD)) : Nat := fs.length + lLSum fs
theorem lLSum_of (rs : List NumsE) : numsSum rs = lLSum (rs.map Prod.snd) := by simp [numsSum, lLSum, Function.comp_def]
theorem lLSum_le {l : List (List NumD)} {p : List NumD} (h : p ∈ l) : p.length ≤ lLSum l := by
  induction l with
  | nil => simp at h
  | cons a l ih =>
    rcases List.mem_cons.1 h with rfl | h
    · simp [lLSum]
    · have := ih h
      simp [lLSum] at this ⊢
      omega
def LLFit (fs : List (List NumD)) : Prop := ∀ p ∈ fs, p.length ≤ 9223372036854775807
theorem szLL (fs : List (List NumD)) (v : Value) (left : Int) (w : World) (hv : LLAt w v fs) (hl : 0 ≤ left) (hm : left ≤ 1048576) (hn : fs.length ≤ 9223372036854775807) (hs : LLFit fs) :
    Calls Try.prog 51 #[v, .int .i64 left] w fun e w' => e = .returned (.int .i64 (leftOf left (lLCost fs))) ∧ Kept w w' := by
  obtain ⟨rs, h, rfl⟩ := hv
  have := szNumsS rs v left w h hl hm (by simpa using hn) (fun p hp => hs p.2 (List.mem_map_of_mem hp))
  rw [show numsCost rs = lLCost (rs.map Prod.snd) by simp [numsCost, lLCost, lLSum_of]] at this
  exact this
theorem toLL (fs : List (List NumD)) (v : Value) (w : World) (hv : LLAt w v fs) (hl : fs.length ≤ 1048576) (hp : ∀ p ∈ fs, p.length ≤ 1048576) :
    Calls Try.prog 53 #[v] w fun e w' => ∃ v', e = .returned v' ∧ LLO w' w.heap.size w'.heap.size v' fs ∧ Kept w w' := by
  obtain ⟨rs, h, rfl⟩ := hv
  exact (toNumsS rs v w h (by simpa using hl) (fun p hp' => hp p.2 (List.mem_map_of_mem hp'))).mono fun e w' ⟨v', ys, he, hy, ho, k⟩ => ⟨v', he, ⟨ys, ho, hy⟩, k⟩
theorem eqLL (fs : List (List NumD)) (v v' : Value) (w : World) (hv : LLAt w v fs) (hv' : LLAt w v' fs) (hn : fs.length ≤ 9000000000000000000) (hm : ∀ p ∈ fs, p.length ≤ 9000000000000000000) :
    Calls Try.prog 55 #[v, v'] w fun e w' => e = .returned (.bool true) ∧ Kept w w' := by
  obtain ⟨rs, h, hr⟩ := hv
  obtain ⟨rs', h', hr'⟩ := hv'
  subst hr
  exact eqNumsS rs rs' v v' w hr'.symm h h' (by simpa using hn) (fun p hp => hm p.2 (List.mem_map_of_mem hp))
def mLL : Nat → List (List NumD) → List (List NumD)
  | _, [] => []
  | k, l :: fs => mNum k l.length :: mLL (k + l.length) fs
theorem mLL_of (k : Nat) (rs : List NumsE) : (markNums k rs).map Prod.snd = mLL k (rs.map Prod.snd) := by
  induction rs generalizing k with
  | nil => rfl
  | cons r rs ih => simp [markNums, mLL, ih]
theorem markLL (fs : List (List NumD)) (v : Value) (k lo hi : Nat) (w : World) (hv : LLO w lo hi v fs) (hb : k + lLSum fs ≤ 1000000000000) (hn : fs.length ≤ 1000000000000) :
    Calls Try.prog 62 #[v, .int .i64 (k : Int)] w fun e w' => e = .returned (.int .i64 ((k + lLSum fs : Nat) : Int)) ∧ LLO w' lo hi v (mLL k fs) ∧ But lo hi w w' := by
  obtain ⟨rs, h, rfl⟩ := hv
  have := markNumsS rs v k lo hi w h (by rw [lLSum_of]; exact hb) (by simpa using hn)
  rw [lLSum_of] at this
  exact this.mono fun e w' ⟨he, ho, kb⟩ => ⟨he, ⟨_, ho, mLL_of k rs⟩, kb⟩

end Go.Proofs.Ytopakblckajdmaa
