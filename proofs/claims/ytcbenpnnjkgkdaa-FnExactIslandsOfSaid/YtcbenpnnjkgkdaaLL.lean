/-
  Lists of lists of whole numbers as plain data.
-/
import Derived.Test.YtcbenpnnjkgkdaaNumsT
import Derived.Test.YtcbenpnnjkgkdaaNumsM
namespace Go.Proofs.Ytcbenpnnjkgkdaa
open Go.ChangeShapes Go.WideShapes Go.ChangeAt Go.RowKit

def LLAt (w : World) (v : Value) (fs : List (List NumD)) : Prop := ∃ rs, NumsAt w v rs ∧ rs.map Prod.snd = fs
def LLO (w : World) (lo hi : Nat) (v : Value) (fs : List (List NumD)) : Prop := ∃ rs, NumsO w lo hi v rs ∧ rs.map Prod.snd = fs
theorem LLAt.kept {w w' : World} {v : Value} {fs : List (List NumD)} (h : LLAt w v fs) (k : Kept w w') : LLAt w' v fs := h.imp fun _ h => ⟨h.1.kept k, h.2⟩
theorem LLO.kept {w w' : World} {lo hi : Nat} {v : Value} {fs : List (List NumD)} (h : LLO w lo hi v fs) (k : Kept w w') : LLO w' lo hi v fs := h.imp fun _ h => ⟨h.1.kept k, h.2⟩
theorem LLO.but {w w' : World} {lo hi lo' hi' : Nat} {v : Value} {fs : List (List NumD)} (h : LLO w lo hi v fs) (k : But lo' hi' w w') (ho : hi ≤ lo' ∨ hi' ≤ lo) : LLO w' lo hi v fs := h.imp fun _ h => ⟨h.1.but k ho, h.2⟩
theorem LLO.mono {w : World} {lo hi lo' hi' : Nat} {v : Value} {fs : List (List NumD)} (h : LLO w lo hi v fs) (h1 : lo' ≤ lo) (h2 : hi ≤ hi') : LLO w lo' hi' v fs := h.imp fun _ h => ⟨h.1.mono h1 h2, h.2⟩
theorem LLO.low {w : World} {lo hi : Nat} {v : Value} {fs : List (List NumD)} (h : LLO w lo hi v fs) : LLO w lo w.heap.size v fs := h.imp fun _ h => ⟨h.1.low, h.2⟩
theorem LLO.at {w : World} {lo hi : Nat} {v : Value} {fs : List (List NumD)} (h : LLO w lo hi v fs) : LLAt w v fs := h.imp fun _ h => ⟨h.1.at, h.2⟩
theorem LLAt.form {w : World} {v : Value} {fs : List (List NumD)} (h : LLAt w v fs) : ∃ ao cap, v = .slice ao fs.length cap := by
  obtain ⟨rs, h, rfl⟩ := h
  obtain ⟨ao, cap, e⟩ := row_nil h.1
  exact ⟨ao, cap, by rw [List.length_map]; exact e⟩
theorem LLO.form {w : World} {lo hi : Nat} {v : Value} {fs : List (List NumD)} (h : LLO w lo hi v fs) : ∃ ao cap, v = .slice ao fs.length cap := h.at.form
/-- One of the lists. -/
theorem lL_get {w : World} {v : Value} {fs : List (List NumD)} (h : LLAt w v fs) {i : Nat} {l : List NumD} (hl : fs[i]? = some l) :
    ∃ b o cap u, v = .slice (some ⟨b, o, none⟩) fs.length cap ∧ w.cell? ⟨b, o + i, none⟩ = some u ∧ NumAt w u l := by
  obtain ⟨rs, h, rfl⟩ := h
  rw [List.getElem?_map] at hl
  obtain ⟨r, hr, rfl⟩ := Option.map_eq_some_iff.1 hl
  obtain ⟨b, o, cap, e, c, ha⟩ := nums_get h hr
  exact ⟨b, o, cap, r.1, by rw [List.length_map]; exact e, c, ha⟩
def lLSum (fs : List (List NumD)) : Nat := (fs.map List.length).sum
def lLCost (fs : List (List NumD)) : Nat := fs.length + lLSum fs
theorem lLSum_of (rs : List NumsE) : numsSum rs = lLSum (rs.map Prod.snd) := by simp [numsSum, lLSum, Function.comp_def]
theorem lLSum_le {l : List (List NumD)} {p : List NumD} (h : p ∈ l) : p.length ≤ lLSum l := by
  induction l with
  | nil => simp at h
  | cons a l ih =>
    rcases List.mem_cons.1 h with rfl | h
    · simp [lLSum]
    · have := ih h
      simp [lLSum] at this ⊢
      omega
def LLFit (fs : List (List NumD)) : Prop := ∀ p ∈ fs, p.length ≤ 9223372036854775807
theorem eqLL (fs : List (List NumD)) (v v' : Value) (w : World) (hv : LLAt w v fs) (hv' : LLAt w v' fs) (hn : fs.length ≤ 9000000000000000000) (hm : ∀ p ∈ fs, p.length ≤ 9000000000000000000) :
    Calls Try.prog 8 #[v, v'] w fun e w' => e = .returned (.bool true) ∧ Kept w w' := by
  obtain ⟨rs, h, hr⟩ := hv
  obtain ⟨rs', h', hr'⟩ := hv'
  subst hr
  exact eqNumsS rs rs' v v' w hr'.symm h h' (by simpa using hn) (fun p hp => hm p.2 (List.mem_map_of_mem hp))
def mLL : Nat → List (List NumD) → List (List NumD)
  | _, [] => []
  | k, l :: fs => mNum k l.length :: mLL (k + l.length) fs
theorem mLL_of (k : Nat) (rs : List NumsE) : (markNums k rs).map Prod.snd = mLL k (rs.map Prod.snd) := by
  induction rs generalizing k with
  | nil => rfl
  | cons r rs ih => simp [markNums, mLL, ih]
theorem markLL (fs : List (List NumD)) (v : Value) (k lo hi : Nat) (w : World) (hv : LLO w lo hi v fs) (hb : k + lLSum fs ≤ 1000000000000) (hn : fs.length ≤ 1000000000000) :
    Calls Try.prog 11 #[v, .int .i64 (k : Int)] w fun e w' => e = .returned (.int .i64 ((k + lLSum fs : Nat) : Int)) ∧ LLO w' lo hi v (mLL k fs) ∧ But lo hi w w' := by
  obtain ⟨rs, h, rfl⟩ := hv
  have := markNumsS rs v k lo hi w h (by rw [lLSum_of]; exact hb) (by simpa using hn)
  rw [lLSum_of] at this
  exact this.mono fun e w' ⟨he, ho, kb⟩ => ⟨he, ⟨_, ho, mLL_of k rs⟩, kb⟩
theorem heldLL (fs : List (List NumD)) (v : Value) (k : Nat) (w : World) (hv : LLAt w v (mLL k fs)) (hb : k + lLSum fs ≤ 1000000000000) (hn : fs.length ≤ 1000000000000) :
    Calls Try.prog 12 #[v, .int .i64 (k : Int)] w fun e w' => e = .returned (.int .i64 ((k + lLSum fs : Nat) : Int)) ∧ Kept w w' := by
  obtain ⟨rs, h, hr⟩ := hv
  have hl : ∀ (k : Nat) (fs : List (List NumD)) (rs : List NumsE), rs.map Prod.snd = mLL k fs → ∃ ps : List NumsE, markNums k ps = rs ∧ ps.map Prod.snd = fs := by
    intro k fs
    induction fs generalizing k with
    | nil => intro rs h; simp [mLL] at h; exact ⟨[], by simp [markNums, h], rfl⟩
    | cons l fs ih =>
      intro rs h
      cases rs with
      | nil => simp [mLL] at h
      | cons r rs =>
        simp [mLL] at h
        obtain ⟨ps, h1, h2⟩ := ih _ rs h.2
        refine ⟨(r.1, l) :: ps, ?_, by simp [h2]⟩
        obtain ⟨r1, r2⟩ := r
        dsimp only at h
        simp [markNums, h1, h.1]
  obtain ⟨ps, h1, h2⟩ := hl k fs rs hr
  rw [← h1] at h
  have := heldNumsS ps v k w h (by rw [lLSum_of, h2]; exact hb) (by rw [← h2] at hn; simpa using hn)
  rw [lLSum_of, h2] at this
  exact this

end Go.Proofs.Ytcbenpnnjkgkdaa
