/-
  Lists of lists of things as plain data.
-/
import Derived.Test.YtaadlhcpgjibeaaDoorThingsT
namespace Go.Proofs.YtaadlhcpgjibeaaDoor
open Go.ChangeShapes Go.WideShapes Go.ChangeAt Go.RowKit

def HistAt (w : World) (v : Value) (fs : List (List ThingD)) : Prop := ∃ rs, ThingsAt w v rs ∧ rs.map Prod.snd = fs
def HistO (w : World) (lo hi : Nat) (v : Value) (fs : List (List ThingD)) : Prop := ∃ rs, ThingsO w lo hi v rs ∧ rs.map Prod.snd = fs
theorem HistAt.kept {w w' : World} {v : Value} {fs : List (List ThingD)} (h : HistAt w v fs) (k : Kept w w') : HistAt w' v fs := h.imp fun _ h => ⟨h.1.kept k, h.2⟩
theorem HistO.kept {w w' : World} {lo hi : Nat} {v : Value} {fs : List (List ThingD)} (h : HistO w lo hi v fs) (k : Kept w w') : HistO w' lo hi v fs := h.imp fun _ h => ⟨h.1.kept k, h.2⟩
theorem HistO.but {w w' : World} {lo hi lo' hi' : Nat} {v : Value} {fs : List (List ThingD)} (h : HistO w lo hi v fs) (k : But lo' hi' w w') (ho : hi ≤ lo' ∨ hi' ≤ lo) : HistO w' lo hi v fs := h.imp fun _ h => ⟨h.1.but k ho, h.2⟩
theorem HistO.mono {w : World} {lo hi lo' hi' : Nat} {v : Value} {fs : List (List ThingD)} (h : HistO w lo hi v fs) (h1 : lo' ≤ lo) (h2 : hi ≤ hi') : HistO w lo' hi' v fs := h.imp fun _ h => ⟨h.1.mono h1 h2, h.2⟩
theorem HistO.low {w : World} {lo hi : Nat} {v : Value} {fs : List (List ThingD)} (h : HistO w lo hi v fs) : HistO w lo w.heap.size v fs := h.imp fun _ h => ⟨h.1.low, h.2⟩
theorem HistO.at {w : World} {lo hi : Nat} {v : Value} {fs : List (List ThingD)} (h : HistO w lo hi v fs) : HistAt w v fs := h.imp fun _ h => ⟨h.1.at, h.2⟩
theorem HistAt.form {w : World} {v : Value} {fs : List (List ThingD)} (h : HistAt w v fs) : ∃ ao cap, v = .slice ao fs.length cap := by
  obtain ⟨rs, h, rfl⟩ := h
  obtain ⟨ao, cap, e⟩ := row_nil h.1
  exact ⟨ao, cap, by rw [List.length_map]; exact e⟩
theorem HistO.form {w : World} {lo hi : Nat} {v : Value} {fs : List (List ThingD)} (h : HistO w lo hi v fs) : ∃ ao cap, v = .slice ao fs.length cap := h.at.form
/-- One of the lists. -/
theorem hist_get {w : World} {v : Value} {fs : List (List ThingD)} (h : HistAt w v fs) {i : Nat} {l : List ThingD} (hl : fs[i]? = some l) :
    ∃ b o cap u, v = .slice (some ⟨b, o, none⟩) fs.length cap ∧ w.cell? ⟨b, o + i, none⟩ = some u ∧ ThingAt w u l := by
  obtain ⟨rs, h, rfl⟩ := h
  rw [List.getElem?_map] at hl
  obtain ⟨r, hr, rfl⟩ := Option.map_eq_some_iff.1 hl
  obtain ⟨b, o, cap, e, c, ha⟩ := things_get h hr
  exact ⟨b, o, cap, r.1, by rw [List.length_map]; exact e, c, ha⟩
def histSum (fs : List (List ThingD)) : Nat := (fs.map List.length).sum
def histCost (fs : List (List ThingD)) : Nat := fs.length + histSum fs
theorem histSum_of (rs : List ThingsE) : thingsSum rs = histSum (rs.map Prod.snd) := by simp [thingsSum, histSum, Function.comp_def]
theorem histSum_le {l : List (List ThingD)} {p : List ThingD} (h : p ∈ l) : p.length ≤ histSum l := by
  induction l with
  | nil => simp at h
  | cons a l ih =>
    rcases List.mem_cons.1 h with rfl | h
    · simp [histSum]
    · have := ih h
      simp [histSum] at this ⊢
      omega
def HistFit (fs : List (List ThingD)) : Prop := ∀ p ∈ fs, p.length ≤ 9223372036854775807
theorem szHist (fs : List (List ThingD)) (v : Value) (left : Int) (w : World) (hv : HistAt w v fs) (hl : 0 ≤ left) (hm : left ≤ 1048576) (hn : fs.length ≤ 9223372036854775807) (hs : HistFit fs) :
    Calls Tryd.prog 33 #[v, .int .i64 left] w fun e w' => e = .returned (.int .i64 (leftOf left (histCost fs))) ∧ Kept w w' := by
  obtain ⟨rs, h, rfl⟩ := hv
  have := szThingsS rs v left w h hl hm (by simpa using hn) (fun p hp => hs p.2 (List.mem_map_of_mem hp))
  rw [show thingsCost rs = histCost (rs.map Prod.snd) by simp [thingsCost, histCost, histSum_of]] at this
  exact this
theorem toHist (fs : List (List ThingD)) (v : Value) (w : World) (hv : HistAt w v fs) (hl : fs.length ≤ 1048576) (hp : ∀ p ∈ fs, p.length ≤ 1048576) :
    Calls Tryd.prog 35 #[v] w fun e w' => ∃ v', e = .returned v' ∧ HistO w' w.heap.size w'.heap.size v' fs ∧ Kept w w' := by
  obtain ⟨rs, h, rfl⟩ := hv
  exact (toThingsS rs v w h (by simpa using hl) (fun p hp' => hp p.2 (List.mem_map_of_mem hp'))).mono fun e w' ⟨v', ys, he, hy, ho, k⟩ => ⟨v', he, ⟨ys, ho, hy⟩, k⟩
theorem eqHist (fs : List (List ThingD)) (v v' : Value) (w : World) (hv : HistAt w v fs) (hv' : HistAt w v' fs) (hn : fs.length ≤ 9000000000000000000) (hm : ∀ p ∈ fs, p.length ≤ 9000000000000000000) :
    Calls Tryd.prog 38 #[v, v'] w fun e w' => e = .returned (.bool true) ∧ Kept w w' := by
  obtain ⟨rs, h, hr⟩ := hv
  obtain ⟨rs', h', hr'⟩ := hv'
  subst hr
  exact eqThingsS rs rs' v v' w hr'.symm h h' (by simpa using hn) (fun p hp => hm p.2 (List.mem_map_of_mem hp))

end Go.Proofs.YtaadlhcpgjibeaaDoor
