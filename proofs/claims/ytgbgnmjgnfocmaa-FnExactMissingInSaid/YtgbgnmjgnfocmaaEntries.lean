/-
  Lists of entries as plain data.
-/
import Derived.Test.YtgbgnmjgnfocmaaEntryF
import Derived.Test.YtgbgnmjgnfocmaaEntryT
namespace Go.Proofs.Ytgbgnmjgnfocmaa
open Go.ChangeShapes Go.WideShapes Go.ChangeAt Go.RowKit

set_option maxRecDepth 100000
set_option linter.unusedVariables false

/-- Lists of them as plain data. -/
def EntriesAt (w : World) (v : Value) (ds : List EntryD) : Prop := ∃ ts, EntryAt w v ts ∧ ts.map stripEntry = ds
def EntriesO (w : World) (lo hi : Nat) (v : Value) (ds : List EntryD) : Prop := ∃ ts, EntryO w lo hi v ts ∧ ts.map stripEntry = ds
section
variable {w w' : World} {v : Value} {ds : List EntryD} {lo hi lo' hi' : Nat}
theorem entries_len {ts : List EntryE} (h : ts.map stripEntry = ds) : ts.length = ds.length := by rw [← h]; simp
theorem EntriesAt.kept (h : EntriesAt w v ds) (k : Kept w w') : EntriesAt w' v ds := by obtain ⟨ts, h, e⟩ := h; exact ⟨ts, h.kept k, e⟩
theorem EntriesO.kept (h : EntriesO w lo hi v ds) (k : Kept w w') : EntriesO w' lo hi v ds := by obtain ⟨ts, h, e⟩ := h; exact ⟨ts, h.kept k, e⟩
theorem EntriesO.but (h : EntriesO w lo hi v ds) (k : But lo' hi' w w') (ho : hi ≤ lo' ∨ hi' ≤ lo) : EntriesO w' lo hi v ds := by obtain ⟨ts, h, e⟩ := h; exact ⟨ts, h.but k ho, e⟩
theorem EntriesO.mono (h : EntriesO w lo hi v ds) (h1 : lo' ≤ lo) (h2 : hi ≤ hi') : EntriesO w lo' hi' v ds := by obtain ⟨ts, h, e⟩ := h; exact ⟨ts, h.mono h1 h2, e⟩
theorem EntriesO.low (h : EntriesO w lo hi v ds) : EntriesO w lo w.heap.size v ds := by obtain ⟨ts, h, e⟩ := h; exact ⟨ts, h.low, e⟩
theorem EntriesO.at (h : EntriesO w lo hi v ds) : EntriesAt w v ds := by obtain ⟨ts, h, e⟩ := h; exact ⟨ts, h.at, e⟩
theorem EntriesAt.form (h : EntriesAt w v ds) : ∃ ao cap, v = .slice ao ds.length cap := by
  obtain ⟨ts, h, e⟩ := h
  obtain ⟨ao, cap, he⟩ := row_nil h.1
  exact ⟨ao, cap, by rw [he, entries_len e]⟩
theorem EntriesO.form (h : EntriesO w lo hi v ds) : ∃ ao cap, v = .slice ao ds.length cap := h.at.form
theorem EntriesAt.get (h : EntriesAt w v ds) {i : Nat} {d : EntryD} (hd : ds[i]? = some d) : ∃ b o cap s, v = .slice (some ⟨b, o, none⟩) ds.length cap ∧ w.cell? ⟨b, o + i * 3, none⟩ = some (.string d.1) ∧ w.cell? ⟨b, o + i * 3 + 1, none⟩ = some s ∧ w.cell? ⟨b, o + i * 3 + 2, none⟩ = some (.bool d.2.2) ∧ TxtAt w s d.2.1 := by
  obtain ⟨ts, h, e⟩ := h
  subst e
  rw [List.getElem?_map] at hd
  cases hp : ts[i]? with
  | none => rw [hp] at hd; simp at hd
  | some p =>
    rw [hp] at hd
    simp at hd
    subst hd
    obtain ⟨b, o, cap, e, c0, c1, c2, hk⟩ := entry_get h hp
    exact ⟨b, o, cap, p.2.1.1, by simpa using e, c0, c1, c2, hk⟩
end
def entriesOne (d : EntryD) : Nat := d.1.size + txtCost d.2.1
def entriesCost (ds : List EntryD) : Nat := ds.length + (ds.map entriesOne).sum
theorem entries_cost {ts : List EntryE} {ds : List EntryD} (h : ts.map stripEntry = ds) : entryCost ts = entriesCost ds := by
  subst h
  unfold entryCost entriesCost entrySum
  rw [List.length_map, List.map_map]
  rfl
theorem entries_one {ds : List EntryD} {d : EntryD} (h : d ∈ ds) : entriesOne d ≤ entriesCost ds := by
  have : entriesOne d ≤ (ds.map entriesOne).sum := by
    induction ds with
    | nil => simp at h
    | cons x xs ih =>
      simp at h ⊢
      rcases h with rfl | h
      · omega
      · have := ih h
        omega
  unfold entriesCost
  omega
def EntriesFit (ds : List EntryD) : Prop := ∀ d ∈ ds, d.1.size ≤ 9223372036854775807 ∧ (d.2.1.length ≤ 9223372036854775807 ∧ ∀ q ∈ d.2.1, q.size ≤ 9223372036854775807)
theorem entries_fit {ts : List EntryE} {ds : List EntryD} (h : ts.map stripEntry = ds) (hf : EntriesFit ds) : EntryFit ts := fun p hp => hf (stripEntry p) (by rw [← h]; exact List.mem_map_of_mem hp)
theorem entries_fit' {ts : List EntryE} (hf : EntryFit ts) : EntriesFit (ts.map stripEntry) := fun d hd => by
  obtain ⟨p, hp, rfl⟩ := List.mem_map.1 hd
  exact hf p hp
theorem szEntries (ds : List EntryD) (v : Value) (left : Int) (w : World) (hv : EntriesAt w v ds) (hl : 0 ≤ left) (hm : left ≤ 1048576) (hn : ds.length ≤ 9223372036854775807) (hs : EntriesFit ds) :
    Calls Try.prog 4 #[v, .int .i64 left] w fun e w' => e = .returned (.int .i64 (leftOf left (entriesCost ds))) ∧ Kept w w' := by
  obtain ⟨ts, h, e⟩ := hv
  have := szEntryS ts v left w h hl hm (by rw [entries_len e]; exact hn) (entries_fit e hs)
  rw [entries_cost e] at this
  exact this
theorem toEntries (ds : List EntryD) (v : Value) (w : World) (hv : EntriesAt w v ds) (hl : entriesCost ds ≤ 1048576) :
    Calls Try.prog 6 #[v] w fun e w' => ∃ v', e = .returned v' ∧ EntriesO w' w.heap.size w'.heap.size v' ds ∧ Kept w w' := by
  obtain ⟨ts, h, e⟩ := hv
  have h1 : ts.length ≤ 1048576 := by rw [entries_len e]; unfold entriesCost at hl; omega
  refine (toEntryS ts v w h h1 (fun p hp => ?_)).mono ?_
  · have := entries_one (ds := ds) (d := stripEntry p) (by rw [← e]; exact List.mem_map_of_mem hp)
    unfold entriesOne stripEntry txtCost at this
    dsimp only at this
    omega
  · rintro e' w' ⟨v', ys, rfl, hy, ho, hk⟩
    exact ⟨v', rfl, ⟨ys, ho, hy.trans e⟩, hk⟩
theorem eqEntries (ds : List EntryD) (v v' : Value) (w : World) (hv : EntriesAt w v ds) (hv' : EntriesAt w v' ds) (hl : entriesCost ds ≤ 9000000000000000000) :
    Calls Try.prog 9 #[v, v'] w fun e w' => e = .returned (.bool true) ∧ Kept w w' := by
  obtain ⟨ts, h, e⟩ := hv
  obtain ⟨us, h', e'⟩ := hv'
  refine eqEntryS ts us v v' w (e.trans e'.symm) h h' (by rw [entries_len e]; unfold entriesCost at hl; omega) (fun p hp => ?_)
  have := entries_one (ds := ds) (d := stripEntry p) (by rw [← e]; exact List.mem_map_of_mem hp)
  unfold entriesOne stripEntry txtCost at this
  dsimp only at this
  omega

end Go.Proofs.Ytgbgnmjgnfocmaa
