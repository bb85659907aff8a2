/-
  Lists of sections as plain data.
-/
import Derived.Test.YtapfafibhjpkdaaDoorSectionF
import Derived.Test.YtapfafibhjpkdaaDoorSectionT
namespace Go.Proofs.YtapfafibhjpkdaaDoor
open Go.ChangeShapes Go.WideShapes Go.ChangeAt Go.RowKit

set_option maxRecDepth 100000
set_option linter.unusedVariables false

/-- Lists of them as plain data. -/
def SecsAt (w : World) (v : Value) (ds : List SectionD) : Prop := ∃ ts, SectionAt w v ts ∧ ts.map stripSection = ds
def SecsO (w : World) (lo hi : Nat) (v : Value) (ds : List SectionD) : Prop := ∃ ts, SectionO w lo hi v ts ∧ ts.map stripSection = ds
section
variable {w w' : World} {v : Value} {ds : List SectionD} {lo hi lo' hi' : Nat}
theorem secs_len {ts : List SectionE} (h : ts.map stripSection = ds) : ts.length = ds.length := by rw [← h]; simp
theorem SecsAt.kept (h : SecsAt w v ds) (k : Kept w w') : SecsAt w' v ds := by obtain ⟨ts, h, e⟩ := h; exact ⟨ts, h.kept k, e⟩
theorem SecsO.kept (h : SecsO w lo hi v ds) (k : Kept w w') : SecsO w' lo hi v ds := by obtain ⟨ts, h, e⟩ := h; exact ⟨ts, h.kept k, e⟩
theorem SecsO.but (h : SecsO w lo hi v ds) (k : But lo' hi' w w') (ho : hi ≤ lo' ∨ hi' ≤ lo) : SecsO w' lo hi v ds := by obtain ⟨ts, h, e⟩ := h; exact ⟨ts, h.but k ho, e⟩
theorem SecsO.mono (h : SecsO w lo hi v ds) (h1 : lo' ≤ lo) (h2 : hi ≤ hi') : SecsO w lo' hi' v ds := by obtain ⟨ts, h, e⟩ := h; exact ⟨ts, h.mono h1 h2, e⟩
theorem SecsO.low (h : SecsO w lo hi v ds) : SecsO w lo w.heap.size v ds := by obtain ⟨ts, h, e⟩ := h; exact ⟨ts, h.low, e⟩
theorem SecsO.at (h : SecsO w lo hi v ds) : SecsAt w v ds := by obtain ⟨ts, h, e⟩ := h; exact ⟨ts, h.at, e⟩
theorem SecsAt.form (h : SecsAt w v ds) : ∃ ao cap, v = .slice ao ds.length cap := by
  obtain ⟨ts, h, e⟩ := h
  obtain ⟨ao, cap, he⟩ := row_nil h.1
  exact ⟨ao, cap, by rw [he, secs_len e]⟩
theorem SecsO.form (h : SecsO w lo hi v ds) : ∃ ao cap, v = .slice ao ds.length cap := h.at.form
theorem SecsAt.get (h : SecsAt w v ds) {i : Nat} {d : SectionD} (hd : ds[i]? = some d) : ∃ b o cap s, v = .slice (some ⟨b, o, none⟩) ds.length cap ∧ w.cell? ⟨b, o + i * 4, none⟩ = some (.string d.1) ∧ w.cell? ⟨b, o + i * 4 + 1, none⟩ = some (.int .i64 d.2.1) ∧ w.cell? ⟨b, o + i * 4 + 2, none⟩ = some s ∧ w.cell? ⟨b, o + i * 4 + 3, none⟩ = some (.string d.2.2.2) ∧ NumAt w s d.2.2.1 := by
  obtain ⟨ts, h, e⟩ := h
  subst e
  rw [List.getElem?_map] at hd
  cases hp : ts[i]? with
  | none => rw [hp] at hd; simp at hd
  | some p =>
    rw [hp] at hd
    simp at hd
    subst hd
    obtain ⟨b, o, cap, e, c0, c1, c2, c3, hk⟩ := section_get h hp
    exact ⟨b, o, cap, p.2.2.1.1, by simpa using e, c0, c1, c2, c3, hk⟩
end
def secsOne (d : SectionD) : Nat := d.1.size + d.2.2.1.length + d.2.2.2.size
def secsCost (ds : List SectionD) : Nat := ds.length + (ds.map secsOne).sum
theorem secs_cost {ts : List SectionE} {ds : List SectionD} (h : ts.map stripSection = ds) : sectionCost ts = secsCost ds := by
  subst h
  unfold sectionCost secsCost sectionSum
  rw [List.length_map, List.map_map]
  rfl
theorem secs_one {ds : List SectionD} {d : SectionD} (h : d ∈ ds) : secsOne d ≤ secsCost ds := by
  have : secsOne d ≤ (ds.map secsOne).sum := by
    induction ds with
    | nil => simp at h
    | cons x xs ih =>
      simp at h ⊢
      rcases h with rfl | h
      · omega
      · have := ih h
        omega
  unfold secsCost
  omega
def SecsFit (ds : List SectionD) : Prop := ∀ d ∈ ds, d.1.size ≤ 9223372036854775807 ∧ d.2.2.2.size ≤ 9223372036854775807 ∧ d.2.2.1.length ≤ 9223372036854775807
theorem secs_fit {ts : List SectionE} {ds : List SectionD} (h : ts.map stripSection = ds) (hf : SecsFit ds) : SectionFit ts := fun p hp => hf (stripSection p) (by rw [← h]; exact List.mem_map_of_mem hp)
theorem secs_fit' {ts : List SectionE} (hf : SectionFit ts) : SecsFit (ts.map stripSection) := fun d hd => by
  obtain ⟨p, hp, rfl⟩ := List.mem_map.1 hd
  exact hf p hp
theorem szSecs (ds : List SectionD) (v : Value) (left : Int) (w : World) (hv : SecsAt w v ds) (hl : 0 ≤ left) (hm : left ≤ 1048576) (hn : ds.length ≤ 9223372036854775807) (hs : SecsFit ds) :
    Calls Tryd.prog 4 #[v, .int .i64 left] w fun e w' => e = .returned (.int .i64 (leftOf left (secsCost ds))) ∧ Kept w w' := by
  obtain ⟨ts, h, e⟩ := hv
  have := szSectionS ts v left w h hl hm (by rw [secs_len e]; exact hn) (secs_fit e hs)
  rw [secs_cost e] at this
  exact this
theorem toSecs (ds : List SectionD) (v : Value) (w : World) (hv : SecsAt w v ds) (hl : secsCost ds ≤ 1048576) :
    Calls Tryd.prog 7 #[v] w fun e w' => ∃ v', e = .returned v' ∧ SecsO w' w.heap.size w'.heap.size v' ds ∧ Kept w w' := by
  obtain ⟨ts, h, e⟩ := hv
  have h1 : ts.length ≤ 1048576 := by rw [secs_len e]; unfold secsCost at hl; omega
  refine (toSectionS ts v w h h1 (fun p hp => ?_)).mono ?_
  · have := secs_one (ds := ds) (d := stripSection p) (by rw [← e]; exact List.mem_map_of_mem hp)
    unfold secsOne stripSection at this
    dsimp only at this
    omega
  · rintro e' w' ⟨v', ys, rfl, hy, ho, hk⟩
    exact ⟨v', rfl, ⟨ys, ho, hy.trans e⟩, hk⟩
theorem eqSecs (ds : List SectionD) (v v' : Value) (w : World) (hv : SecsAt w v ds) (hv' : SecsAt w v' ds) (hl : secsCost ds ≤ 9000000000000000000) :
    Calls Tryd.prog 12 #[v, v'] w fun e w' => e = .returned (.bool true) ∧ Kept w w' := by
  obtain ⟨ts, h, e⟩ := hv
  obtain ⟨us, h', e'⟩ := hv'
  refine eqSectionS ts us v v' w (e.trans e'.symm) h h' (by rw [secs_len e]; unfold secsCost at hl; omega) (fun p hp => ?_)
  have := secs_one (ds := ds) (d := stripSection p) (by rw [← e]; exact List.mem_map_of_mem hp)
  unfold secsOne stripSection at this
  dsimp only at this
  omega

end Go.Proofs.YtapfafibhjpkdaaDoor
