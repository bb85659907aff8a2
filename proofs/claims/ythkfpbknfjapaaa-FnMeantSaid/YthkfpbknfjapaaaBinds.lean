/-
  Lists of binds as plain data.
-/
import Derived.Test.YthkfpbknfjapaaaBindF
import Derived.Test.YthkfpbknfjapaaaBindT
namespace Go.Proofs.Ythkfpbknfjapaaa
open Go.ChangeShapes Go.WideShapes Go.ChangeAt Go.RowKit

set_option maxRecDepth 100000
set_option linter.unusedVariables false

/-- Lists of them as plain data. -/
def BindsAt (w : World) (v : Value) (ds : List BindD) : Prop := ∃ ts, BindAt w v ts ∧ ts.map stripBind = ds
def BindsO (w : World) (lo hi : Nat) (v : Value) (ds : List BindD) : Prop := ∃ ts, BindO w lo hi v ts ∧ ts.map stripBind = ds
section
variable {w w' : World} {v : Value} {ds : List BindD} {lo hi lo' hi' : Nat}
theorem binds_len {ts : List BindE} (h : ts.map stripBind = ds) : ts.length = ds.length := by rw [← h]; simp
theorem BindsAt.kept (h : BindsAt w v ds) (k : Kept w w') : BindsAt w' v ds := by obtain ⟨ts, h, e⟩ := h; exact ⟨ts, h.kept k, e⟩
theorem BindsO.kept (h : BindsO w lo hi v ds) (k : Kept w w') : BindsO w' lo hi v ds := by obtain ⟨ts, h, e⟩ := h; exact ⟨ts, h.kept k, e⟩
theorem BindsO.but (h : BindsO w lo hi v ds) (k : But lo' hi' w w') (ho : hi ≤ lo' ∨ hi' ≤ lo) : BindsO w' lo hi v ds := by obtain ⟨ts, h, e⟩ := h; exact ⟨ts, h.but k ho, e⟩
theorem BindsO.mono (h : BindsO w lo hi v ds) (h1 : lo' ≤ lo) (h2 : hi ≤ hi') : BindsO w lo' hi' v ds := by obtain ⟨ts, h, e⟩ := h; exact ⟨ts, h.mono h1 h2, e⟩
theorem BindsO.low (h : BindsO w lo hi v ds) : BindsO w lo w.heap.size v ds := by obtain ⟨ts, h, e⟩ := h; exact ⟨ts, h.low, e⟩
theorem BindsO.at (h : BindsO w lo hi v ds) : BindsAt w v ds := by obtain ⟨ts, h, e⟩ := h; exact ⟨ts, h.at, e⟩
theorem BindsAt.form (h : BindsAt w v ds) : ∃ ao cap, v = .slice ao ds.length cap := by
  obtain ⟨ts, h, e⟩ := h
  obtain ⟨ao, cap, he⟩ := row_nil h.1
  exact ⟨ao, cap, by rw [he, binds_len e]⟩
theorem BindsO.form (h : BindsO w lo hi v ds) : ∃ ao cap, v = .slice ao ds.length cap := h.at.form
theorem BindsAt.get (h : BindsAt w v ds) {i : Nat} {d : BindD} (hd : ds[i]? = some d) : ∃ b o cap s, v = .slice (some ⟨b, o, none⟩) ds.length cap ∧ w.cell? ⟨b, o + i * 2, none⟩ = some (.string d.1) ∧ w.cell? ⟨b, o + i * 2 + 1, none⟩ = some s ∧ NumAt w s d.2 := by
  obtain ⟨ts, h, e⟩ := h
  subst e
  rw [List.getElem?_map] at hd
  cases hp : ts[i]? with
  | none => rw [hp] at hd; simp at hd
  | some p =>
    rw [hp] at hd
    simp at hd
    subst hd
    obtain ⟨b, o, cap, e, c0, c1, hk⟩ := bind_get h hp
    exact ⟨b, o, cap, p.2.1, by simpa using e, c0, c1, hk⟩
end
def bindsOne (d : BindD) : Nat := d.1.size + d.2.length
def bindsCost (ds : List BindD) : Nat := ds.length + (ds.map bindsOne).sum
theorem binds_cost {ts : List BindE} {ds : List BindD} (h : ts.map stripBind = ds) : bindCost ts = bindsCost ds := by
  subst h
  unfold bindCost bindsCost bindSum
  rw [List.length_map, List.map_map]
  rfl
theorem binds_one {ds : List BindD} {d : BindD} (h : d ∈ ds) : bindsOne d ≤ bindsCost ds := by
  have : bindsOne d ≤ (ds.map bindsOne).sum := by
    induction ds with
    | nil => simp at h
    | cons x xs ih =>
      simp at h ⊢
      rcases h with rfl | h
      · omega
      · have := ih h
        omega
  unfold bindsCost
  omega
def BindsFit (ds : List BindD) : Prop := ∀ d ∈ ds, d.1.size ≤ 9223372036854775807 ∧ d.2.length ≤ 9223372036854775807
theorem binds_fit {ts : List BindE} {ds : List BindD} (h : ts.map stripBind = ds) (hf : BindsFit ds) : BindFit ts := fun p hp => hf (stripBind p) (by rw [← h]; exact List.mem_map_of_mem hp)
theorem binds_fit' {ts : List BindE} (hf : BindFit ts) : BindsFit (ts.map stripBind) := fun d hd => by
  obtain ⟨p, hp, rfl⟩ := List.mem_map.1 hd
  exact hf p hp
theorem szBinds (ds : List BindD) (v : Value) (left : Int) (w : World) (hv : BindsAt w v ds) (hl : 0 ≤ left) (hm : left ≤ 1048576) (hn : ds.length ≤ 9223372036854775807) (hs : BindsFit ds) :
    Calls Try.prog 13 #[v, .int .i64 left] w fun e w' => e = .returned (.int .i64 (leftOf left (bindsCost ds))) ∧ Kept w w' := by
  obtain ⟨ts, h, e⟩ := hv
  have := szBindS ts v left w h hl hm (by rw [binds_len e]; exact hn) (binds_fit e hs)
  rw [binds_cost e] at this
  exact this
theorem toBinds (ds : List BindD) (v : Value) (w : World) (hv : BindsAt w v ds) (hl : bindsCost ds ≤ 1048576) :
    Calls Try.prog 15 #[v] w fun e w' => ∃ v', e = .returned v' ∧ BindsO w' w.heap.size w'.heap.size v' ds ∧ Kept w w' := by
  obtain ⟨ts, h, e⟩ := hv
  have h1 : ts.length ≤ 1048576 := by rw [binds_len e]; unfold bindsCost at hl; omega
  refine (toBindS ts v w h h1 (fun p hp => ?_)).mono ?_
  · have := binds_one (ds := ds) (d := stripBind p) (by rw [← e]; exact List.mem_map_of_mem hp)
    unfold bindsOne stripBind at this
    dsimp only at this
    omega
  · rintro e' w' ⟨v', ys, rfl, hy, ho, hk⟩
    exact ⟨v', rfl, ⟨ys, ho, hy.trans e⟩, hk⟩
theorem eqBinds (ds : List BindD) (v v' : Value) (w : World) (hv : BindsAt w v ds) (hv' : BindsAt w v' ds) (hl : bindsCost ds ≤ 9000000000000000000) :
    Calls Try.prog 17 #[v, v'] w fun e w' => e = .returned (.bool true) ∧ Kept w w' := by
  obtain ⟨ts, h, e⟩ := hv
  obtain ⟨us, h', e'⟩ := hv'
  refine eqBindS ts us v v' w (e.trans e'.symm) h h' (by rw [binds_len e]; unfold bindsCost at hl; omega) (fun p hp => ?_)
  have := binds_one (ds := ds) (d := stripBind p) (by rw [← e]; exact List.mem_map_of_mem hp)
  unfold bindsOne stripBind at this
  dsimp only at this
  omega

end Go.Proofs.Ythkfpbknfjapaaa
