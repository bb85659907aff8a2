/-
  Lists of tracks as plain data.
-/
import Derived.Test.YtpnplfngglfpoaaTrackF
import Derived.Test.YtpnplfngglfpoaaTrackE
namespace Go.Proofs.Ytpnplfngglfpoaa
open Go.ChangeShapes Go.WideShapes Go.ChangeAt Go.RowKit

set_option maxRecDepth 100000
set_option linter.unusedVariables false
/-- Lists of tracks as plain data. -/
def TrsAt (w : World) (v : Value) (ds : List TrackD) : Prop := ∃ ts, TrackAt w v ts ∧ ts.map stripTrack = ds
def TrsO (w : World) (lo hi : Nat) (v : Value) (ds : List TrackD) : Prop := ∃ ts, TrackO w lo hi v ts ∧ ts.map stripTrack = ds
section
variable {w w' : World} {v : Value} {ds : List TrackD} {lo hi lo' hi' : Nat}
theorem strip_len {ts : List TrackE} (h : ts.map stripTrack = ds) : ts.length = ds.length := by rw [← h]; simp
theorem TrsAt.kept (h : TrsAt w v ds) (k : Kept w w') : TrsAt w' v ds := by obtain ⟨ts, h, e⟩ := h; exact ⟨ts, h.kept k, e⟩
theorem TrsO.kept (h : TrsO w lo hi v ds) (k : Kept w w') : TrsO w' lo hi v ds := by obtain ⟨ts, h, e⟩ := h; exact ⟨ts, h.kept k, e⟩
theorem TrsO.but (h : TrsO w lo hi v ds) (k : But lo' hi' w w') (ho : hi ≤ lo' ∨ hi' ≤ lo) : TrsO w' lo hi v ds := by obtain ⟨ts, h, e⟩ := h; exact ⟨ts, h.but k ho, e⟩
theorem TrsO.mono (h : TrsO w lo hi v ds) (h1 : lo' ≤ lo) (h2 : hi ≤ hi') : TrsO w lo' hi' v ds := by obtain ⟨ts, h, e⟩ := h; exact ⟨ts, h.mono h1 h2, e⟩
theorem TrsO.low (h : TrsO w lo hi v ds) : TrsO w lo w.heap.size v ds := by obtain ⟨ts, h, e⟩ := h; exact ⟨ts, h.low, e⟩
theorem TrsO.at (h : TrsO w lo hi v ds) : TrsAt w v ds := by obtain ⟨ts, h, e⟩ := h; exact ⟨ts, h.at, e⟩
theorem TrsAt.form (h : TrsAt w v ds) : ∃ ao cap, v = .slice ao ds.length cap := by
  obtain ⟨ts, h, e⟩ := h
  obtain ⟨ao, cap, he⟩ := row_nil h.1
  exact ⟨ao, cap, by rw [he, strip_len e]⟩
theorem TrsO.form (h : TrsO w lo hi v ds) : ∃ ao cap, v = .slice ao ds.length cap := h.at.form
theorem TrsAt.get (h : TrsAt w v ds) {i : Nat} {d : TrackD} (hd : ds[i]? = some d) : ∃ b o cap s, v = .slice (some ⟨b, o, none⟩) ds.length cap ∧ w.cell? ⟨b, o + i * 2, none⟩ = some (.string d.1) ∧ w.cell? ⟨b, o + i * 2 + 1, none⟩ = some s ∧ KeyAt w s d.2 := by
  obtain ⟨ts, h, e⟩ := h
  subst e
  rw [List.getElem?_map] at hd
  cases hp : ts[i]? with
  | none => rw [hp] at hd; simp at hd
  | some p =>
    rw [hp] at hd
    simp at hd
    subst hd
    obtain ⟨b, o, cap, e, c0, c1, hk⟩ := track_get h hp
    exact ⟨b, o, cap, p.2.1, by simpa using e, c0, c1, hk⟩
end
def trsOne (d : TrackD) : Nat := d.1.size + d.2.length
def trsCost (ds : List TrackD) : Nat := ds.length + (ds.map trsOne).sum
theorem trs_cost {ts : List TrackE} {ds : List TrackD} (h : ts.map stripTrack = ds) : trackCost ts = trsCost ds := by
  subst h
  unfold trackCost trsCost trackSum
  rw [List.length_map, List.map_map]
  rfl
theorem trs_one {ds : List TrackD} {d : TrackD} (h : d ∈ ds) : trsOne d ≤ trsCost ds := by
  have : trsOne d ≤ (ds.map trsOne).sum := by
    induction ds with
    | nil => simp at h
    | cons x xs ih =>
      simp at h ⊢
      rcases h with rfl | h
      · omega
      · have := ih h
        omega
  unfold trsCost
  omega
def TrsFit (ds : List TrackD) : Prop := ∀ d ∈ ds, d.1.size ≤ 9223372036854775807 ∧ d.2.length ≤ 9223372036854775807
theorem trs_fit {ts : List TrackE} {ds : List TrackD} (h : ts.map stripTrack = ds) (hf : TrsFit ds) : TrackFit ts := fun p hp => hf (stripTrack p) (by rw [← h]; exact List.mem_map_of_mem hp)
theorem szTrs (ds : List TrackD) (v : Value) (left : Int) (w : World) (hv : TrsAt w v ds) (hl : 0 ≤ left) (hm : left ≤ 1048576) (hn : ds.length ≤ 9223372036854775807) (hs : TrsFit ds) :
    Calls Try.prog 60 #[v, .int .i64 left] w fun e w' => e = .returned (.int .i64 (leftOf left (trsCost ds))) ∧ Kept w w' := by
  obtain ⟨ts, h, e⟩ := hv
  have := szTrackS ts v left w h hl hm (by rw [strip_len e]; exact hn) (trs_fit e hs)
  rw [trs_cost e] at this
  exact this
theorem toTrs (ds : List TrackD) (v : Value) (w : World) (hv : TrsAt w v ds) (hl : trsCost ds ≤ 1048576) :
    Calls Try.prog 63 #[v] w fun e w' => ∃ v', e = .returned v' ∧ TrsO w' w.heap.size w'.heap.size v' ds ∧ Kept w w' := by
  obtain ⟨ts, h, e⟩ := hv
  have h1 : ts.length ≤ 1048576 := by rw [strip_len e]; unfold trsCost at hl; omega
  refine (toTrackS ts v w h h1 (fun p hp => ?_)).mono ?_
  · have := trs_one (ds := ds) (d := stripTrack p) (by rw [← e]; exact List.mem_map_of_mem hp)
    unfold trsOne stripTrack at this
    dsimp only at this
    omega
  · rintro e' w' ⟨v', ys, rfl, hy, ho, hk⟩
    exact ⟨v', rfl, ⟨ys, ho, hy.trans e⟩, hk⟩
theorem eqTrs (ds : List TrackD) (v v' : Value) (w : World) (hv : TrsAt w v ds) (hv' : TrsAt w v' ds) (hl : trsCost ds ≤ 9000000000000000000) :
    Calls Try.prog 67 #[v, v'] w fun e w' => e = .returned (.bool true) ∧ Kept w w' := by
  obtain ⟨ts, h, e⟩ := hv
  obtain ⟨us, h', e'⟩ := hv'
  refine eqTrackS ts us v v' w (e.trans e'.symm) h h' (by rw [strip_len e]; unfold trsCost at hl; omega) (fun p hp => ?_)
  have := trs_one (ds := ds) (d := stripTrack p) (by rw [← e]; exact List.mem_map_of_mem hp)
  unfold trsOne stripTrack at this
  dsimp only at this
  omega

end Go.Proofs.Ytpnplfngglfpoaa
