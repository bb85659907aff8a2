/-
  Marks written over a clip.
-/
import Derived.Test.YtpnplfngglfpoaaClip
import Derived.Test.YtpnplfngglfpoaaMarkM11
import Derived.Test.YtpnplfngglfpoaaTrackM11
namespace Go.Proofs.Ytpnplfngglfpoaa
open Go.ChangeShapes Go.WideShapes Go.ChangeAt Go.RowKit

set_option maxRecDepth 100000
set_option linter.unusedVariables false

/-- How many marks a clip has. -/
def clipMk (c : ClipD) : Nat := (c.2.1.map fun d => 1 + 2 * d.2.length).sum + 2 * c.2.2.length
theorem trk_mk {ts : List TrackE} {ds : List TrackD} (h : ts.map stripTrack = ds) : trkMk ts = (ds.map fun d => 1 + 2 * d.2.length).sum := by
  subst h
  unfold trkMk
  rw [List.map_map]
  rfl
theorem mk_cost (ds : List TrackD) : (ds.map fun d => 1 + 2 * d.2.length).sum ≤ 2 * trsCost ds := by
  unfold trsCost
  induction ds with
  | nil => simp
  | cons d ds ih =>
    simp only [List.map_cons, List.sum_cons, List.length_cons, trsOne] at ih ⊢
    omega
theorem clipMk_le {c : ClipD} (h : clipCost c ≤ 1048576) : clipMk c ≤ 3145728 := by
  have := mk_cost c.2.1
  unfold clipCost markCost at h
  unfold clipMk
  omega
set_option maxHeartbeats 2000000 in
theorem markClip (c : ClipD) (v : Value) (k lo hi : Nat) (w : World) (hv : ClipO w lo hi v c) (hl : clipCost c ≤ 1048576) (hk : k ≤ 1000000) (hh : hi ≤ w.heap.size) :
    Calls Try.prog 33 #[v, .int .i64 (k : Int)] w fun e w' => e = .returned (.int .i64 ((k + clipMk c : Nat) : Int)) ∧ But lo hi w w' := by
  obtain ⟨a1, p1, a2, p2, hfm⟩ := hv.form
  subst hfm
  obtain ⟨m, hm, ⟨ts, ht, et⟩, hr2⟩ := hv.row
  have hmk := clipMk_le hl
  have hcm : clipMk c = trkMk ts + 2 * c.2.2.length := by unfold clipMk; rw [trk_mk et]
  have hlen : ts.length = c.2.1.length := strip_len et
  have hll : c.2.1.length ≤ 1048576 := by unfold clipCost trsCost at hl; omega
  rw [hcm]
  rw [hcm] at hmk
  obtain ⟨x, ds, ms⟩ := c
  dsimp only at *
  clear hv hcm hl et
  obtain ⟨K, hK⟩ : ∃ K : Nat, k + trkMk ts = K := ⟨_, rfl⟩
  have L0 : Loc (w.alloc (.cells #[.int .i64 x, .slice a1 ds.length p1, .slice a2 ms.length p2] 44)) w.heap.size [.int .i64 x, .slice a1 ds.length p1, .slice a2 ms.length p2] := Loc.new w _ _
  have hKA : Kept w (w.alloc (.cells #[.int .i64 x, .slice a1 ds.length p1, .slice a2 ms.length p2] 44)) := (But.refl _ _ _).alloc _
  go_enter Try.func33, Try.ntmps33
  repeat (first | go_values | go_skip | go_guarded | go_step | go_upon)
  go_at_call 71
  refine (markTrackS ts _ k lo m _ (ht.kept hKA) (by omega) (by omega)).mono ?_
  rintro e u1 ⟨rfl, b1⟩
  rw [hK]
  have f2 := (L0.but b1 (by omega)).cell 2 rfl
  have B1 : But lo hi w u1 := (But.of hKA).trans (b1.mono (Nat.le_refl _) hm.2)
  have hr2' := (hr2.kept hKA).but b1 (by omega)
  clear b1
  dsimp only
  repeat (first | go_values | go_skip | go_guarded | go_step | go_upon)
  go_at_call 72
  refine (markMarkS ms _ K m hi _ hr2' (by omega)).mono ?_
  rintro e u2 ⟨rfl, b2⟩
  dsimp only
  repeat (first | go_values | go_skip | go_guarded | go_step | go_upon)
  go_ret
  exact ⟨ret_int (by omega), B1.trans (b2.mono hm.1 (Nat.le_refl _))⟩

end Go.Proofs.Ytpnplfngglfpoaa
