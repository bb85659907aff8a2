/-
  The closure by which figures are sorted from the left.
-/
import Derived.Test.YtfibikkbhbmfkaaLeft9
namespace Go.Proofs.Ytfibikkbhbmfkaa
open Go.ChangeShapes Go.WideShapes Go.ChangeAt Go.RowKit

set_option maxRecDepth 100000
set_option linter.unusedVariables false
set_option linter.unusedSimpArgs false

open Go.Sort
attribute [local go_sem] mth_box mth_disk fld0 fld1 fld2 fld3
set_option maxHeartbeats 8000000 in
theorem cloLeft (ps : List ShapeD) (fao : Option Addr) (fcap Bf : Nat) (i j : Nat) (p q : ShapeD) (w : World) (hv : FigAt w (.slice fao ps.length fcap) ps) (hp : ps[i]? = some p) (hp2 : ps[j]? = some q) (hg : ShapeP p) (hg2 : ShapeP q) (hl : ps.length ≤ 40) (hf : w.cell? ⟨Bf, 0, none⟩ = some (.slice fao ps.length fcap)) :
    Calls Try.prog 64 #[.int .i64 (i : Int), .int .i64 (j : Int), .pointer (some ⟨Bf, 0, none⟩)] w fun e w' => e = .returned (.int .i64 (orI (cmpI (bnd p).1 (bnd q).1) (cmpI (i : Int) (j : Int)))) ∧ Gr w w' := by
  have hi : i < ps.length := (List.getElem?_eq_some_iff.1 hp).1
  have hj : j < ps.length := (List.getElem?_eq_some_iff.1 hp2).1
  obtain ⟨b, o, cap', e, c0⟩ := fig_get hv hp
  cases e
  obtain ⟨b', o', cap', e, d0⟩ := fig_get hv hp2
  cases e
  obtain ⟨t, v, fn, hfv, hc, hk⟩ := fig_bounds hg
  obtain ⟨t2, v2, fn2, hfv2, hc2, hk2⟩ := fig_bounds hg2
  rw [hfv] at c0
  rw [hfv2] at d0
  have q1 := cell_lt c0
  have q2 := cell_lt hf
  have HC : Hid _ := hc
  have HC2 : Hid _ := hc2
  clear hc hfv hv hp hc2 hfv2 hp2
  obtain ⟨⟨b0, b1, b2, b3⟩, hq⟩ : ∃ q, bnd p = q := ⟨_, rfl⟩
  obtain ⟨⟨e0, e1, e2, e3⟩, hq2⟩ : ∃ r, bnd q = r := ⟨_, rfl⟩
  rw [hq] at HC ⊢
  rw [hq2] at HC2 ⊢
  dsimp only at HC HC2 ⊢
  rcases hk with ⟨rfl, rfl⟩ | ⟨rfl, rfl⟩ <;> rcases hk2 with ⟨rfl, rfl⟩ | ⟨rfl, rfl⟩
  all_goals
    go_enter Try.func64, Try.ntmps64
    repeat (first | go_values | go_skip | go_guarded | go_step | go_upon)
    refine wp_region_gsp 16 6 (by kernel_rfl) (by kernel_rfl) (by kernel_rfl) (by decide) ?_
    have hcc := GW.cell_eq w
    simp only [List.take_succ_cons, List.take_zero, List.drop_succ_cons, List.drop_zero]
    repeat (go_big_quiet_step (first | (go_at_call 66; exact gw_same (compareI _ _ _)) | (go_at_call 133; first | with_reducible exact gw_call (HC.out _) | with_reducible exact gw_call (HC2.out _)) | (go_at_call 135; first | with_reducible exact gw_call (HC.out _) | with_reducible exact gw_call (HC2.out _))))
    refine wpQuiet_nil ?_
    rintro w5 ⟨⟨w6, k5⟩, h5⟩
    change w5 = w6 at h5
    subst h5
    clear hcc
    have hk : Gr w w5 := k5
    clear k5
    repeat (first | (go_at_call 65; refine (cmpOrN _ _ _).mono ?_; rintro e w' ⟨rfl, rfl⟩; dsimp only) | go_values | go_skip | go_guarded | go_step | go_upon)
    go_ret
    exact ⟨rfl, by (repeat (first | with_reducible exact hk | with_reducible apply Gr.drewN | with_reducible apply Gr.drew | with_reducible apply Gr.alloc))⟩

end Go.Proofs.Ytfibikkbhbmfkaa
