/-
  What the cursor's fixed number is: some number, drawn; it writes into its own block alone.
-/
import Derived.Test.YtocjgpmplmillaaDoorCur
import Derived.Deep.RegionWith
namespace Go.Proofs.YtocjgpmplmillaaDoor
open Go.ChangeShapes Go.WideShapes Go.ChangeAt Go.RowKit

theorem listed_alloc (w : World) (zs : List Int) : Listed (w.alloc (.cells (zs.map fun z => Value.int .i64 z).toArray 3)) w.heap.size zs := by
  intro i hi
  have e : (w.alloc (.cells (zs.map fun z => Value.int .i64 z).toArray 3)).heap[w.heap.size]? = some (.cells (zs.map fun z => Value.int .i64 z).toArray 3) := (MapKept.heap_alloc w _).1
  have h : (zs.map fun z => Value.int .i64 z).toArray[i]? = some (.int .i64 (zs.getD i 0)) := by
    simp [List.getD_eq_getElem?_getD, hi]
  simp only [World.cell?, e]
  exact h

def fxA : List Int := [0, 65536, -65536, 1099511627776, -1099511627776, 1, -1]
def fxB : List Int := [1, 2, 3, 4, 7]
def fxC : List Int := [1099511627777, -1099511627777, 9223372036854775807, -9223372036854775808]

theorem Listed.but {w w' : World} {b l : Nat} {zs : List Int} (h : Listed w l zs) (g : GrownBut b w w') (hl : l ≠ b) : Listed w' l zs := fun i hi => g.cell (h i hi) hl
theorem fxB_bd (z : Int) (h : z ∈ fxB) : 1 ≤ z ∧ z ≤ 7 := by
  simp [fxB] at h
  omega

set_option maxHeartbeats 2000000 in
theorem fixed_ok (w : World) (b : Nat) (K : Int) (h : CurOk w b K) (hK : K ≤ 1152921504606840000) :
    Calls Tryd.prog 25 #[.pointer (some ⟨b, 0, none⟩)] w (Drawn b (K + 20) (fun _ => True) w) := by
  go_enter Tryd.func25, Tryd.ntmps25
  go_wp2_with fail
  refine (pick_ok _ b K 7 h (by omega) (by omega)).mono ?_
  rintro e w1 ⟨r, rfl, hr, hC, hg⟩
  have hlt := hC.lt
  by_cases e0 : r = 0
  · subst e0
    go_wp2_with fail
    refine (among_ok _ b w1.heap.size (K + 2) fxA (hC.grown ((Grown.refl _).alloc _ _)) (by omega) (by omega) (by exact listed_alloc _ fxA) (by decide) (by decide) 7 rfl).mono ?_
    rintro e w2 ⟨z, rfl, hz, hC2, hg2⟩
    go_wp2_with fail
    go_ret
    exact ⟨z, rfl, trivial, hC2.le (by omega), hg.trans ((GrownBut.of ((Grown.refl _).alloc _ _)).trans hg2)⟩
  · have d0 : (r == 0) = false := beq_eq_false_iff_ne.2 e0
    by_cases e1 : r = 1
    · subst e1
      go_wp2_with fail
      refine (wide_ok _ b (K + 2) hC (by omega)).mono ?_
      rintro e w2 ⟨z, rfl, hz, hC2, hg2⟩
      go_wp2_with fail
      go_ret
      exact ⟨_, rfl, trivial, hC2.le (by omega), hg.trans hg2⟩
    · have d1 : (r == 1) = false := beq_eq_false_iff_ne.2 e1
      by_cases e2 : r = 2
      · subst e2
        go_wp2_with fail
        refine (pick_ok _ b (K + 2) 65536 hC (by omega) (by omega)).mono ?_
        rintro e w2 ⟨z, rfl, hz, hC2, hg2⟩
        go_wp2_with fail
        go_ret
        exact ⟨_, rfl, trivial, hC2.le (by omega), hg.trans hg2⟩
      · have d2 : (r == 2) = false := beq_eq_false_iff_ne.2 e2
        clear e0 e1 e2
        go_wp2_with fail
        go_region_with (first
          | (go_at_call_of 20 (Value.int IntKind.i64 41); refine (pick_ok _ b (K + 2) 41 (by first | exact hC.grown (Grown.drew (Grown.refl _)) | exact hC.grown (Grown.alloc (Grown.drew (Grown.refl _)) _ _)) (by omega) (by omega)).mono ?_; rintro e w2 ⟨x, rfl, hx, hC2, hg2⟩; have hlt2 := hC2.lt)
          | (go_at_call 19; refine (among_ok _ b _ (K + 4) fxB (by first | exact hC2.le (by omega) | exact (hC2.grown (Grown.alloc (Grown.refl _) _ _)).le (by omega)) (by omega) (by omega) (by first | exact listed_alloc _ fxB | exact (listed_alloc _ fxB).but hg2 (by omega)) (by decide) (by decide) 5 rfl).mono ?_; rintro e w3 ⟨z, rfl, hz, hC3, hg3⟩; obtain ⟨z1, z2⟩ := fxB_bd z hz)
          | (go_at_call_of 20 (Value.int IntKind.i64 3); refine (pick_ok _ b (K + 6) 3 (hC3.le (by omega)) (by omega) (by omega)).mono ?_; rintro e w4 ⟨y, rfl, hy, hC4, hg4⟩))
        all_goals
          have G : GrownBut b w w4 := by
            first
              | exact hg.trans (GrownBut.trans hg2 (GrownBut.trans (GrownBut.trans (GrownBut.of (Grown.alloc (Grown.refl _) _ _)) hg3) hg4))
              | exact hg.trans (GrownBut.trans (GrownBut.trans (GrownBut.of (Grown.alloc (Grown.refl _) _ _)) hg2) (GrownBut.trans hg3 hg4))
          clear hg hg2 hg3 hg4 hC hC2 hC3
          go_wp2_with fail
          refine (one_ok _ b (K + 8) 60 (hC4.le (by omega)) (by omega) (by omega)).mono ?_
          rintro e w5 ⟨yes, rfl, hC5, hg5⟩
          have hlt5 := hC5.lt
          cases yes
          · go_wp2_with fail
            go_ret
            exact ⟨_, rfl, trivial, hC5.le (by omega), G.trans hg5⟩
          · go_wp2_with fail
            refine (among_ok _ b w5.heap.size (K + 10) fxC ((hC5.grown ((Grown.refl _).alloc _ _)).le (by omega)) (by omega) (by omega) (by exact listed_alloc _ fxC) (by decide) (by decide) 4 rfl).mono ?_
            rintro e w6 ⟨v, rfl, hv, hC6, hg6⟩
            go_wp2_with fail
            go_ret
            exact ⟨v, rfl, trivial, hC6.le (by omega), G.trans (hg5.trans ((GrownBut.of ((Grown.refl _).alloc _ _)).trans hg6))⟩
end Go.Proofs.YtocjgpmplmillaaDoor
