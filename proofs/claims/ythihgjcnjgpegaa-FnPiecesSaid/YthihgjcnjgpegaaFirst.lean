/-
  Which of three places comes first in a heap.
-/
import Derived.Test.YthihgjcnjgpegaaPut0
namespace Go.Proofs.Ythihgjcnjgpegaa
open Go.ChangeShapes Go.WideShapes Go.ChangeAt Go.RowKit

set_option maxRecDepth 100000
/-- One step of the choice among places. -/
def stepF (qs : List TimerD) (k c : Nat) : Nat := if decide (c < qs.length) && aheadB (atT qs c) (atT qs k) then c else k
def pick3 (qs : List TimerD) (k : Nat) : Nat := stepF qs (stepF qs k (2 * k + 1)) (2 * k + 2)
theorem stepF_lt {qs : List TimerD} {k c : Nat} (h : k < qs.length) : stepF qs k c < qs.length := by
  unfold stepF
  split
  · rename_i h'
    simp only [Bool.and_eq_true, decide_eq_true_eq] at h'
    exact h'.1
  · exact h

set_option maxHeartbeats 4000000 in
theorem firstOf (B lo hi k c1 c2 vb : Nat) (uv fv iv : Value) (qs : List TimerD) (w : World) (hL : Loc w B [uv, .func (.func 38) #[] #[], iv, fv]) (ho : TimerO w lo hi iv qs) (hv : Loc w vb [.int .i64 (c1 : Int), .int .i64 (c2 : Int)]) (hk : k < qs.length ∨ qs.length ≤ c1 ∧ qs.length ≤ c2) :
    Calls Try.prog 80 #[.pointer (some ⟨B, 1, none⟩), .int .i64 (k : Int), .slice (some ⟨vb, 0, none⟩) 2 2] w fun e w' => e = .returned (.int .i64 ((stepF qs (stepF qs k c1) c2 : Nat) : Int)) ∧ Kept w w' := by
  obtain ⟨ao, cap, hfm⟩ := ho.form
  subst hfm
  go_enter Try.func80, Try.ntmps80
  go_wp2_with fail
  go_loopw [1, 11] (fun at' i wr => ∃ j a : Nat, i = .int .i64 (j : Int) ∧ at' = .int .i64 (a : Int) ∧ (j = 0 ∧ a = k ∨ j = 1 ∧ a = stepF qs k c1 ∨ j = 2 ∧ a = stepF qs (stepF qs k c1) c2) ∧ Kept w wr) (fun _ i _ => 2 - (intOf i).toNat)
  case atStart => exact ⟨0, k, rfl, rfl, .inl ⟨rfl, rfl⟩, But.refl _ _ _⟩
  case round =>
    obtain ⟨j, a, rfl, rfl, hja, hkp⟩ := hrel
    have L := hL.kept hkp
    have b1 := L.cell 1 rfl
    have b2 := L.cell 2 rfl
    have hBw := L.lt
    by_cases hj : j < 2
    · obtain ⟨c, hc, hnext, hal⟩ : ∃ c : Nat, wr.cell? ⟨vb, j, none⟩ = some (.int .i64 (c : Int)) ∧ (j + 1 = 1 ∧ stepF qs a c = stepF qs k c1 ∨ j + 1 = 2 ∧ stepF qs a c = stepF qs (stepF qs k c1) c2) ∧ (c < qs.length → a < qs.length) := by
        have V := hv.kept hkp
        rcases hja with ⟨rfl, rfl⟩ | ⟨rfl, rfl⟩ | ⟨rfl, rfl⟩
        · exact ⟨c1, V.cell 0 rfl, .inl ⟨rfl, rfl⟩, by omega⟩
        · refine ⟨c2, V.cell 1 rfl, .inr ⟨rfl, rfl⟩, fun h => ?_⟩
          rcases hk with h' | h'
          · exact stepF_lt h'
          · omega
        · omega
      have hvw : vb < wr.heap.size := World.block_lt_of_cell? _ _ hc
      have HN : Hid _ := hnext
      have HKP : Hid _ := hkp
      have hj2 : (j : Int) < 2 := by omega
      clear hnext hja hkp L
      by_cases hcn : c < qs.length
      · have han := hal hcn
        have gc := atT_some hcn
        have ga := atT_some han
        obtain ⟨⟨xa, xb, xc, xd⟩, hx⟩ : ∃ t, atT qs c = t := ⟨_, rfl⟩
        obtain ⟨⟨ya, yb, yc, yd⟩, hy⟩ : ∃ t, atT qs a = t := ⟨_, rfl⟩
        rw [hx] at gc
        rw [hy] at ga
        have ho' := TimerO.kept ho HKP.out
        obtain ⟨g, o, cap', e, d0, d1, d2, d3⟩ := timer_get ho'.at gc
        cases e
        obtain ⟨g', o', cap'', e, f0, f1, f2, f3⟩ := timer_get ho'.at ga
        cases e
        dsimp only at d0 d1 d2 d3 f0 f1 f2 f3
        have hgw : g < wr.heap.size := World.block_lt_of_cell? _ _ d0
        have q1 : decide ((c : Int) < (qs.length : Int)) = true := by simp; omega
        have q2 : decide (c < qs.length) = true := by simp; omega
        have HXY : Hid (atT qs c = (xa, xb, xc, xd) ∧ atT qs a = (ya, yb, yc, yd)) := ⟨hx, hy⟩
        clear hx hy gc ga ho'
        cases q : aheadB (xa, xb, xc, xd) (ya, yb, yc, yd) with
        | true =>
          repeat (first | go_values | go_skip | go_guarded | go_step | go_upon)
          refine wp_region_kept (by kernel_rfl) (by kernel_rfl) ?_
          have hcc := KW.cell_eq wr
          repeat (go_big_quiet_step (first | (go_at_call 38; with_reducible exact kw_call (calls_bool q (firesAhead xa xb xc xd ya yb yc yd _)))))
          refine wpQuiet_nil ?_
          rintro w5 ⟨⟨w6, k5⟩, rfl⟩
          clear hcc
          repeat (first | go_values | go_skip | go_guarded | go_step | go_upon)
          refine ⟨⟨j + 1, c, by go_num, rfl, ?_, HKP.out.trans k5⟩, by simp [intOf]; omega⟩
          have hst : stepF qs a c = c := by unfold stepF; rw [HXY.out.1, HXY.out.2, q, q2]; rfl
          have := HN.out
          rw [hst] at this
          omega
        | false =>
          repeat (first | go_values | go_skip | go_guarded | go_step | go_upon)
          refine wp_region_kept (by kernel_rfl) (by kernel_rfl) ?_
          have hcc := KW.cell_eq wr
          repeat (go_big_quiet_step (first | (go_at_call 38; with_reducible exact kw_call (calls_bool q (firesAhead xa xb xc xd ya yb yc yd _)))))
          refine wpQuiet_nil ?_
          rintro w5 ⟨⟨w6, k5⟩, rfl⟩
          clear hcc
          repeat (first | go_values | go_skip | go_guarded | go_step | go_upon)
          refine ⟨⟨j + 1, a, by go_num, rfl, ?_, HKP.out.trans k5⟩, by simp [intOf]; omega⟩
          have hst : stepF qs a c = a := by unfold stepF; rw [HXY.out.1, HXY.out.2, q, q2]; rfl
          have := HN.out
          rw [hst] at this
          omega
      · have q1 : decide ((c : Int) < (qs.length : Int)) = false := by simp; omega
        have q2 : decide (c < qs.length) = false := by simp; omega
        repeat (first | go_values | go_skip | go_guarded | go_step | go_upon)
        refine wp_region_kept (by kernel_rfl) (by kernel_rfl) ?_
        have hcc := KW.cell_eq wr
        repeat (go_big_quiet_step (first | fail))
        refine wpQuiet_nil ?_
        rintro w5 ⟨⟨w6, k5⟩, rfl⟩
        clear hcc
        repeat (first | go_values | go_skip | go_guarded | go_step | go_upon)
        refine ⟨⟨j + 1, a, by go_num, rfl, ?_, HKP.out.trans k5⟩, by simp [intOf]; omega⟩
        have hst : stepF qs a c = a := by unfold stepF; rw [q2]; rfl
        have := HN.out
        rw [hst] at this
        omega
    · have hja2 : j = 2 ∧ a = stepF qs (stepF qs k c1) c2 := by omega
      obtain ⟨rfl, rfl⟩ := hja2
      go_wp2
      go_ret
      exact ⟨rfl, hkp⟩

end Go.Proofs.Ythihgjcnjgpegaa
