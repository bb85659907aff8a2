/-
  How many open faces there are, in the program.
-/
import Derived.Test.YtnfkgnbhdhpnmaaFaces13
namespace Go.Proofs.Ytnfkgnbhdhpnmaa
open Go.ChangeShapes Go.WideShapes Go.ChangeAt Go.RowKit

set_option maxRecDepth 100000
set_option linter.unusedVariables false

set_option maxHeartbeats 8000000 in
theorem ifaces (a b d : Int) (l : List Int) (ao : Option Addr) (cap : Nat) (w : World) (hv : NumAt w (.slice ao l.length cap) l) (hn : l.length ≤ 1048576) :
    Calls Try.prog 13 #[.agg #[.int .i64 a, .int .i64 b, .int .i64 d, .slice ao l.length cap]] w fun e w' => ∃ v', e = .returned (.tuple #[v', .bool (facesA a b d l).2]) ∧ NumO w' w.heap.size w'.heap.size v' (facesA a b d l).1 ∧ Kept w w' := by
  by_cases hg : BlocksP a b d l
  · have dg : decide (BlocksP a b d l) = true := decide_eq_true hg
    rw [show facesA a b d l = (rowF fun wy => cnt a b d l wy l.length, true) from if_pos hg]
    have hl := hg.len
    have hv5 := hg.edge.vol
    have hlen : l.length ≤ 512 := by omega
    have hpos : 0 < l.length := by omega
    have HG : Hid (BlocksP a b d l) := hg
    clear hl hv5
    obtain ⟨i0, hi, hz0, hz1, hz2⟩ := info_parts info_num
    have hmk : ∀ W : World, (Instr.makeSlice 23 (.int .i64 6) (.int .i64 6)).run Try.prog W = .ok (.slice (some ⟨W.heap.size, 0, none⟩) 6 6) (W.alloc (.cells (madeCells #[.int .i64 0] (6 * 1)) 3)) := fun W => by
      have := run_make (P := Try.prog) W 23 3 i0 _ Try.underlying23 hi hz0 .i64 .i64 (6 : Int) (6 : Int) (by omega) (by omega) (by rw [hz2]; omega) (by omega)
      rw [this, hz1]
      simp [Value.cells]
    have hm := fun (W : World) => row_made W W.heap.size 3 #[.int .i64 0] 1 (by omega) numC num0 numC_len rfl 6 (Nat.le_refl _) (by unfold maxLen; omega)
    clear hi hz0 hz1 hz2
    have HM : Hid _ := hm
    clear hm
    go_enter Try.func13, Try.ntmps13
    repeat (first | (go_at_call 19; refine (igood _ _ _ _ _ _ _ (hv.kept ((But.refl _ _ _).alloc _)) (by omega)).mono ?_; rintro e u1 ⟨rfl, k1⟩; rw [dg]; have K1 : Kept w u1 := ((But.refl _ _ _).alloc _).trans k1; have L1 := (Loc.new w [.int .i64 a, .int .i64 b, .int .i64 d, .slice ao l.length cap] 25).kept k1; have v0 := L1.cell 0 rfl; have v1 := L1.cell 1 rfl; have v2 := L1.cell 2 rfl; have v3 := L1.cell 3 rfl; have vl := L1.lt; (try dsimp only)) | go_values | go_skip | go_guarded | go_step | go_upon)
    have HV : Hid (NumO (u1.alloc (.cells (madeCells #[.int .i64 0] (6 * 1)) 3)) u1.heap.size (u1.heap.size + 1) (.slice (some ⟨u1.heap.size, 0, none⟩) 6 6) (rowF fun wy => 0)) := by
      have := HM.out u1
      show NumO _ _ _ _ _
      unfold NumO
      rw [rowF_len, rowF_zero]
      exact this
    clear hmk HM v0 v1 v2 v3 vl dg
    go_loopw [13] (fun i wr => ∃ k : Nat, k ≤ 6 ∧ i = .int .i64 k ∧ Hid (NumO wr u1.heap.size (u1.heap.size + 1) (.slice (some ⟨u1.heap.size, 0, none⟩) 6 6) (rowF fun wy => if wy < k then cnt a b d l wy l.length else 0)) ∧ Hid (Kept u1 wr)) (fun i _ => 6 - (intOf i).toNat)
    case atStart =>
      refine ⟨0, by omega, rfl, ?_, (But.refl _ _ _).alloc _⟩
      have h := HV.out
      rw [rowF_ext (g := fun _ => 0) (fun j hj => by first | (simp; done) | simp [cnt])]
      exact h
    case round =>
      obtain ⟨k, hk, rfl, HO, HK⟩ := hrel
      clear HV
      by_cases hlt : k < 6
      · have v0 := (L1.kept HK.out).cell 0 rfl
        have v1 := (L1.kept HK.out).cell 1 rfl
        have v2 := (L1.kept HK.out).cell 2 rfl
        have v3 := (L1.kept HK.out).cell 3 rfl
        repeat (first | go_values | go_skip | go_guarded | go_step | go_upon)
        clear v0 v1 v2 v3
        rename World => wq
        go_loopw [19] (fun i wr => ∃ j : Nat, j ≤ l.length ∧ i = .int .i64 j ∧ Hid (NumO wr u1.heap.size (u1.heap.size + 1) (.slice (some ⟨u1.heap.size, 0, none⟩) 6 6) (rowF fun wy => if wy < k then cnt a b d l wy l.length else if wy = k then cnt a b d l wy j else 0)) ∧ Hid (Kept u1 wr)) (fun i _ => l.length - (intOf i).toNat)
        case atStart =>
          refine ⟨0, by omega, rfl, ?_, HK⟩
          have h := HO.out
          rw [rowF_ext (g := fun wy => if wy < k then cnt a b d l wy l.length else 0) (fun j hj => by simp [cnt])]
          exact h
        case round =>
          clear HO HK
          obtain ⟨j, hj, rfl, HO, HK⟩ := hrel
          by_cases hlj : j < l.length
          · have v0 := (L1.kept HK.out).cell 0 rfl
            have v1 := (L1.kept HK.out).cell 1 rfl
            have v2 := (L1.kept HK.out).cell 2 rfl
            have v3 := (L1.kept HK.out).cell 3 rfl
            have hc := cnt_in a b d l k j
            cases q : openM a b d l (j : Nat) k with
            | true =>
              have hs : cnt a b d l k (j + 1) = cnt a b d l k j + 1 := by simp [cnt, q]
              repeat (first | (go_at_call 42; refine (iopen a b d _ _ l ao cap _ (hv.kept (K1.trans HK.out)) (by omega) (by omega) HG.out (by omega)).mono ?_; rintro e u3 ⟨rfl, k3⟩; rw [q]; have HK3 : Hid (Kept u1 u3) := HK.out.trans k3; have o3 := HO.out.kept k3; obtain ⟨d0, dz⟩ := o3.cells (rowF_get _ (show k < 6 by omega)); have dz0 := dz k; have HO3 : Hid (NumO u3 u1.heap.size (u1.heap.size + 1) (.slice (some ⟨u1.heap.size, 0, none⟩) 6 6) (rowF fun wy => if wy < k then cnt a b d l wy l.length else if wy = k then cnt a b d l wy j else 0)) := o3; clear dz o3; have v0 := (L1.kept HK3.out).cell 0 rfl; have v1 := (L1.kept HK3.out).cell 1 rfl; have v2 := (L1.kept HK3.out).cell 2 rfl; have v3 := (L1.kept HK3.out).cell 3 rfl; (try simp only [Nat.lt_irrefl, if_false, if_true] at d0); (try dsimp only)) | go_values | go_skip | go_guarded | go_step | go_upon)
              refine ⟨⟨j + 1, hlj, by go_num, ?_, HK3.out.setNew (by simp) _⟩, by simp [intOf]; omega⟩
              have h := HO3.out.set (rowF_len _).symm (rowF_get _ (show k < 6 by omega)) (cnt a b d l k j + 1)
              rw [rowF_set _ _ (show k < 6 by omega)] at h
              show NumO _ _ _ _ _
              rw [rowF_ext (g := fun i => if i = k then cnt a b d l k j + 1 else (fun wy => if wy < k then cnt a b d l wy l.length else if wy = k then cnt a b d l wy j else 0) i) (fun i hi => by (try dsimp only); rcases Nat.lt_trichotomy i k with h | h | h; (rw [if_pos h, if_neg (by omega), if_pos h]); (subst h; rw [if_neg (by omega), if_pos rfl, if_pos rfl, hs]); (rw [if_neg (by omega), if_neg (by omega), if_neg (by omega), if_neg (by omega), if_neg (by omega)]))]
              exact h
            | false =>
              have hs : cnt a b d l k (j + 1) = cnt a b d l k j := by simp [cnt, q]
              repeat (first | (go_at_call 42; refine (iopen a b d _ _ l ao cap _ (hv.kept (K1.trans HK.out)) (by omega) (by omega) HG.out (by omega)).mono ?_; rintro e u3 ⟨rfl, k3⟩; rw [q]; have HK3 : Hid (Kept u1 u3) := HK.out.trans k3; have o3 := HO.out.kept k3; obtain ⟨d0, dz⟩ := o3.cells (rowF_get _ (show k < 6 by omega)); have dz0 := dz k; have HO3 : Hid (NumO u3 u1.heap.size (u1.heap.size + 1) (.slice (some ⟨u1.heap.size, 0, none⟩) 6 6) (rowF fun wy => if wy < k then cnt a b d l wy l.length else if wy = k then cnt a b d l wy j else 0)) := o3; clear dz o3; have v0 := (L1.kept HK3.out).cell 0 rfl; have v1 := (L1.kept HK3.out).cell 1 rfl; have v2 := (L1.kept HK3.out).cell 2 rfl; have v3 := (L1.kept HK3.out).cell 3 rfl; (try simp only [Nat.lt_irrefl, if_false, if_true] at d0); (try dsimp only)) | go_values | go_skip | go_guarded | go_step | go_upon)
              refine ⟨⟨j + 1, hlj, by go_num, ?_, HK3⟩, by simp [intOf]; omega⟩
              have h := HO3.out
              show NumO _ _ _ _ _
              rw [rowF_ext (g := fun wy => if wy < k then cnt a b d l wy l.length else if wy = k then cnt a b d l wy j else 0) (fun i hi => by (try dsimp only); rcases Nat.lt_trichotomy i k with h | h | h; (rw [if_pos h, if_pos h]); (subst h; rw [if_neg (by omega), if_pos rfl, if_neg (by omega), if_pos rfl, hs]); (rw [if_neg (by omega), if_neg (by omega), if_neg (by omega), if_neg (by omega)]))]
              exact h
          · have hje : j = l.length := by omega
            subst hje
            repeat (first | go_values | go_skip | go_guarded | go_step | go_upon)
            refine ⟨⟨k + 1, hlt, by go_num, ?_, HK⟩, by simp [intOf]; omega⟩
            have h := HO.out
            show NumO _ _ _ _ _
            rw [rowF_ext (g := fun wy => if wy < k then cnt a b d l wy l.length else if wy = k then cnt a b d l wy l.length else 0) (fun i hi => by (try dsimp only); rcases Nat.lt_trichotomy i k with h | h | h; (rw [if_pos (by omega), if_pos h]); (subst h; rw [if_pos (by omega), if_neg (by omega), if_pos rfl]); (rw [if_neg (by omega), if_neg (by omega), if_neg (by omega)]))]
            exact h
      · have hke : k = 6 := by omega
        subst hke
        repeat (first | go_values | go_skip | go_guarded | go_step | go_upon)
        go_returns
        refine ⟨_, rfl, ?_, K1.trans HK.out⟩
        have h := HO.out
        have hs := K1.size
        have hs2 := HK.out.size
        have h2 := own_lt h.1 (g := u1.heap.size) rfl
        rw [rowF_ext (g := fun wy => if wy < 6 then cnt a b d l wy l.length else 0) (fun i hi => by (try dsimp only); rw [if_pos hi])]
        exact NumO.mono h hs h2.2
  · have dg : decide (BlocksP a b d l) = false := decide_eq_false hg
    rw [show facesA a b d l = ([], false) from if_neg hg]
    go_enter Try.func13, Try.ntmps13
    repeat (first | (go_at_call 19; refine (igood _ _ _ _ _ _ _ (hv.kept ((But.refl _ _ _).alloc _)) (by omega)).mono ?_; rintro e u1 ⟨rfl, k1⟩; rw [dg]; have K1 : Kept w u1 := ((But.refl _ _ _).alloc _).trans k1; have L1 := (Loc.new w [.int .i64 a, .int .i64 b, .int .i64 d, .slice ao l.length cap] 25).kept k1; have v0 := L1.cell 0 rfl; have v1 := L1.cell 1 rfl; have v2 := L1.cell 2 rfl; have v3 := L1.cell 3 rfl; have vl := L1.lt; (try dsimp only)) | go_values | go_skip | go_guarded | go_step | go_upon)
    go_returns
    exact ⟨_, rfl, RowO.top (World.ownsRow_nil _ _ _ _), K1⟩

end Go.Proofs.Ytnfkgnbhdhpnmaa
