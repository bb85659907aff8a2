/-
  What copyWorld answers: the same world, in memory of its own.
-/
import Derived.Test.YtajelalimiobeaaCopy
namespace Go.Proofs.Ytajelalimiobeaa
open Go.ChangeShapes Go.WideShapes Go.ChangeAt Go.RowKit

set_option maxHeartbeats 4000000 in
theorem implCopy (D : WD) (v : Value) (w : World) (hv : WAt w v D) (hl : ecost D.2.2 ≤ 1048576) :
    Calls Try.prog 73 #[v] w fun e w' => ∃ v', e = .returned v' ∧ WO w' w.heap.size w'.heap.size v' D ∧ Kept w w' := by
  obtain ⟨ev, zs, rfl, he, hes⟩ := hv
  obtain ⟨ao, cap, hsl⟩ := row_nil he.1
  subst hsl
  have hzl : zs.length = D.2.2.length := by rw [← hes]; simp
  have hl1 : zs.length ≤ 1048576 := by unfold ecost at hl; omega
  have hl2 : ∀ z ∈ zs, z.2.2.length ≤ 1048576 := fun z hz => by
    obtain ⟨i, hi⟩ := List.mem_iff_getElem?.1 hz
    have := parts_le (l := D.2.2) (k := i) (e := strip z) (by rw [← hes, List.getElem?_map, hi]; rfl)
    unfold ecost at hl
    unfold pcost at this
    simp only [strip] at this
    omega
  have HE : Hid (zs.map strip = D.2.2) := hes
  clear hes hzl
  obtain ⟨i0, hi, hz0, hz1, hz2⟩ := info_parts info89
  obtain ⟨j0, hj, hy0, hy1, hy2⟩ := info_parts info36
  go_enter Try.func73, Try.ntmps73
  go_wp2
  go_loopw [15] (fun i wr => ∃ (k : Nat) (ao2 : Option Addr) (cap2 : Nat) (ys : List PE), k ≤ zs.length ∧ i = .int .i64 k ∧ ys.length = k ∧ ys.map strip = (zs.take k).map strip ∧ EntsO wr (w.heap.size + 3) wr.heap.size (.slice ao2 k cap2) ys ∧ Loc wr w.heap.size [.int .i64 D.1, .int .i64 D.2.1, .slice ao zs.length cap] ∧ Loc wr (w.heap.size + 1) [.int .i64 0, .int .i64 0, .slice none 0 0] ∧ Loc wr (w.heap.size + 1 + 1) [.int .i64 D.1, .int .i64 D.2.1, .slice ao2 k cap2] ∧ Kept w wr) (fun i _ => zs.length - (intOf i).toNat)
  case atStart =>
    have l1 := Loc.new (w.alloc (.cells #[.int .i64 D.1, .int .i64 D.2.1, .slice ao zs.length cap] 25)) [.int .i64 0, .int .i64 0, .slice none 0 0] 25
    have l2 := Loc.new ((w.alloc (.cells #[.int .i64 D.1, .int .i64 D.2.1, .slice ao zs.length cap] 25)).alloc (.cells #[.int .i64 0, .int .i64 0, .slice none 0 0] 25)) [.int .i64 D.1, .int .i64 D.2.1, .slice none 0 0] 25
    simp only [World.size_alloc] at l1 l2
    exact ⟨0, none, 0, [], by omega, rfl, rfl, by simp, ⟨⟨World.ownsRow_nil _ _ _ _, fun g hg => by simp [Value.ownBlock] at hg⟩, fun i z hz => by simp at hz, fun i j z z' _ hz => by simp at hz⟩, ((Loc.new _ [.int .i64 D.1, .int .i64 D.2.1, .slice ao zs.length cap] 25).alloc _).alloc _, l1.alloc _, l2, (((But.refl _ _ _).alloc _).alloc _).alloc _⟩
  case round =>
    obtain ⟨k, ao2, cap2, ys, hk, rfl, hyl, hys, ho, L0, L1, L2, hkp⟩ := hrel
    have HY : Hid (ys.length = k ∧ ys.map strip = (zs.take k).map strip) := ⟨hyl, hys⟩
    clear hyl hys
    by_cases hlt : k < zs.length
    · obtain ⟨z, hz⟩ : ∃ z, zs[k]? = some z := ⟨_, List.getElem?_eq_getElem hlt⟩
      obtain ⟨b, o, cap', ao1, n, cap'', e, ez, c0, c1, en, hpa⟩ := ents_get (he.kept hkp) hz
      cases e
      subst en
      have hpl := hl2 z (List.mem_of_getElem? hz)
      have hor : wr.ownsRow (w.heap.size + 3) 36 2 (.slice ao2 k cap2) k (entCells ys) := by have := ho.row.1; rw [HY.out.1] at this; exact this
      have hbs : w.heap.size + 1 + 1 < wr.heap.size := L2.lt
      have t2 := L2.cell 2 rfl
      cases ao1 with
      | none =>
        have hpn := parts_none hpa rfl
        have happ := fun u => run_append_none (P := Try.prog) u 34 34 89 i0 Try.underlying34 hi none 0 0 cap'' (Nat.le_refl _)
        have hz0' : z.2.2.length = 0 := by rw [hpn]; rfl
        rw [hz0'] at c1
        have HPN : Hid (z.2.2 = []) := hpn
        have HL0 : Hid _ := L0
        have HL1 : Hid _ := L1
        have HL2 : Hid _ := L2
        have HO : Hid _ := ho
        have HK : Hid _ := hkp
        clear hpn hz0' hz0 hz1 hz2 hpa hl2 L0 L1 L2 ho hkp ez he hl
        go_wp2_with (first
          | (at_builtin; refine wpList_append_own _ rfl _ _ 23 rfl (w.heap.size + 3) 36 j0 (.agg #[.int .i64 0, .slice none 0 0]) 2 32 Try.underlying23 hj hy0 hy1 hy2 rfl (by decide) _ _ _ rfl (own_kept hor (((But.refl _ _ wr).alloc _).alloc _)) ⟨_, 0, none⟩ 1 1 [.int .i64 z.1, .slice none 0 0] rfl rfl (news2 _ _ _ _ _ (by simp)) (one2 _ _ _ _) (by unfold maxLen; omega) (by omega) (by simp; omega) ?_
             intro v' w1 hown' hgrow _
             have hst := copy_step (z := z) (lo' := wr.heap.size) (pv := .slice none 0 0) (((But.refl _ _ wr).alloc _).alloc _) HO.out (by rw [HPN.out]; exact ⟨World.ownsRow_nil _ _ _ _, fun g hg => by simp [Value.ownBlock] at hg⟩) (by omega) (by omega) (by rw [HY.out.1]; exact hown') hgrow
             obtain ⟨ho1, hL1, hK1⟩ := hst
             obtain ⟨ao5, cap5, hf5, _⟩ := own_form hown'
             subst hf5
             have M0 := hL1 _ _ HL0.out (by omega)
             have M1 := hL1 _ _ HL1.out (by omega)
             have M2 := hL1 _ _ HL2.out (by omega)
             have m2 := M2.cell 2 rfl
             have mf := M2.frozen 2
             have HR : Hid (EntsO w1 (w.heap.size + 3) w1.heap.size (.slice ao5 (k + 1) cap5) (ys ++ [(z.1, .slice none 0 0, z.2.2)]) ∧ Kept w w1) := ⟨ho1, hK1 w HK.out (by omega)⟩
             have HM0 : Hid _ := M0
             have HM1 : Hid _ := M1
             have HM2 : Hid _ := M2
             clear ho1 hL1 hK1 hown' hgrow M0 M1 M2))
        have B : But (w.heap.size + 1 + 1) (w.heap.size + 3) w1 (w1.setCell ⟨w.heap.size + 1 + 1, 2, none⟩ (.slice ao5 (k + 1) cap5)) := (But.refl _ _ _).setCell (by simp) (by simp) _
        refine ⟨⟨k + 1, ao5, cap5, _, hlt, by go_num, by simp [HY.out.1], snoc_strip hz HY.out.2, (HR.out.1.but B (by omega)).low, Loc.but HM0.out B (by omega), Loc.but HM1.out B (by omega), Loc.set HM2.out 2 _, HR.out.2.onto B (by omega)⟩, by simp [intOf]; omega⟩
      | some a =>
        have HL0 : Hid _ := L0
        have HL1 : Hid _ := L1
        have HL2 : Hid _ := L2
        have HO : Hid _ := ho
        have HK : Hid _ := hkp
        have HP : Hid _ := hpa
        clear hpa hl2 L0 L1 L2 ho hkp ez he hl
        go_wp2_with (first
          | (at_builtin; refine wpList_append_own _ rfl _ _ 34 rfl (wr.heap.size + 1) 89 i0 (.agg #[.string ByteArray.empty, .int .i64 0, .int .i64 0]) 3 32 Try.underlying34 hi hz0 hz1 hz2 rfl (by decide) _ _ _ rfl (World.ownsRow_nil _ _ _ _) a z.2.2.length cap'' (partCells z.2.2) rfl (pcells_len _) (row_cells (HP.out.kept ((But.refl _ _ wr).alloc _))) (pc_one _) (by unfold maxLen; omega) (by omega) (by simp) ?_
             intro v3 w3 hown3 hgrow3 _
             obtain ⟨ao3, cap3, hf3, _⟩ := own_form hown3
             subst hf3
             have LE := (Loc.new wr [.int .i64 z.1, .slice (some a) z.2.2.length cap''] 36).grown hgrow3 (by simp [Value.ownBlock, Act.eval])
             have f0 := LE.cell 0 rfl
             have HKX : Hid (Kept wr w3) := ((But.refl _ _ wr).alloc _).grown hgrow3 (by intro x hx; simp [Value.ownBlock, Act.eval] at hx)
             have hs3 : wr.heap.size ≤ w3.heap.size := HKX.out.size
             have HO3 : Hid _ := own_zero hown3 rfl
             have t3 := (Loc.kept HL2.out HKX.out).cell 2 rfl
             clear hgrow3 hown3 LE)
          | (at_builtin; refine wpList_append_own _ rfl _ _ 23 rfl (w.heap.size + 3) 36 j0 (.agg #[.int .i64 0, .slice none 0 0]) 2 32 Try.underlying23 hj hy0 hy1 hy2 rfl (by decide) _ _ _ rfl (own_kept hor (HKX.out.alloc _)) ⟨_, 0, none⟩ 1 1 [.int .i64 z.1, .slice ao3 z.2.2.length cap3] rfl rfl (news2 _ _ _ _ _ (by simp)) (one2 _ _ _ _) (by unfold maxLen; omega) (by omega) (by simp; omega) ?_
             intro v' w1 hown' hgrow _
             have hst := copy_step (z := z) (lo' := wr.heap.size + 1) (pv := .slice ao3 z.2.2.length cap3) (HKX.out.alloc _) HO.out (by
               have h := HO3.out
               rw [Nat.zero_add] at h
               exact (PartsO.kept h ((But.refl _ _ _).alloc _)).low) (by omega) (by omega) (by rw [HY.out.1]; exact hown') hgrow
             obtain ⟨ho1, hL1, hK1⟩ := hst
             obtain ⟨ao5, cap5, hf5, _⟩ := own_form hown'
             subst hf5
             have M0 := hL1 _ _ HL0.out (by omega)
             have M1 := hL1 _ _ HL1.out (by omega)
             have M2 := hL1 _ _ HL2.out (by omega)
             have m2 := M2.cell 2 rfl
             have mf := M2.frozen 2
             have HR : Hid (EntsO w1 (w.heap.size + 3) w1.heap.size (.slice ao5 (k + 1) cap5) (ys ++ [(z.1, .slice ao3 z.2.2.length cap3, z.2.2)]) ∧ Kept w w1) := ⟨ho1, hK1 w HK.out (by omega)⟩
             have HM0 : Hid _ := M0
             have HM1 : Hid _ := M1
             have HM2 : Hid _ := M2
             clear ho1 hL1 hK1 hown' hgrow M0 M1 M2))
        have B : But (w.heap.size + 1 + 1) (w.heap.size + 3) w1 (w1.setCell ⟨w.heap.size + 1 + 1, 2, none⟩ (.slice ao5 (k + 1) cap5)) := (But.refl _ _ _).setCell (by simp) (by simp) _
        refine ⟨⟨k + 1, ao5, cap5, _, hlt, by go_num, by simp [HY.out.1], snoc_strip hz HY.out.2, (HR.out.1.but B (by omega)).low, Loc.but HM0.out B (by omega), Loc.but HM1.out B (by omega), Loc.set HM2.out 2 _, HR.out.2.onto B (by omega)⟩, by simp [intOf]; omega⟩
    · have hke : k = zs.length := by omega
      subst hke
      have f0 := L2.cell 0 rfl
      have f1 := L2.cell 1 rfl
      have f2 := L2.cell 2 rfl
      have e0 := L1.cell 0 rfl
      have e1 := L1.cell 1 rfl
      have e2 := L1.cell 2 rfl
      have q0 := L1.frozen 0
      have q1 := L1.frozen 1
      have q2 := L1.frozen 2
      have HO : Hid _ := ho
      have HK : Hid _ := hkp
      clear ho hkp L0 L1 L2 he
      go_wp2
      have B : But w.heap.size (w.heap.size + 3) wr (((wr.setCell ⟨w.heap.size + 1, 0, none⟩ (.int .i64 D.1)).setCell ⟨w.heap.size + 1, 1, none⟩ (.int .i64 D.2.1)).setCell ⟨w.heap.size + 1, 2, none⟩ (.slice ao2 zs.length cap2)) :=
        (((But.refl _ _ _).setCell (by simp) (by simp) _).setCell (by simp) (by simp) _).setCell (by simp) (by simp) _
      refine bodyPost_ret (v := .agg #[.int .i64 D.1, .int .i64 D.2.1, .slice ao2 zs.length cap2]) (by simp [results, Try.results73, go_sem, e0, e1, e2]) rfl ?_
      refine ⟨_, rfl, ⟨_, ys, rfl, ((HO.out.but B (by omega)).mono (by omega) B.size).low, ?_⟩, HK.out.onto B (Nat.le_refl _)⟩
      rw [HY.out.2, List.take_length]
      exact HE.out
end Go.Proofs.Ytajelalimiobeaa
