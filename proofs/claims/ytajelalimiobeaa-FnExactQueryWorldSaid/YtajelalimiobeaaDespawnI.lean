/-
  What Despawn answers in the program where it takes an entity away.
-/
import Derived.Test.YtajelalimiobeaaDespawn
namespace Go.Proofs.Ytajelalimiobeaa
open Go.ChangeShapes Go.WideShapes Go.ChangeAt Go.RowKit

set_option maxHeartbeats 4000000 in
set_option maxRecDepth 100000 in
theorem implDespawnOk (D : WD) (id : Int) (k : Nat) (e : ED) (hg : GoodW D) (hk : D.2.2[k]? = some e) (hid : e.1 = id) (hc : ecost D.2.2 ≤ 1048576) (u : World) (lo hi : Nat) (v : Value) (ho : WO u lo hi v D) :
    Calls Try.prog 31 #[v, .int .i64 id] u fun e u' => ∃ v', e = .returned (.tuple #[v', .int .i64 0]) ∧ WO u' u.heap.size u'.heap.size v' (D.1, D.2.1, D.2.2.eraseIdx k) ∧ Kept u u' := by
  obtain ⟨ao, n, cap, hfm⟩ := ho.form
  subst hfm
  have hA := ho.at
  have HE : Hid (D.2.2[k]? = some e ∧ e.1 = id) := ⟨hk, hid⟩
  clear hk hid
  go_enter Try.func31, Try.ntmps31
  go_wp2_with (first
    | (go_at_call 27; refine (good_yes (implGood D _ _ (hA.kept (((But.refl _ _ u).alloc _).alloc _)) hc) hg).mono ?_; rintro e u1 ⟨rfl, k1⟩
       have K1 : Kept u u1 := (((But.refl _ _ u).alloc _).alloc _).trans k1
       have L0 := ((Loc.new u [.int .i64 D.1, .int .i64 D.2.1, .slice ao n cap] 25).alloc _).kept k1
       have L1 := (Loc.new (u.alloc (.cells #[.int .i64 D.1, .int .i64 D.2.1, .slice ao n cap] 25)) [.int .i64 0, .int .i64 0, .slice none 0 0] 25).kept k1
       simp only [World.size_alloc] at L1
       have x0 := L0.cell 0 rfl
       have x1 := L0.cell 1 rfl
       have x2 := L0.cell 2 rfl
       have xf0 := L0.frozen 0
       have xf1 := L0.frozen 1
       have xf2 := L0.frozen 2
       have y0 := L1.cell 0 rfl
       have y1 := L1.cell 1 rfl
       have y2 := L1.cell 2 rfl
       have yf0 := L1.frozen 0
       have yf1 := L1.frozen 1
       have yf2 := L1.frozen 2
       have HL0 : Hid _ := L0
       have HL1 : Hid _ := L1
       have HK1 : Hid _ := K1
       clear k1 L0 L1 K1)
    | (go_at_call 73; refine (implCopy D _ _ (hA.kept HK1.out) hc).mono ?_; rintro e u2 ⟨v2, rfl, o2, k2⟩
       obtain ⟨ao2, n2, cap2, hfm2⟩ := o2.form
       subst hfm2
       obtain ⟨zs, hzn, hen, hst⟩ := o2.ents
       have h60 : zs.length ≤ 60 := by
         have h5 := hg.2.2.2.2.1
         have := congrArg List.length hst
         rw [List.length_map] at this
         omega
       subst hzn
       have HEN : Hid (EntsO u2 u1.heap.size u2.heap.size (.slice ao2 zs.length cap2) zs ∧ zs.map strip = D.2.2) := ⟨hen, hst⟩
       have hbase := Loc.lt HL1.out
       have hbase2 := k2.size
       clear hen hst
       have HZ : Hid (∃ z, zs[k]? = some z ∧ z.1 = id) := by
         have h1 := HE.out.1
         rw [← HEN.out.2, List.getElem?_map] at h1
         cases hz : zs[k]? with
         | none => rw [hz] at h1; cases h1
         | some z => rw [hz] at h1; simp at h1; exact ⟨z, rfl, by rw [← HE.out.2, ← h1]; rfl⟩
       have K2 := HK1.out.trans k2
       have L0 := Loc.kept HL0.out k2
       have L1 := Loc.kept HL1.out k2
       have s2 := HK1.out.size
       have s3 := k2.size
       have s4 := L1.lt
       have s6 := L0.lt
       have s5 := Loc.lt HL1.out
       clear x0 x1 x2 xf0 xf1 xf2 y0 y1 y2 yf0 yf1 yf2 HL0 HL1 HK1 k2
       have x0 := L0.cell 0 rfl
       have x1 := L0.cell 1 rfl
       have x2 := L0.cell 2 rfl
       have xf0 := L0.frozen 0
       have xf1 := L0.frozen 1
       have xf2 := L0.frozen 2
       have y0 := L1.cell 0 rfl
       have y1 := L1.cell 1 rfl
       have y2 := L1.cell 2 rfl
       have yf0 := L1.frozen 0
       have yf1 := L1.frozen 1
       have yf2 := L1.frozen 2

       have HL0 : Hid _ := L0
       have HL1 : Hid _ := L1
       have HK2 : Hid _ := K2
       have HO2 : Hid _ := o2
       clear L0 L1 K2 o2)
    | (go_at_call 75; obtain ⟨z, hz, hzid⟩ := HZ.out; refine (find_yes zs id k z hz hzid _ _ (HEN.out.1.kept ((But.refl _ _ u2).alloc _)).at (rise_of hg HEN.out.2) (by omega)).mono ?_; rintro e u3 ⟨rfl, k3⟩
       have hkl : k < zs.length := (List.getElem?_eq_some_iff.1 hz).1
       have M1 := (Loc.alloc HL1.out _).kept k3
       have M2 := (LocT.new u2 [.int .i64 D.1, .int .i64 D.2.1, .slice ao2 zs.length cap2] 25).kept k3
       have hm2 := M2.loc
       have s7 := k3.size
       simp only [World.size_alloc] at s7
       have p0 := M1.cell 0 rfl
       have p1 := M1.cell 1 rfl
       have p2 := M1.cell 2 rfl
       have pf0 := M1.frozen 0
       have pf1 := M1.frozen 1
       have pf2 := M1.frozen 2
       have t0 := hm2.cell 0 rfl
       have t1 := hm2.cell 1 rfl
       have t2 := hm2.cell 2 rfl
       have tf0 := hm2.frozen 0
       have tf1 := hm2.frozen 1
       have tf2 := hm2.frozen 2
       have HE3 : Hid _ := (HEN.out.1.kept ((But.refl _ _ u2).alloc _)).kept k3
       have HK3 : Hid _ := (HK2.out.alloc _).trans k3
       have HM1 : Hid _ := M1
       have HM2 : Hid _ := M2
       have HZ2 : Hid _ := hz
       clear M1 M2 hm2 k3 hz hzid)
    | (go_at_call 76
       obtain ⟨g, cap9, hfg, hbs, _⟩ := own_cell HE3.out.row.1 (flat_get 2 ec ec_len zs k 0 z HZ2.out (by omega))
       cases hfg
       have hghi := HE3.out.row.2 g rfl
       refine (deleteE u1.heap.size g zs.length cap2 k (entCells zs) _ HE3.out.row.1 (ec_one HE3.out) hkl (by omega)).mono ?_; rintro e u4 ⟨rfl, hown4, hB4⟩
       have N1 := Loc.but HM1.out hB4 (by omega)
       have N2 := LocT.but HM2.out hB4 (by omega)
       have hm4 := N2.loc
       have s8 := hB4.size
       have q0 := N1.cell 0 rfl
       have q1 := N1.cell 1 rfl
       have q2 := N1.cell 2 rfl
       have qf0 := N1.frozen 0
       have qf1 := N1.frozen 1
       have qf2 := N1.frozen 2
       have r0 := hm4.cell 0 rfl
       have r1 := hm4.cell 1 rfl
       have r2 := hm4.cell 2 rfl
       have rf0 := hm4.frozen 0
       have rf1 := hm4.frozen 1
       have rf2 := hm4.frozen 2
       have HE4 : Hid _ := HE3.out.erase hB4 hkl hown4
       have HK4 : Hid (Kept u u4) := HK3.out.onto hB4 (by omega)
       have HN1 : Hid _ := N1
       have HN2 : Hid _ := N2
       clear N1 N2 hm4 hown4 hB4))
  have HE5 : Hid _ := HE4.out.other HN2.out 2 (.slice (some ⟨g, 0, none⟩) (zs.length - 1) cap2)
  have HK5 : Hid (Kept u (u4.setCell ⟨u2.heap.size, 2, none⟩ (.slice (some ⟨g, 0, none⟩) (zs.length - 1) cap2))) := HK4.out.onto ((But.refl _ _ u4).setCell (lo := u2.heap.size) (hi := u2.heap.size + 1) (by simp) (by simp) _) (by omega)
  have B : But u.heap.size (u.heap.size + 2) (u4.setCell ⟨u2.heap.size, 2, none⟩ (.slice (some ⟨g, 0, none⟩) (zs.length - 1) cap2)) ((((u4.setCell ⟨u2.heap.size, 2, none⟩ (.slice (some ⟨g, 0, none⟩) (zs.length - 1) cap2)).setCell ⟨u.heap.size + 1, 0, none⟩ (.int .i64 D.1)).setCell ⟨u.heap.size + 1, 1, none⟩ (.int .i64 D.2.1)).setCell ⟨u.heap.size + 1, 2, none⟩ (.slice (some ⟨g, 0, none⟩) (zs.length - 1) cap2)) := (((But.refl _ _ _).setCell (by simp) (by simp) _).setCell (by simp) (by simp) _).setCell (by simp) (by simp) _
  refine bodyPost_ret (v := .tuple #[.agg #[.int .i64 D.1, .int .i64 D.2.1, .slice (some ⟨g, 0, none⟩) (zs.length - 1) cap2], .int .i64 0]) (by simp [results, Try.results31, go_sem, q0, q1, q2]) rfl ?_
  exact ⟨_, rfl, ⟨_, zs.eraseIdx k, rfl, ((HE5.out.but B (by omega)).mono (by omega) (Nat.le_refl _)).low, by rw [erase_map, HEN.out.2]⟩, HK5.out.onto B (Nat.le_refl _)⟩

/-- What Despawn comes to, at each world and Id: the same in the program and in its specification. -/
theorem despawn_both (D : WD) (id : Int) (hc : ecost D.2.2 ≤ 1048576) : ∃ (D' : WD) (r : Int), Small D'.2.2 ∧ kcnt D'.2.2 ≤ 900000000000 ∧
    (∀ (u : World) (lo hi : Nat) (v : Value), WO u lo hi v D → Calls Try.prog 30 #[v, .int .i64 id] u fun e u' => ∃ v', e = .returned (.tuple #[v', .int .i64 r]) ∧ WO u' u.heap.size u'.heap.size v' D' ∧ Kept u u') ∧
    (∀ (u : World) (lo hi : Nat) (v : Value), WO u lo hi v D → Calls Try.prog 31 #[v, .int .i64 id] u fun e u' => ∃ v', e = .returned (.tuple #[v', .int .i64 r]) ∧ WO u' u.heap.size u'.heap.size v' D' ∧ Kept u u') := by
  by_cases hg : GoodW D
  · by_cases hex : ∃ (k : Nat) (e : ED), D.2.2[k]? = some e ∧ e.1 = id
    · obtain ⟨k, e, hk, he⟩ := hex
      refine ⟨(D.1, D.2.1, D.2.2.eraseIdx k), 0, ?_, ?_, specDespawnOk D id k e hg hk he hc, implDespawnOk D id k e hg hk he hc⟩
      · have h1 := small_of hc
        have hl := List.length_eraseIdx_le D.2.2 k
        exact ⟨by have := h1.1; simp only; omega, fun e he => h1.2 e (List.mem_of_mem_eraseIdx he)⟩
      · have h1 := kcnt_of hc
        have hsub : kcnt (D.2.2.eraseIdx k) ≤ kcnt D.2.2 := by
          have h2 : ∀ a b : List ED, kcnt (a ++ b) = kcnt a + kcnt b := fun a b => by simp [kcnt]
          have h3 := congrArg kcnt (List.take_append_drop k D.2.2)
          have h4 := congrArg kcnt (List.drop_eq_getElem_cons (List.getElem?_eq_some_iff.1 hk).1)
          have h5 : ∀ (x : ED) (l : List ED), kcnt (x :: l) = (1 + 3 * x.2.length) + kcnt l := fun x l => by simp [kcnt]
          rw [h2] at h3
          rw [h5] at h4
          rw [List.eraseIdx_eq_take_drop_succ, h2]
          omega
        simp only
        omega
    · have hno : ∀ e ∈ D.2.2, e.1 ≠ id := fun e he h => by
        obtain ⟨k, hk⟩ := List.mem_iff_getElem?.1 he
        exact hex ⟨k, e, hk, h⟩
      exact ⟨D, 2, small_of hc, kcnt_of hc, specDespawnNone D id hg hno hc, implDespawnNone D id hg hno hc⟩
  · exact ⟨DZ, 1, ⟨by simp [DZ], by simp [DZ]⟩, by simp [DZ, kcnt], specDespawnBad D id hg hc, implDespawnBad D id hg hc⟩
end Go.Proofs.Ytajelalimiobeaa
