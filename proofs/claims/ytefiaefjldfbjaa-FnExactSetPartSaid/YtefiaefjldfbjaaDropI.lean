/-
  What DropPart answers in the program.
-/
import Derived.Test.YtefiaefjldfbjaaReach
namespace Go.Proofs.Ytefiaefjldfbjaa
open Go.ChangeShapes Go.WideShapes Go.ChangeAt Go.RowKit

set_option maxRecDepth 100000 in
set_option maxHeartbeats 4000000 in
theorem implDropCode (D : WD) (id : Int) (nm : ByteArray) (D' : WD) (at' code : Int) (hR : ∀ (u : World) (lo hi : Nat) (v : Value), WO u lo hi v D → Calls Try.prog 77 #[v, .int .i64 id, .string nm] u fun e u' => ∃ v', e = .returned (.tuple #[v', .int .i64 at', .int .i64 code]) ∧ WO u' u.heap.size u'.heap.size v' D' ∧ Kept u u') (hcode : (code == 0) = false) (u : World) (lo hi : Nat) (v : Value) (ho : WO u lo hi v D) :
    Calls Try.prog 35 #[v, .int .i64 id, .string nm] u fun rr u' => ∃ v', rr = .returned (.tuple #[v', .int .i64 code]) ∧ WO u' u.heap.size u'.heap.size v' D' ∧ Kept u u' := by
  obtain ⟨ao, n, cap, hfm⟩ := ho.form
  subst hfm
  have HR : Hid _ := hR
  clear hR
  go_enter Try.func35, Try.ntmps35
  go_wp2_with (first
    | (go_at_call 77; refine (HR.out _ _ _ _ (ho.kept (((But.refl _ _ u).alloc _).alloc _))).mono ?_; rintro e u2 ⟨v2, rfl, o2, k2⟩
       obtain ⟨ao2, n2, cap2, hfm2⟩ := o2.form
       subst hfm2
       have K2 : Kept u u2 := (((But.refl _ _ u).alloc _).alloc _).trans k2
       have L1 := (Loc.new (u.alloc (.cells #[.int .i64 D.1, .int .i64 D.2.1, .slice ao n cap] 25)) [.int .i64 0, .int .i64 0, .slice none 0 0] 25).kept k2
       simp only [World.size_alloc] at L1 o2
       have s4 := L1.lt
       have y0 := L1.cell 0 rfl
       have y1 := L1.cell 1 rfl
       have y2 := L1.cell 2 rfl
       have yf0 := L1.frozen 0
       have yf1 := L1.frozen 1
       have yf2 := L1.frozen 2
       have HL1 : Hid _ := L1
       have HK2 : Hid _ := K2

       have HO2 : Hid _ := o2
       clear L1 K2 o2 k2))
  have B : But u.heap.size (u.heap.size + 2) u2 ((((u2.setCell ⟨u.heap.size + 1, 0, none⟩ (.int .i64 D'.1)).setCell ⟨u.heap.size + 1, 1, none⟩ (.int .i64 D'.2.1)).setCell ⟨u.heap.size + 1, 2, none⟩ (.slice ao2 n2 cap2)).alloc (.cells #[.int .i64 D'.1, .int .i64 D'.2.1, .slice ao2 n2 cap2] 25)) := ((((But.refl _ _ _).setCell (by simp) (by simp) _).setCell (by simp) (by simp) _).setCell (by simp) (by simp) _).alloc _
  refine bodyPost_ret (v := .tuple #[.agg #[.int .i64 D'.1, .int .i64 D'.2.1, .slice ao2 n2 cap2], .int .i64 code]) (by simp [results, Try.results35, go_sem, y0, y1, y2, s4]) rfl ?_
  obtain ⟨ev, zs, he, h1, h2⟩ := HO2.out
  cases he
  exact ⟨_, rfl, ⟨_, zs, rfl, ((h1.but B (by omega)).mono (by omega) B.size).low, h2⟩, HK2.out.onto B (by omega)⟩

set_option maxRecDepth 100000 in
set_option maxHeartbeats 4000000 in
theorem implDropNone (D : WD) (id : Int) (nm : ByteArray) (k : Nat) (e : ED) (hg : GoodW D) (hk : D.2.2[k]? = some e) (hid : e.1 = id) (hno : ∀ p ∈ e.2, p.1 ≠ nm) (hR : ∀ (u : World) (lo hi : Nat) (v : Value), WO u lo hi v D → Calls Try.prog 77 #[v, .int .i64 id, .string nm] u fun e u' => ∃ v', e = .returned (.tuple #[v', .int .i64 (k : Int), .int .i64 0]) ∧ WO u' u.heap.size u'.heap.size v' D ∧ Kept u u') (u : World) (lo hi : Nat) (v : Value) (ho : WO u lo hi v D) :
    Calls Try.prog 35 #[v, .int .i64 id, .string nm] u fun rr u' => ∃ v', rr = .returned (.tuple #[v', .int .i64 2]) ∧ WO u' u.heap.size u'.heap.size v' D ∧ Kept u u' := by
  obtain ⟨ao, n, cap, hfm⟩ := ho.form
  subst hfm
  have HR : Hid _ := hR
  have HE : Hid (D.2.2[k]? = some e ∧ e.1 = id) := ⟨hk, hid⟩
  clear hk hid hR
  have HN : Hid _ := hno
  clear hno
  go_enter Try.func35, Try.ntmps35
  go_wp2_with (first
    | (go_at_call 77; refine (HR.out _ _ _ _ (ho.kept (((But.refl _ _ u).alloc _).alloc _))).mono ?_; rintro e u2 ⟨v2, rfl, o2, k2⟩
       obtain ⟨ao2, n2, cap2, hfm2⟩ := o2.form
       subst hfm2
       have K2 : Kept u u2 := (((But.refl _ _ u).alloc _).alloc _).trans k2
       have L1 := (Loc.new (u.alloc (.cells #[.int .i64 D.1, .int .i64 D.2.1, .slice ao n cap] 25)) [.int .i64 0, .int .i64 0, .slice none 0 0] 25).kept k2
       simp only [World.size_alloc] at L1 o2
       have s4 := L1.lt
       have y0 := L1.cell 0 rfl
       have y1 := L1.cell 1 rfl
       have y2 := L1.cell 2 rfl
       have yf0 := L1.frozen 0
       have yf1 := L1.frozen 1
       have yf2 := L1.frozen 2
       have HL1 : Hid _ := L1
       have HK2 : Hid _ := K2
       obtain ⟨zs, hzn, hen, hst⟩ := o2.ents
       have h60 : zs.length ≤ 60 := by
         have h5 := hg.2.2.2.2.1
         have := congrArg List.length hst
         rw [List.length_map] at this
         omega
       subst hzn
       obtain ⟨z, hz, hze⟩ : ∃ z, zs[k]? = some z ∧ strip z = e := by
         have h1 := HE.out.1
         rw [← hst, List.getElem?_map] at h1
         cases hz : zs[k]? with
         | none => rw [hz] at h1; cases h1
         | some z => rw [hz] at h1; simp at h1; exact ⟨z, rfl, h1⟩
       have hze2 : z.2.2 = e.2 := congrArg (fun a : ED => a.2) hze
       have hkl : k < zs.length := (List.getElem?_eq_some_iff.1 hz).1
       obtain ⟨g, cap9, hfg, hbs, _⟩ := own_cell hen.row.1 (flat_get 2 ec ec_len zs k 0 z hz (by omega))
       cases hfg
       have hghi := hen.row.2 g rfl
       obtain ⟨cc0, cc1, ccf⟩ := hen.cells hz
       obtain ⟨aop, capp, hpf, _⟩ := own_form (hen.parts k z hz).1
       rw [hpf] at cc1
       have hl12 : z.2.2.length ≤ 12 := by rw [hze2]; exact (hg.2.2.2.2.2 k e HE.out.1).2.2.2.1
       have HEN : Hid (EntsO u2 (u.heap.size + 1 + 1) u2.heap.size (.slice (some ⟨g, 0, none⟩) zs.length cap2) zs ∧ zs.map strip = D.2.2 ∧ zs[k]? = some z ∧ z.2.1 = .slice aop z.2.2.length capp ∧ z.2.2 = e.2 ∧ strip z = e) := ⟨hen, hst, hz, hpf, hze2, hze⟩
       have HPA : Hid (PartsAt u2 (.slice aop z.2.2.length capp) z.2.2) := by
         have h7 := (hen.parts k z hz).at
         rw [hpf] at h7
         exact h7
       have HRP : Hid (RiseP z.2.2) := by rw [hze2]; exact riseP_of (hg.2.2.2.2.2 k e HE.out.1).2.2.2
       have ccf1 := ccf (k * 2 + 1)
       clear hen hst hz hpf hze2 hze ccf

       have HO2 : Hid _ := o2
       clear L1 K2 o2 k2)
    | (go_at_call 78; refine (findP_no z.2.2 nm (fun p hp => HN.out p (by rw [← HEN.out.2.2.2.2.1]; exact hp)) _ _ (HPA.out.kept ((But.refl _ _ u2).alloc _)) HRP.out (by omega)).mono ?_; rintro e u3 ⟨⟨kk, rfl, _, _⟩, k3⟩
       have M1 := (Loc.alloc HL1.out _).kept k3
       have M2 := (LocT.new u2 [.int .i64 D.1, .int .i64 D.2.1, .slice (some ⟨g, 0, none⟩) zs.length cap2] 25).kept k3
       have hm2 := M2.loc
       have s7 := k3.size
       simp only [World.size_alloc] at s7
       have p0 := M1.cell 0 rfl
       have p1 := M1.cell 1 rfl
       have p2 := M1.cell 2 rfl
       have pf0 := M1.frozen 0
       have pf1 := M1.frozen 1
       have pf2 := M1.frozen 2
       have t0 := hm2.cell 0 rfl
       have t1 := hm2.cell 1 rfl
       have t2 := hm2.cell 2 rfl
       have tf0 := hm2.frozen 0
       have tf1 := hm2.frozen 1
       have tf2 := hm2.frozen 2
       have HE3 : Hid _ := (HEN.out.1.kept ((But.refl _ _ u2).alloc _)).kept k3
       have HK3 : Hid _ := (HK2.out.alloc _).trans k3
       have HM1 : Hid _ := M1
       have HM2 : Hid _ := M2
       clear M1 M2 hm2 k3))
  have B : But u.heap.size (u.heap.size + 2) u3 (((u3.setCell ⟨u.heap.size + 1, 0, none⟩ (.int .i64 D.1)).setCell ⟨u.heap.size + 1, 1, none⟩ (.int .i64 D.2.1)).setCell ⟨u.heap.size + 1, 2, none⟩ (.slice (some ⟨g, 0, none⟩) zs.length cap2)) := (((But.refl _ _ _).setCell (by simp) (by simp) _).setCell (by simp) (by simp) _).setCell (by simp) (by simp) _
  refine bodyPost_ret (v := .tuple #[.agg #[.int .i64 D.1, .int .i64 D.2.1, .slice (some ⟨g, 0, none⟩) zs.length cap2], .int .i64 2]) (by simp [results, Try.results35, go_sem, p0, p1, p2]) rfl ?_
  exact ⟨_, rfl, ⟨_, zs, rfl, ((HE3.out.but B (by omega)).mono (by omega) (Nat.le_refl _)).low, HEN.out.2.1⟩, HK3.out.onto B (Nat.le_refl _)⟩

set_option maxRecDepth 100000 in
set_option maxHeartbeats 4000000 in
theorem implDropOk (D : WD) (id : Int) (nm : ByteArray) (k : Nat) (e : ED) (j : Nat) (p : PD) (hg : GoodW D) (hk : D.2.2[k]? = some e) (hid : e.1 = id) (hj : e.2[j]? = some p) (hpn : p.1 = nm) (hR : ∀ (u : World) (lo hi : Nat) (v : Value), WO u lo hi v D → Calls Try.prog 77 #[v, .int .i64 id, .string nm] u fun e u' => ∃ v', e = .returned (.tuple #[v', .int .i64 (k : Int), .int .i64 0]) ∧ WO u' u.heap.size u'.heap.size v' D ∧ Kept u u') (u : World) (lo hi : Nat) (v : Value) (ho : WO u lo hi v D) :
    Calls Try.prog 35 #[v, .int .i64 id, .string nm] u fun rr u' => ∃ v', rr = .returned (.tuple #[v', .int .i64 0]) ∧ WO u' u.heap.size u'.heap.size v' (D.1, D.2.1, D.2.2.set k (e.1, e.2.eraseIdx j)) ∧ Kept u u' := by
  obtain ⟨ao, n, cap, hfm⟩ := ho.form
  subst hfm
  have HR : Hid _ := hR
  have HE : Hid (D.2.2[k]? = some e ∧ e.1 = id) := ⟨hk, hid⟩
  clear hk hid hR
  have HP : Hid (e.2[j]? = some p ∧ p.1 = nm) := ⟨hj, hpn⟩
  clear hj hpn
  go_enter Try.func35, Try.ntmps35
  go_wp2_with (first
    | (go_at_call 77; refine (HR.out _ _ _ _ (ho.kept (((But.refl _ _ u).alloc _).alloc _))).mono ?_; rintro e u2 ⟨v2, rfl, o2, k2⟩
       obtain ⟨ao2, n2, cap2, hfm2⟩ := o2.form
       subst hfm2
       have K2 : Kept u u2 := (((But.refl _ _ u).alloc _).alloc _).trans k2
       have L1 := (Loc.new (u.alloc (.cells #[.int .i64 D.1, .int .i64 D.2.1, .slice ao n cap] 25)) [.int .i64 0, .int .i64 0, .slice none 0 0] 25).kept k2
       simp only [World.size_alloc] at L1 o2
       have s4 := L1.lt
       have y0 := L1.cell 0 rfl
       have y1 := L1.cell 1 rfl
       have y2 := L1.cell 2 rfl
       have yf0 := L1.frozen 0
       have yf1 := L1.frozen 1
       have yf2 := L1.frozen 2
       have HL1 : Hid _ := L1
       have HK2 : Hid _ := K2
       obtain ⟨zs, hzn, hen, hst⟩ := o2.ents
       have h60 : zs.length ≤ 60 := by
         have h5 := hg.2.2.2.2.1
         have := congrArg List.length hst
         rw [List.length_map] at this
         omega
       subst hzn
       obtain ⟨z, hz, hze⟩ : ∃ z, zs[k]? = some z ∧ strip z = e := by
         have h1 := HE.out.1
         rw [← hst, List.getElem?_map] at h1
         cases hz : zs[k]? with
         | none => rw [hz] at h1; cases h1
         | some z => rw [hz] at h1; simp at h1; exact ⟨z, rfl, h1⟩
       have hze2 : z.2.2 = e.2 := congrArg (fun a : ED => a.2) hze
       have hkl : k < zs.length := (List.getElem?_eq_some_iff.1 hz).1
       obtain ⟨g, cap9, hfg, hbs, _⟩ := own_cell hen.row.1 (flat_get 2 ec ec_len zs k 0 z hz (by omega))
       cases hfg
       have hghi := hen.row.2 g rfl
       obtain ⟨cc0, cc1, ccf⟩ := hen.cells hz
       obtain ⟨aop, capp, hpf, _⟩ := own_form (hen.parts k z hz).1
       rw [hpf] at cc1
       have hl12 : z.2.2.length ≤ 12 := by rw [hze2]; exact (hg.2.2.2.2.2 k e HE.out.1).2.2.2.1
       have HEN : Hid (EntsO u2 (u.heap.size + 1 + 1) u2.heap.size (.slice (some ⟨g, 0, none⟩) zs.length cap2) zs ∧ zs.map strip = D.2.2 ∧ zs[k]? = some z ∧ z.2.1 = .slice aop z.2.2.length capp ∧ z.2.2 = e.2 ∧ strip z = e) := ⟨hen, hst, hz, hpf, hze2, hze⟩
       have HPA : Hid (PartsAt u2 (.slice aop z.2.2.length capp) z.2.2) := by
         have h7 := (hen.parts k z hz).at
         rw [hpf] at h7
         exact h7
       have HRP : Hid (RiseP z.2.2) := by rw [hze2]; exact riseP_of (hg.2.2.2.2.2 k e HE.out.1).2.2.2
       have ccf1 := ccf (k * 2 + 1)
       clear hen hst hz hpf hze2 hze ccf

       have HO2 : Hid _ := o2
       clear L1 K2 o2 k2)
    | (go_at_call 78; refine (findP_yes z.2.2 nm j p (by rw [HEN.out.2.2.2.2.1]; exact HP.out.1) HP.out.2 _ _ (HPA.out.kept ((But.refl _ _ u2).alloc _)) HRP.out (by omega)).mono ?_; rintro e u3 ⟨rfl, k3⟩
       have M1 := (Loc.alloc HL1.out _).kept k3
       have M2 := (LocT.new u2 [.int .i64 D.1, .int .i64 D.2.1, .slice (some ⟨g, 0, none⟩) zs.length cap2] 25).kept k3
       have hm2 := M2.loc
       have s7 := k3.size
       simp only [World.size_alloc] at s7
       have p0 := M1.cell 0 rfl
       have p1 := M1.cell 1 rfl
       have p2 := M1.cell 2 rfl
       have pf0 := M1.frozen 0
       have pf1 := M1.frozen 1
       have pf2 := M1.frozen 2
       have t0 := hm2.cell 0 rfl
       have t1 := hm2.cell 1 rfl
       have t2 := hm2.cell 2 rfl
       have tf0 := hm2.frozen 0
       have tf1 := hm2.frozen 1
       have tf2 := hm2.frozen 2
       have HE3 : Hid _ := (HEN.out.1.kept ((But.refl _ _ u2).alloc _)).kept k3
       have HK3 : Hid _ := (HK2.out.alloc _).trans k3
       have HM1 : Hid _ := M1
       have HM2 : Hid _ := M2
       clear M1 M2 hm2 k3))
  have hjp : z.2.2[j]? = some p := by rw [HEN.out.2.2.2.2.1]; exact HP.out.1
  have hjl : j < z.2.2.length := (List.getElem?_eq_some_iff.1 hjp).1
  have hpo := HE3.out.parts k z HEN.out.2.2.1
  rw [HEN.out.2.2.2.1] at hpo
  obtain ⟨gp, cap8, hfp, hbp, _⟩ := own_cell hpo.1 (flat_get 3 pc pc_len z.2.2 j 0 p hjp (by omega))
  cases hfp
  have hgphi := hpo.2 gp rfl
  have HPO : Hid _ := hpo
  have hne : g ≠ gp := fun e1 => (ap_types HE3.out.row hpo (by decide)) g rfl (by rw [e1]; rfl)
  obtain ⟨dd0, dd1, ddf⟩ := HE3.out.cells HEN.out.2.2.1
  rw [HEN.out.2.2.2.1] at dd1
  have ddf1 := ddf (k * 2 + 1)
  have dds : (u3.cell? ⟨g, k * 2 + 1, none⟩).isSome = true := by rw [dd1]; rfl
  have hw1 : IntKind.i64.wrap ((j : Int) + 1) = (j : Int) + 1 := by rw [IntKind.wrap_i64]; omega
  have hb1 : (0 : Int) ≤ (k : Int) := by omega
  have hb2 : (k : Int) < (zs.length : Int) := by omega
  clear hpo ddf dd0 cc0 cc1 ccf1 hjp
  go_region_held3 (fun w' => w'.cell? ⟨u2.heap.size, 2, none⟩ = some (.slice (some ⟨g, 0, none⟩) zs.length cap2) ∧ (w'.cell? ⟨g, k * 2 + 1, none⟩).isSome = true ∧ w'.frozen? ⟨g, k * 2 + 1, none⟩ = false) (simp [go_sem, *])
    (first
      | (go_at_call 80
         refine (deleteP (u.heap.size + 1 + 1) gp z.2.2.length capp j (partCells z.2.2) _ (own_kept HPO.out.1 ((But.refl _ _ u3).drew)) (pc_one _) hjl (by omega)).mono ?_
         rintro e u4 ⟨rfl, hown4, hB4⟩
         have hB5 : But gp (gp + 1) u3 u4 := ((But.refl _ _ u3).drew).trans hB4
         have t2 := (Loc.but (LocT.loc HM2.out) hB5 (by omega)).cell 2 rfl
         have dd1 := But.cell hB5 dd1 (by simp; omega)
         have dds : (u4.cell? ⟨g, k * 2 + 1, none⟩).isSome = true := by rw [dd1]; rfl
         have ddf1 : u4.frozen? ⟨g, k * 2 + 1, none⟩ = false := (World.frozen?_of_block (a := ⟨g, k * 2 + 1, none⟩) (hB5.block g (by omega) (by omega))).trans ddf1))
  have hel : (z.2.2.eraseIdx j).length = z.2.2.length - 1 := by rw [List.length_eraseIdx, if_pos hjl]
  have E5 : EntsO (u4.setCell ⟨g, k * 2 + 1, none⟩ (.slice (some ⟨gp, 0, none⟩) (z.2.2.length - 1) capp)) (u.heap.size + 1 + 1) u2.heap.size (.slice (some ⟨g, 0, none⟩) zs.length cap2) (zs.set k (z.1, .slice (some ⟨gp, 0, none⟩) (z.2.2.length - 1) capp, z.2.2.eraseIdx j)) :=
    HE3.out.swap rfl HEN.out.2.2.1 HEN.out.2.2.2.1 hB5 (by rw [partCells, flat_erase 3 pc pc_len]; exact hown4) hel.symm
  have N1 : Loc (u4.setCell ⟨g, k * 2 + 1, none⟩ (.slice (some ⟨gp, 0, none⟩) (z.2.2.length - 1) capp)) (u.heap.size + 1) [.int .i64 0, .int .i64 0, .slice none 0 0] := (Loc.but HM1.out hB5 (by omega)).other (by omega) _
  have N2 : Loc (u4.setCell ⟨g, k * 2 + 1, none⟩ (.slice (some ⟨gp, 0, none⟩) (z.2.2.length - 1) capp)) u2.heap.size [.int .i64 D.1, .int .i64 D.2.1, .slice (some ⟨g, 0, none⟩) zs.length cap2] := (Loc.but (LocT.loc HM2.out) hB5 (by omega)).other (by omega) _
  have K5 : Kept u (u4.setCell ⟨g, k * 2 + 1, none⟩ (.slice (some ⟨gp, 0, none⟩) (z.2.2.length - 1) capp)) := (HK3.out.onto hB5 (by omega)).onto ((But.refl _ _ u4).setCell (lo := g) (hi := g + 1) (by simp) (by simp) _) (by omega)
  have sz5 : u4.heap.size ≤ (u4.setCell ⟨g, k * 2 + 1, none⟩ (.slice (some ⟨gp, 0, none⟩) (z.2.2.length - 1) capp)).heap.size := by simp [World.setCell]
  have s9 := hB5.size
  generalize hw5 : (u4.setCell ⟨g, k * 2 + 1, none⟩ (.slice (some ⟨gp, 0, none⟩) (z.2.2.length - 1) capp)) = w5 at E5 N1 N2 K5 sz5 ⊢
  have n0 := N2.cell 0 rfl
  have n1 := N2.cell 1 rfl
  have n2' := N2.cell 2 rfl
  have v0 := N1.cell 0 rfl
  have v1 := N1.cell 1 rfl
  have v2 := N1.cell 2 rfl
  have vf0 := N1.frozen 0
  have vf1 := N1.frozen 1
  have vf2 := N1.frozen 2
  have HE5 : Hid _ := E5
  have HK5 : Hid _ := K5
  clear hw5 E5 K5 N1 N2 hown4 hB4 hB5 hel HPO
  go_wp2
  have B : But u.heap.size (u.heap.size + 2) w5 (((w5.setCell ⟨u.heap.size + 1, 0, none⟩ (.int .i64 D.1)).setCell ⟨u.heap.size + 1, 1, none⟩ (.int .i64 D.2.1)).setCell ⟨u.heap.size + 1, 2, none⟩ (.slice (some ⟨g, 0, none⟩) zs.length cap2)) := (((But.refl _ _ _).setCell (by simp) (by simp) _).setCell (by simp) (by simp) _).setCell (by simp) (by simp) _
  refine bodyPost_ret (v := .tuple #[.agg #[.int .i64 D.1, .int .i64 D.2.1, .slice (some ⟨g, 0, none⟩) zs.length cap2], .int .i64 0]) (by simp [results, Try.results35, go_sem, v0, v1, v2]) rfl ?_
  refine ⟨_, rfl, ⟨_, zs.set k (z.1, .slice (some ⟨gp, 0, none⟩) (z.2.2.length - 1) capp, z.2.2.eraseIdx j), rfl, ((HE5.out.but B (by omega)).mono (by omega) (Nat.le_refl _)).low, ?_⟩, HK5.out.onto B (Nat.le_refl _)⟩
  rw [List.map_set, HEN.out.2.1, ← HEN.out.2.2.2.2.1, ← HEN.out.2.2.2.2.2]
  rfl
end Go.Proofs.Ytefiaefjldfbjaa
