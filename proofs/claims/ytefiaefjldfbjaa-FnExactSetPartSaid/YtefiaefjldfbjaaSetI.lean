/-
  What SetPart answers in the program.
-/
import Derived.Test.YtefiaefjldfbjaaReach
import Derived.Test.YtefiaefjldfbjaaIns
namespace Go.Proofs.Ytefiaefjldfbjaa
open Go.ChangeShapes Go.WideShapes Go.ChangeAt Go.RowKit

theorem flat_insert (l : List PD) (p : PD) (i : Nat) : partCells (l.take i ++ [p] ++ l.drop i) = (partCells l).take (i * 3) ++ pc p ++ (partCells l).drop (i * 3) := by
  unfold partCells
  rw [List.flatMap_append, List.flatMap_append, flat_take 3 pc pc_len, flat_drop 3 pc pc_len]
  simp
/-- The entities' own cells where one entity's parts have changed. -/
theorem EE {w w' : World} {lo hi g n cap i : Nat} {zs : List PE} {z : PE} {pv : Value} (h : EntsO w lo hi (.slice (some ⟨g, 0, none⟩) n cap) zs) (hz : zs[i]? = some z) (hv : z.2.1 = pv) (b : But (blo pv) (bhi pv) w w') :
    w'.cell? ⟨g, i * 2, none⟩ = some (.int .i64 z.1) ∧ w'.cell? ⟨g, i * 2 + 1, none⟩ = some pv ∧ ∀ o, w'.frozen? ⟨g, o, none⟩ = false := by
  subst hv
  have hrow := h.row.apart b (h.ap hz)
  have h0 := flat_get 2 ec ec_len zs i 0 z hz (by omega)
  have h1 := flat_get 2 ec ec_len zs i 1 z hz (by omega)
  obtain ⟨g1, c1, e1, _, x1, _⟩ := own_cell hrow.1 h0
  cases e1
  obtain ⟨g2, c2, e2, _, x2, _⟩ := own_cell hrow.1 h1
  cases e2
  refine ⟨by rw [Nat.mul_comm]; exact x1, by rw [Nat.mul_comm]; exact x2, fun o => ?_⟩
  rcases hrow.1.2 with ⟨hv, _⟩ | ⟨g', cap1, cur, hv, hbs, hgg, _⟩
  · cases hv
  · cases hv
    simp [World.frozen?, hgg]
/-- An entity's parts in another row: its own, or one behind all. -/
theorem EntsO.swap2 {w w' : World} {lo hi g n cap m' i : Nat} {zs : List PE} {z : PE} {ps' : List PD} {pv : Value} (h : EntsO w lo hi (.slice (some ⟨g, 0, none⟩) n cap) zs) (hn : n = zs.length) (hz : zs[i]? = some z) (b' : But (blo z.2.1) (bhi z.2.1) w w')
    (hp : w'.ownsRow lo 89 3 pv m' (partCells ps')) (hm : m' = ps'.length) (hob : pv.ownBlock = z.2.1.ownBlock ∨ ∃ x, pv.ownBlock = some x ∧ hi ≤ x) :
    EntsO (w'.setCell ⟨g, i * 2 + 1, none⟩ pv) lo w'.heap.size (.slice (some ⟨g, 0, none⟩) n cap) (zs.set i (z.1, pv, ps')) := by
  subst hn
  subst hm
  have hrow := h.row.apart b' (h.ap hz)
  have hpo : PartsO w' lo w'.heap.size pv ps' := RowO.top hp
  refine ⟨?_, fun j y hy => ?_, fun j k y y' hjk hy hy' => ?_⟩
  · have := RowO.set hrow.low (i * 2 + 1) pv
    rw [List.length_set]
    rw [Nat.mul_comm i 2] at this ⊢
    rw [entCells, flat_set 2 ec ec_len zs i 1 z (z.1, pv, ps') _ hz (by omega) rfl] at this
    exact this
  · rcases get_set hy with ⟨rfl, rfl⟩ | ⟨hj, gy⟩
    · exact hpo.apart (but_set w' g _ cap _ _) (ap_types hrow hpo (by decide)).symm
    · exact (((h.parts j y gy).apart b' (h.each _ _ _ _ hj gy hz)).low).apart (but_set w' g _ cap _ _) (h.ap gy).symm
  · have key : ∀ (j : Nat) y, j ≠ i → zs[j]? = some y → Ap y.2.1 pv := fun j y hj gy x hx hx' => by
      rcases hob with hob | ⟨x', hx2, hx3⟩
      · rw [hob] at hx'
        exact h.each _ _ y z hj gy hz x hx hx'
      · rw [hx2] at hx'
        cases hx'
        have := (h.parts j y gy).2 x hx
        omega
    rcases get_set hy with ⟨rfl, rfl⟩ | ⟨hj, gy⟩ <;> rcases get_set hy' with ⟨rfl, rfl⟩ | ⟨hk, gy'⟩
    · exact absurd rfl hjk
    · exact (key k y' hk gy').symm
    · exact key j y hj gy
    · exact h.each _ _ y y' hjk gy gy'
theorem cut_one {ps : List PD} {nm : ByteArray} {a b : Nat} (ha : CuttingP ps nm a a) (hb : CuttingP ps nm b b) (h1 : a ≤ ps.length) (h2 : b ≤ ps.length) : a = b := by
  rcases Nat.lt_trichotomy a b with h | h | h
  · have hx : ps[a]? = some ps[a] := List.getElem?_eq_getElem (by omega)
    have x1 := ha.2 a _ (Nat.le_refl _) hx
    have x2 := hb.1 a _ h hx
    rw [x1] at x2
    cases x2
  · exact h
  · have hx : ps[b]? = some ps[b] := List.getElem?_eq_getElem (by omega)
    have x1 := hb.2 b _ (Nat.le_refl _) hx
    have x2 := ha.1 b _ h hx
    rw [x1] at x2
    cases x2

set_option maxRecDepth 100000 in
set_option maxHeartbeats 4000000 in
theorem implSetCode (D : WD) (id : Int) (nm : ByteArray) (val : Int) (D' : WD) (at' code : Int) (hR : ∀ (u : World) (lo hi : Nat) (v : Value), WO u lo hi v D → Calls Try.prog 77 #[v, .int .i64 id, .string nm] u fun e u' => ∃ v', e = .returned (.tuple #[v', .int .i64 at', .int .i64 code]) ∧ WO u' u.heap.size u'.heap.size v' D' ∧ Kept u u') (hcode : (code == 0) = false) (u : World) (lo hi : Nat) (v : Value) (ho : WO u lo hi v D) :
    Calls Try.prog 33 #[v, .int .i64 id, .string nm, .int .i64 val] u fun rr u' => ∃ v', rr = .returned (.tuple #[v', .int .i64 code]) ∧ WO u' u.heap.size u'.heap.size v' D' ∧ Kept u u' := by
  obtain ⟨ao, n, cap, hfm⟩ := ho.form
  subst hfm
  have HR : Hid _ := hR
  clear hR
  go_enter Try.func33, Try.ntmps33
  go_wp2_with (first
    | (go_at_call 77; refine (HR.out _ _ _ _ (ho.kept (((But.refl _ _ u).alloc _).alloc _))).mono ?_; rintro e u2 ⟨v2, rfl, o2, k2⟩
       obtain ⟨ao2, n2, cap2, hfm2⟩ := o2.form
       subst hfm2
       have K2 : Kept u u2 := (((But.refl _ _ u).alloc _).alloc _).trans k2
       have L1 := (Loc.new (u.alloc (.cells #[.int .i64 D.1, .int .i64 D.2.1, .slice ao n cap] 25)) [.int .i64 0, .int .i64 0, .slice none 0 0] 25).kept k2
       simp only [World.size_alloc] at L1 o2
       have s4 := L1.lt
       have y0 := L1.cell 0 rfl
       have y1 := L1.cell 1 rfl
       have y2 := L1.cell 2 rfl
       have yf0 := L1.frozen 0
       have yf1 := L1.frozen 1
       have yf2 := L1.frozen 2
       have HL1 : Hid _ := L1
       have HK2 : Hid _ := K2

       have HO2 : Hid _ := o2
       clear L1 K2 o2 k2))
  have B : But u.heap.size (u.heap.size + 2) u2 ((((u2.setCell ⟨u.heap.size + 1, 0, none⟩ (.int .i64 D'.1)).setCell ⟨u.heap.size + 1, 1, none⟩ (.int .i64 D'.2.1)).setCell ⟨u.heap.size + 1, 2, none⟩ (.slice ao2 n2 cap2)).alloc (.cells #[.int .i64 D'.1, .int .i64 D'.2.1, .slice ao2 n2 cap2] 25)) := ((((But.refl _ _ _).setCell (by simp) (by simp) _).setCell (by simp) (by simp) _).setCell (by simp) (by simp) _).alloc _
  refine bodyPost_ret (v := .tuple #[.agg #[.int .i64 D'.1, .int .i64 D'.2.1, .slice ao2 n2 cap2], .int .i64 code]) (by simp [results, Try.results33, go_sem, y0, y1, y2, s4]) rfl ?_
  obtain ⟨ev, zs, he, h1, h2⟩ := HO2.out
  cases he
  exact ⟨_, rfl, ⟨_, zs, rfl, ((h1.but B (by omega)).mono (by omega) B.size).low, h2⟩, HK2.out.onto B (by omega)⟩

set_option maxRecDepth 100000 in
set_option maxHeartbeats 4000000 in
theorem implSetFound (D : WD) (id : Int) (nm : ByteArray) (val : Int) (k : Nat) (e : ED) (j : Nat) (p : PD) (hg : GoodW D) (hk : D.2.2[k]? = some e) (hid : e.1 = id) (hj : e.2[j]? = some p) (hpn : p.1 = nm) (hR : ∀ (u : World) (lo hi : Nat) (v : Value), WO u lo hi v D → Calls Try.prog 77 #[v, .int .i64 id, .string nm] u fun e u' => ∃ v', e = .returned (.tuple #[v', .int .i64 (k : Int), .int .i64 0]) ∧ WO u' u.heap.size u'.heap.size v' D ∧ Kept u u') (u : World) (lo hi : Nat) (v : Value) (ho : WO u lo hi v D) :
    Calls Try.prog 33 #[v, .int .i64 id, .string nm, .int .i64 val] u fun rr u' => ∃ v', rr = .returned (.tuple #[v', .int .i64 0]) ∧ WO u' u.heap.size u'.heap.size v' (D.1, D.2.1, D.2.2.set k (e.1, e.2.set j (nm, val, D.2.1))) ∧ Kept u u' := by
  obtain ⟨ao, n, cap, hfm⟩ := ho.form
  subst hfm
  have HR : Hid _ := hR
  have HE : Hid (D.2.2[k]? = some e ∧ e.1 = id) := ⟨hk, hid⟩
  clear hk hid hR
  have HP : Hid (e.2[j]? = some p ∧ p.1 = nm) := ⟨hj, hpn⟩
  clear hj hpn
  go_enter Try.func33, Try.ntmps33
  go_wp2_with (first
    | (go_at_call 77; refine (HR.out _ _ _ _ (ho.kept (((But.refl _ _ u).alloc _).alloc _))).mono ?_; rintro e u2 ⟨v2, rfl, o2, k2⟩
       obtain ⟨ao2, n2, cap2, hfm2⟩ := o2.form
       subst hfm2
       have K2 : Kept u u2 := (((But.refl _ _ u).alloc _).alloc _).trans k2
       have L1 := (Loc.new (u.alloc (.cells #[.int .i64 D.1, .int .i64 D.2.1, .slice ao n cap] 25)) [.int .i64 0, .int .i64 0, .slice none 0 0] 25).kept k2
       simp only [World.size_alloc] at L1 o2
       have s4 := L1.lt
       have y0 := L1.cell 0 rfl
       have y1 := L1.cell 1 rfl
       have y2 := L1.cell 2 rfl
       have yf0 := L1.frozen 0
       have yf1 := L1.frozen 1
       have yf2 := L1.frozen 2
       have HL1 : Hid _ := L1
       have HK2 : Hid _ := K2
       obtain ⟨zs, hzn, hen, hst⟩ := o2.ents
       have h60 : zs.length ≤ 60 := by
         have h5 := hg.2.2.2.2.1
         have := congrArg List.length hst
         rw [List.length_map] at this
         omega
       subst hzn
       obtain ⟨z, hz, hze⟩ : ∃ z, zs[k]? = some z ∧ strip z = e := by
         have h1 := HE.out.1
         rw [← hst, List.getElem?_map] at h1
         cases hz : zs[k]? with
         | none => rw [hz] at h1; cases h1
         | some z => rw [hz] at h1; simp at h1; exact ⟨z, rfl, h1⟩
       have hze2 : z.2.2 = e.2 := congrArg (fun a : ED => a.2) hze
       have hkl : k < zs.length := (List.getElem?_eq_some_iff.1 hz).1
       obtain ⟨g, cap9, hfg, hbs, _⟩ := own_cell hen.row.1 (flat_get 2 ec ec_len zs k 0 z hz (by omega))
       cases hfg
       have hghi := hen.row.2 g rfl
       obtain ⟨cc0, cc1, ccf⟩ := hen.cells hz
       obtain ⟨aop, capp, hpf, _⟩ := own_form (hen.parts k z hz).1
       rw [hpf] at cc1
       have hl12 : z.2.2.length ≤ 12 := by rw [hze2]; exact (hg.2.2.2.2.2 k e HE.out.1).2.2.2.1
       have HEN : Hid (EntsO u2 (u.heap.size + 1 + 1) u2.heap.size (.slice (some ⟨g, 0, none⟩) zs.length cap2) zs ∧ zs.map strip = D.2.2 ∧ zs[k]? = some z ∧ z.2.1 = .slice aop z.2.2.length capp ∧ z.2.2 = e.2 ∧ strip z = e) := ⟨hen, hst, hz, hpf, hze2, hze⟩
       have HPA : Hid (PartsAt u2 (.slice aop z.2.2.length capp) z.2.2) := by
         have h7 := (hen.parts k z hz).at
         rw [hpf] at h7
         exact h7
       have HRP : Hid (RiseP z.2.2) := by rw [hze2]; exact riseP_of (hg.2.2.2.2.2 k e HE.out.1).2.2.2
       have ccf1 := ccf (k * 2 + 1)
       clear hen hst hz hpf hze2 hze ccf
       have L0 := ((Loc.new u [.int .i64 D.1, .int .i64 D.2.1, .slice ao n cap] 25).alloc (.cells #[.int .i64 0, .int .i64 0, .slice none 0 0] 25)).kept k2
       have w1 := L0.cell 1 rfl
       have hl0 := L0.lt
       clear L0

       have HO2 : Hid _ := o2
       clear L1 K2 o2 k2)
    | (go_at_call 78; refine (findP_yes z.2.2 nm j p (by rw [HEN.out.2.2.2.2.1]; exact HP.out.1) HP.out.2 _ _ (HPA.out.kept (((But.refl _ _ u2).alloc _).alloc _)) HRP.out (by omega)).mono ?_; rintro e u3 ⟨rfl, k3⟩
       have M1 := ((Loc.alloc HL1.out (.cells #[.int .i64 D.1, .int .i64 D.2.1, .slice (some ⟨g, 0, none⟩) zs.length cap2] 25)).alloc (.cells #[.string nm, .int .i64 val, .int .i64 D.2.1] 89)).kept k3
       have M2 := ((Loc.new u2 [.int .i64 D.1, .int .i64 D.2.1, .slice (some ⟨g, 0, none⟩) zs.length cap2] 25).alloc (.cells #[.string nm, .int .i64 val, .int .i64 D.2.1] 89)).kept k3
       have M3 := (Loc.new (u2.alloc (.cells #[.int .i64 D.1, .int .i64 D.2.1, .slice (some ⟨g, 0, none⟩) zs.length cap2] 25)) [.string nm, .int .i64 val, .int .i64 D.2.1] 89).kept k3
       have s7 := k3.size
       simp only [World.size_alloc] at s7 M3
       have p0 := M1.cell 0 rfl
       have p1 := M1.cell 1 rfl
       have p2 := M1.cell 2 rfl
       have pf0 := M1.frozen 0
       have pf1 := M1.frozen 1
       have pf2 := M1.frozen 2
       have t0 := M2.cell 0 rfl
       have t1 := M2.cell 1 rfl
       have t2 := M2.cell 2 rfl
       have tf0 := M2.frozen 0
       have tf1 := M2.frozen 1
       have tf2 := M2.frozen 2
       have q0 := M3.cell 0 rfl
       have q1 := M3.cell 1 rfl
       have q2 := M3.cell 2 rfl
       have qf0 := M3.frozen 0
       have qf1 := M3.frozen 1
       have qf2 := M3.frozen 2
       have HE3 : Hid _ := ((HEN.out.1.kept ((But.refl _ _ u2).alloc _)).kept ((But.refl _ _ _).alloc _)).kept k3
       have HK3 : Hid _ := ((HK2.out.alloc _).alloc _).trans k3
       have HM1 : Hid _ := M1
       have HM2 : Hid _ := M2
       have HM3 : Hid _ := M3
       clear M1 M2 M3 k3 w1 hl0
       have hjp : z.2.2[j]? = some p := by rw [HEN.out.2.2.2.2.1]; exact HP.out.1
       have hjl : j < z.2.2.length := (List.getElem?_eq_some_iff.1 hjp).1
       have hpo := HE3.out.parts k z HEN.out.2.2.1
       rw [HEN.out.2.2.2.1] at hpo
       obtain ⟨gp, cap8, hfp, hbp, _⟩ := own_cell hpo.1 (flat_get 3 pc pc_len z.2.2 j 0 p hjp (by omega))
       cases hfp
       have hgphi := hpo.2 gp rfl
       obtain ⟨f0, f1, f2, ff⟩ := PartsO.cells hpo hjp
       have ff0 := ff (j * 3)
       have ff1 := ff (j * 3 + 1)
       have ff2 := ff (j * 3 + 2)
       have hst := PartsO.store hpo rfl hjp (nm, val, D.2.1)
       have hf1 := hst.1
       have hf2 := hst.2.1
       simp only at hf1 hf2
       have HST : Hid _ := hst.2.2
       clear hst hjp hpo ff cc0 cc1 ccf1))
  have hz1 := HEN.out.2.2.2.1
  have b3 : But (blo (.slice (some ⟨gp, 0, none⟩) z.2.2.length capp)) (bhi (.slice (some ⟨gp, 0, none⟩) z.2.2.length capp)) u3 (((u3.setCell ⟨gp, j * 3, none⟩ (.string nm)).setCell ⟨gp, j * 3 + 1, none⟩ (.int .i64 val)).setCell ⟨gp, j * 3 + 2, none⟩ (.int .i64 D.2.1)) := ((but_set _ _ _ _ _ _).trans (but_set _ _ _ _ _ _)).trans (but_set _ _ _ _ _ _)
  have E5 := HE3.out.inner HEN.out.2.2.1 (ps := z.2.2.set j (nm, val, D.2.1)) (by rw [hz1]; exact b3) (by rw [hz1]; exact HST.out)
  have K5 := HK3.out.onto (b3.mono (lo' := gp) (hi' := gp + 1) (by simp [blo, Value.ownBlock]) (by simp [bhi, Value.ownBlock])) (by omega)
  have B : But u.heap.size (u.heap.size + 2) (((u3.setCell ⟨gp, j * 3, none⟩ (.string nm)).setCell ⟨gp, j * 3 + 1, none⟩ (.int .i64 val)).setCell ⟨gp, j * 3 + 2, none⟩ (.int .i64 D.2.1)) ((((((u3.setCell ⟨gp, j * 3, none⟩ (.string nm)).setCell ⟨gp, j * 3 + 1, none⟩ (.int .i64 val)).setCell ⟨gp, j * 3 + 2, none⟩ (.int .i64 D.2.1)).setCell ⟨u.heap.size + 1, 0, none⟩ (.int .i64 D.1)).setCell ⟨u.heap.size + 1, 1, none⟩ (.int .i64 D.2.1)).setCell ⟨u.heap.size + 1, 2, none⟩ (.slice (some ⟨g, 0, none⟩) zs.length cap2)) := (((But.refl _ _ _).setCell (by simp) (by simp) _).setCell (by simp) (by simp) _).setCell (by simp) (by simp) _
  refine bodyPost_ret (v := .tuple #[.agg #[.int .i64 D.1, .int .i64 D.2.1, .slice (some ⟨g, 0, none⟩) zs.length cap2], .int .i64 0]) (by simp [results, Try.results33, go_sem, *]) rfl ?_
  refine ⟨_, rfl, ⟨_, _, rfl, ((E5.but B (by omega)).mono (by omega) (Nat.le_refl _)).low, ?_⟩, K5.onto B (Nat.le_refl _)⟩
  rw [List.map_set, HEN.out.2.1, ← HEN.out.2.2.2.2.1, ← HEN.out.2.2.2.2.2]
  rfl

set_option maxRecDepth 100000 in
set_option maxHeartbeats 4000000 in
theorem implSetFull (D : WD) (id : Int) (nm : ByteArray) (val : Int) (k : Nat) (e : ED) (hg : GoodW D) (hk : D.2.2[k]? = some e) (hid : e.1 = id) (hno : ∀ p ∈ e.2, p.1 ≠ nm) (hfl : e.2.length = 12) (hR : ∀ (u : World) (lo hi : Nat) (v : Value), WO u lo hi v D → Calls Try.prog 77 #[v, .int .i64 id, .string nm] u fun e u' => ∃ v', e = .returned (.tuple #[v', .int .i64 (k : Int), .int .i64 0]) ∧ WO u' u.heap.size u'.heap.size v' D ∧ Kept u u') (u : World) (lo hi : Nat) (v : Value) (ho : WO u lo hi v D) :
    Calls Try.prog 33 #[v, .int .i64 id, .string nm, .int .i64 val] u fun rr u' => ∃ v', rr = .returned (.tuple #[v', .int .i64 3]) ∧ WO u' u.heap.size u'.heap.size v' D ∧ Kept u u' := by
  obtain ⟨ao, n, cap, hfm⟩ := ho.form
  subst hfm
  have HR : Hid _ := hR
  have HE : Hid (D.2.2[k]? = some e ∧ e.1 = id) := ⟨hk, hid⟩
  clear hk hid hR
  have HN : Hid _ := hno
  have HF : Hid _ := hfl
  clear hno hfl
  go_enter Try.func33, Try.ntmps33
  go_wp2_with (first
    | (go_at_call 77; refine (HR.out _ _ _ _ (ho.kept (((But.refl _ _ u).alloc _).alloc _))).mono ?_; rintro e u2 ⟨v2, rfl, o2, k2⟩
       obtain ⟨ao2, n2, cap2, hfm2⟩ := o2.form
       subst hfm2
       have K2 : Kept u u2 := (((But.refl _ _ u).alloc _).alloc _).trans k2
       have L1 := (Loc.new (u.alloc (.cells #[.int .i64 D.1, .int .i64 D.2.1, .slice ao n cap] 25)) [.int .i64 0, .int .i64 0, .slice none 0 0] 25).kept k2
       simp only [World.size_alloc] at L1 o2
       have s4 := L1.lt
       have y0 := L1.cell 0 rfl
       have y1 := L1.cell 1 rfl
       have y2 := L1.cell 2 rfl
       have yf0 := L1.frozen 0
       have yf1 := L1.frozen 1
       have yf2 := L1.frozen 2
       have HL1 : Hid _ := L1
       have HK2 : Hid _ := K2
       obtain ⟨zs, hzn, hen, hst⟩ := o2.ents
       have h60 : zs.length ≤ 60 := by
         have h5 := hg.2.2.2.2.1
         have := congrArg List.length hst
         rw [List.length_map] at this
         omega
       subst hzn
       obtain ⟨z, hz, hze⟩ : ∃ z, zs[k]? = some z ∧ strip z = e := by
         have h1 := HE.out.1
         rw [← hst, List.getElem?_map] at h1
         cases hz : zs[k]? with
         | none => rw [hz] at h1; cases h1
         | some z => rw [hz] at h1; simp at h1; exact ⟨z, rfl, h1⟩
       have hze2 : z.2.2 = e.2 := congrArg (fun a : ED => a.2) hze
       have hkl : k < zs.length := (List.getElem?_eq_some_iff.1 hz).1
       obtain ⟨g, cap9, hfg, hbs, _⟩ := own_cell hen.row.1 (flat_get 2 ec ec_len zs k 0 z hz (by omega))
       cases hfg
       have hghi := hen.row.2 g rfl
       obtain ⟨cc0, cc1, ccf⟩ := hen.cells hz
       obtain ⟨aop, capp, hpf, _⟩ := own_form (hen.parts k z hz).1
       rw [hpf] at cc1
       have hl12 : z.2.2.length ≤ 12 := by rw [hze2]; exact (hg.2.2.2.2.2 k e HE.out.1).2.2.2.1
       have HEN : Hid (EntsO u2 (u.heap.size + 1 + 1) u2.heap.size (.slice (some ⟨g, 0, none⟩) zs.length cap2) zs ∧ zs.map strip = D.2.2 ∧ zs[k]? = some z ∧ z.2.1 = .slice aop z.2.2.length capp ∧ z.2.2 = e.2 ∧ strip z = e) := ⟨hen, hst, hz, hpf, hze2, hze⟩
       have HPA : Hid (PartsAt u2 (.slice aop z.2.2.length capp) z.2.2) := by
         have h7 := (hen.parts k z hz).at
         rw [hpf] at h7
         exact h7
       have HRP : Hid (RiseP z.2.2) := by rw [hze2]; exact riseP_of (hg.2.2.2.2.2 k e HE.out.1).2.2.2
       have hzd : ((z.2.2.length : Int) == 12) = true := by rw [hze2, HF.out]; rfl
       have ccf1 := ccf (k * 2 + 1)
       clear hen hst hz hpf hze2 hze ccf
       have L0 := ((Loc.new u [.int .i64 D.1, .int .i64 D.2.1, .slice ao n cap] 25).alloc (.cells #[.int .i64 0, .int .i64 0, .slice none 0 0] 25)).kept k2
       have w1 := L0.cell 1 rfl
       have hl0 := L0.lt
       clear L0

       have HO2 : Hid _ := o2
       clear L1 K2 o2 k2)
    | (go_at_call 78; refine (findP_no z.2.2 nm (fun p hp => HN.out p (by rw [← HEN.out.2.2.2.2.1]; exact hp)) _ _ (HPA.out.kept (((But.refl _ _ u2).alloc _).alloc _)) HRP.out (by omega)).mono ?_; rintro e u3 ⟨⟨kk, rfl, _, _⟩, k3⟩
       have M1 := ((Loc.alloc HL1.out (.cells #[.int .i64 D.1, .int .i64 D.2.1, .slice (some ⟨g, 0, none⟩) zs.length cap2] 25)).alloc (.cells #[.string nm, .int .i64 val, .int .i64 D.2.1] 89)).kept k3
       have M2 := ((Loc.new u2 [.int .i64 D.1, .int .i64 D.2.1, .slice (some ⟨g, 0, none⟩) zs.length cap2] 25).alloc (.cells #[.string nm, .int .i64 val, .int .i64 D.2.1] 89)).kept k3
       have M3 := (Loc.new (u2.alloc (.cells #[.int .i64 D.1, .int .i64 D.2.1, .slice (some ⟨g, 0, none⟩) zs.length cap2] 25)) [.string nm, .int .i64 val, .int .i64 D.2.1] 89).kept k3
       have s7 := k3.size
       simp only [World.size_alloc] at s7 M3
       have p0 := M1.cell 0 rfl
       have p1 := M1.cell 1 rfl
       have p2 := M1.cell 2 rfl
       have pf0 := M1.frozen 0
       have pf1 := M1.frozen 1
       have pf2 := M1.frozen 2
       have t0 := M2.cell 0 rfl
       have t1 := M2.cell 1 rfl
       have t2 := M2.cell 2 rfl
       have tf0 := M2.frozen 0
       have tf1 := M2.frozen 1
       have tf2 := M2.frozen 2
       have q0 := M3.cell 0 rfl
       have q1 := M3.cell 1 rfl
       have q2 := M3.cell 2 rfl
       have qf0 := M3.frozen 0
       have qf1 := M3.frozen 1
       have qf2 := M3.frozen 2
       have HE3 : Hid _ := ((HEN.out.1.kept ((But.refl _ _ u2).alloc _)).kept ((But.refl _ _ _).alloc _)).kept k3
       have HK3 : Hid _ := ((HK2.out.alloc _).alloc _).trans k3
       have HM1 : Hid _ := M1
       have HM2 : Hid _ := M2
       have HM3 : Hid _ := M3
       clear M1 M2 M3 k3 w1 hl0))
  have B : But u.heap.size (u.heap.size + 2) u3 (((u3.setCell ⟨u.heap.size + 1, 0, none⟩ (.int .i64 D.1)).setCell ⟨u.heap.size + 1, 1, none⟩ (.int .i64 D.2.1)).setCell ⟨u.heap.size + 1, 2, none⟩ (.slice (some ⟨g, 0, none⟩) zs.length cap2)) := (((But.refl _ _ _).setCell (by simp) (by simp) _).setCell (by simp) (by simp) _).setCell (by simp) (by simp) _
  refine bodyPost_ret (v := .tuple #[.agg #[.int .i64 D.1, .int .i64 D.2.1, .slice (some ⟨g, 0, none⟩) zs.length cap2], .int .i64 3]) (by simp [results, Try.results33, go_sem, p0, p1, p2]) rfl ?_
  exact ⟨_, rfl, ⟨_, zs, rfl, ((HE3.out.but B (by omega)).mono (by omega) (Nat.le_refl _)).low, HEN.out.2.1⟩, HK3.out.onto B (Nat.le_refl _)⟩

set_option maxRecDepth 100000 in
set_option maxHeartbeats 4000000 in
theorem implSetNew (D : WD) (id : Int) (nm : ByteArray) (val : Int) (k : Nat) (e : ED) (j : Nat) (hg : GoodW D) (hk : D.2.2[k]? = some e) (hid : e.1 = id) (hno : ∀ p ∈ e.2, p.1 ≠ nm) (hfl : e.2.length < 12) (hjc : CuttingP e.2 nm j j) (hjl : j ≤ e.2.length) (hR : ∀ (u : World) (lo hi : Nat) (v : Value), WO u lo hi v D → Calls Try.prog 77 #[v, .int .i64 id, .string nm] u fun e u' => ∃ v', e = .returned (.tuple #[v', .int .i64 (k : Int), .int .i64 0]) ∧ WO u' u.heap.size u'.heap.size v' D ∧ Kept u u') (u : World) (lo hi : Nat) (v : Value) (ho : WO u lo hi v D) :
    Calls Try.prog 33 #[v, .int .i64 id, .string nm, .int .i64 val] u fun rr u' => ∃ v', rr = .returned (.tuple #[v', .int .i64 0]) ∧ WO u' u.heap.size u'.heap.size v' (D.1, D.2.1, D.2.2.set k (e.1, e.2.take j ++ [(nm, val, D.2.1)] ++ e.2.drop j)) ∧ Kept u u' := by
  obtain ⟨ao, n, cap, hfm⟩ := ho.form
  subst hfm
  have HR : Hid _ := hR
  have HE : Hid (D.2.2[k]? = some e ∧ e.1 = id) := ⟨hk, hid⟩
  clear hk hid hR
  have HN : Hid _ := hno
  have HJ : Hid _ := hjc
  clear hno hjc
  go_enter Try.func33, Try.ntmps33
  go_wp2_with (first
    | (go_at_call 77; refine (HR.out _ _ _ _ (ho.kept (((But.refl _ _ u).alloc _).alloc _))).mono ?_; rintro e u2 ⟨v2, rfl, o2, k2⟩
       obtain ⟨ao2, n2, cap2, hfm2⟩ := o2.form
       subst hfm2
       have K2 : Kept u u2 := (((But.refl _ _ u).alloc _).alloc _).trans k2
       have L1 := (Loc.new (u.alloc (.cells #[.int .i64 D.1, .int .i64 D.2.1, .slice ao n cap] 25)) [.int .i64 0, .int .i64 0, .slice none 0 0] 25).kept k2
       simp only [World.size_alloc] at L1 o2
       have s4 := L1.lt
       have y0 := L1.cell 0 rfl
       have y1 := L1.cell 1 rfl
       have y2 := L1.cell 2 rfl
       have yf0 := L1.frozen 0
       have yf1 := L1.frozen 1
       have yf2 := L1.frozen 2
       have HL1 : Hid _ := L1
       have HK2 : Hid _ := K2
       obtain ⟨zs, hzn, hen, hst⟩ := o2.ents
       have h60 : zs.length ≤ 60 := by
         have h5 := hg.2.2.2.2.1
         have := congrArg List.length hst
         rw [List.length_map] at this
         omega
       subst hzn
       obtain ⟨z, hz, hze⟩ : ∃ z, zs[k]? = some z ∧ strip z = e := by
         have h1 := HE.out.1
         rw [← hst, List.getElem?_map] at h1
         cases hz : zs[k]? with
         | none => rw [hz] at h1; cases h1
         | some z => rw [hz] at h1; simp at h1; exact ⟨z, rfl, h1⟩
       have hze2 : z.2.2 = e.2 := congrArg (fun a : ED => a.2) hze
       have hkl : k < zs.length := (List.getElem?_eq_some_iff.1 hz).1
       obtain ⟨g, cap9, hfg, hbs, _⟩ := own_cell hen.row.1 (flat_get 2 ec ec_len zs k 0 z hz (by omega))
       cases hfg
       have hghi := hen.row.2 g rfl
       obtain ⟨cc0, cc1, ccf⟩ := hen.cells hz
       obtain ⟨aop, capp, hpf, _⟩ := own_form (hen.parts k z hz).1
       rw [hpf] at cc1
       have hl12 : z.2.2.length ≤ 12 := by rw [hze2]; exact (hg.2.2.2.2.2 k e HE.out.1).2.2.2.1
       have HEN : Hid (EntsO u2 (u.heap.size + 1 + 1) u2.heap.size (.slice (some ⟨g, 0, none⟩) zs.length cap2) zs ∧ zs.map strip = D.2.2 ∧ zs[k]? = some z ∧ z.2.1 = .slice aop z.2.2.length capp ∧ z.2.2 = e.2 ∧ strip z = e) := ⟨hen, hst, hz, hpf, hze2, hze⟩
       have HPA : Hid (PartsAt u2 (.slice aop z.2.2.length capp) z.2.2) := by
         have h7 := (hen.parts k z hz).at
         rw [hpf] at h7
         exact h7
       have HRP : Hid (RiseP z.2.2) := by rw [hze2]; exact riseP_of (hg.2.2.2.2.2 k e HE.out.1).2.2.2
       have hzl : z.2.2.length < 12 := by rw [hze2]; exact hfl
       have hzj : j ≤ z.2.2.length := by rw [hze2]; exact hjl
       have hzd : ((z.2.2.length : Int) == 12) = false := by simp; omega
       have ccf1 := ccf (k * 2 + 1)
       clear hen hst hz hpf hze2 hze ccf
       have L0 := ((Loc.new u [.int .i64 D.1, .int .i64 D.2.1, .slice ao n cap] 25).alloc (.cells #[.int .i64 0, .int .i64 0, .slice none 0 0] 25)).kept k2
       have w1 := L0.cell 1 rfl
       have hl0 := L0.lt
       clear L0

       have HO2 : Hid _ := o2
       clear L1 K2 o2 k2)
    | (go_at_call 78; refine (findP_no z.2.2 nm (fun p hp => HN.out p (by rw [← HEN.out.2.2.2.2.1]; exact hp)) _ _ (HPA.out.kept (((But.refl _ _ u2).alloc _).alloc _)) HRP.out (by omega)).mono ?_; rintro e u3 ⟨⟨kk, rfl, hkc, hkl2⟩, k3⟩
       have M1 := ((Loc.alloc HL1.out (.cells #[.int .i64 D.1, .int .i64 D.2.1, .slice (some ⟨g, 0, none⟩) zs.length cap2] 25)).alloc (.cells #[.string nm, .int .i64 val, .int .i64 D.2.1] 89)).kept k3
       have M2 := ((Loc.new u2 [.int .i64 D.1, .int .i64 D.2.1, .slice (some ⟨g, 0, none⟩) zs.length cap2] 25).alloc (.cells #[.string nm, .int .i64 val, .int .i64 D.2.1] 89)).kept k3
       have M3 := (Loc.new (u2.alloc (.cells #[.int .i64 D.1, .int .i64 D.2.1, .slice (some ⟨g, 0, none⟩) zs.length cap2] 25)) [.string nm, .int .i64 val, .int .i64 D.2.1] 89).kept k3
       have s7 := k3.size
       simp only [World.size_alloc] at s7 M3
       have p0 := M1.cell 0 rfl
       have p1 := M1.cell 1 rfl
       have p2 := M1.cell 2 rfl
       have pf0 := M1.frozen 0
       have pf1 := M1.frozen 1
       have pf2 := M1.frozen 2
       have t0 := M2.cell 0 rfl
       have t1 := M2.cell 1 rfl
       have t2 := M2.cell 2 rfl
       have tf0 := M2.frozen 0
       have tf1 := M2.frozen 1
       have tf2 := M2.frozen 2
       have q0 := M3.cell 0 rfl
       have q1 := M3.cell 1 rfl
       have q2 := M3.cell 2 rfl
       have qf0 := M3.frozen 0
       have qf1 := M3.frozen 1
       have qf2 := M3.frozen 2
       have HE3 : Hid _ := ((HEN.out.1.kept ((But.refl _ _ u2).alloc _)).kept ((But.refl _ _ _).alloc _)).kept k3
       have HK3 : Hid _ := ((HK2.out.alloc _).alloc _).trans k3
       have HM1 : Hid _ := M1
       have HM2 : Hid _ := M2
       have HM3 : Hid _ := M3
       clear M1 M2 M3 k3 w1 hl0
       obtain rfl : kk = j := cut_one hkc (by rw [HEN.out.2.2.2.2.1]; exact HJ.out) hkl2 hzj
       clear hkc))
  have hpo := HE3.out.parts k z HEN.out.2.2.1
  rw [HEN.out.2.2.2.1] at hpo
  have HPO : Hid _ := hpo
  have hap : Ap (.slice (some ⟨g, 0, none⟩) zs.length cap2) (.slice aop z.2.2.length capp) := ap_types HE3.out.row hpo (by decide)
  have HAP : Hid _ := hap
  obtain ⟨dd0, dd1, ddf⟩ := HE3.out.cells HEN.out.2.2.1
  rw [HEN.out.2.2.2.1] at dd1
  have ddf1 := ddf (k * 2 + 1)
  have dds : (u3.cell? ⟨g, k * 2 + 1, none⟩).isSome = true := by rw [dd1]; rfl
  have hb1 : (0 : Int) ≤ (k : Int) := by omega
  have hb2 : (k : Int) < (zs.length : Int) := by omega
  have hl1 : u2.heap.size < u3.heap.size := by omega
  have hl2 : u2.heap.size + 1 < u3.heap.size := by omega
  have hl3 : g < u3.heap.size := by omega
  clear hpo hap ddf dd0 cc0 cc1 ccf1
  go_region_held3 (fun w' => w'.cell? ⟨u2.heap.size, 2, none⟩ = some (.slice (some ⟨g, 0, none⟩) zs.length cap2) ∧ w'.cell? ⟨u2.heap.size + 1, 0, none⟩ = some (.string nm) ∧ w'.cell? ⟨u2.heap.size + 1, 1, none⟩ = some (.int .i64 val) ∧ w'.cell? ⟨u2.heap.size + 1, 2, none⟩ = some (.int .i64 D.2.1) ∧ (w'.cell? ⟨g, k * 2 + 1, none⟩).isSome = true ∧ w'.frozen? ⟨g, k * 2 + 1, none⟩ = false) (simp [go_sem, *])
    (first
      | (go_at_call 79
         refine (insertP (u.heap.size + 1 + 1) z.2.2.length kk (.slice aop z.2.2.length capp) (partCells z.2.2) u3.heap.size (nm, val, D.2.1) _ (own_kept HPO.out.1 (((But.refl _ _ u3).alloc _).drew)) (pc_one _) ((Loc.new u3 (pc (nm, val, D.2.1)) 89).kept ((But.refl _ _ _).drew)) (fun hx => by have := (own_lt HPO.out.1 hx).2; omega) hzj (by omega) (by simp; omega)).mono ?_
         rintro e u4 ⟨v4, rfl, hown4, hB4, hob4⟩
         obtain ⟨ao4, cap4, hf4, _⟩ := own_form hown4
         subst hf4
         have HB5 : Hid (But (blo (.slice aop z.2.2.length capp)) (bhi (.slice aop z.2.2.length capp)) u3 u4) := ((But.refl _ _ u3).alloc _).drew.trans hB4
         have HB6 : Hid (But (u.heap.size + 1 + 1) u2.heap.size u3 u4) := HB5.out.inner HPO.out
         have t2 := (Loc.but HM2.out HB6.out (by omega)).cell 2 rfl
         have q0 := (Loc.but HM3.out HB6.out (by omega)).cell 0 rfl
         have q1 := (Loc.but HM3.out HB6.out (by omega)).cell 1 rfl
         have q2 := (Loc.but HM3.out HB6.out (by omega)).cell 2 rfl
         obtain ⟨_, dd1, ddf⟩ := EE HE3.out HEN.out.2.2.1 HEN.out.2.2.2.1 HB5.out
         have dds : (u4.cell? ⟨g, k * 2 + 1, none⟩).isSome = true := by rw [dd1]; rfl
         have ddf1 : u4.frozen? ⟨g, k * 2 + 1, none⟩ = false := ddf (k * 2 + 1)
         have HOW : Hid _ := hown4
         have HOB : Hid _ := hob4
         clear hown4 hB4 hob4 ddf))
  have hz1 := HEN.out.2.2.2.1
  have s9 := HB6.out.size
  have E5 : EntsO (u4.setCell ⟨g, k * 2 + 1, none⟩ (.slice ao4 (z.2.2.length + 1) cap4)) (u.heap.size + 1 + 1) u4.heap.size (.slice (some ⟨g, 0, none⟩) zs.length cap2) (zs.set k (z.1, .slice ao4 (z.2.2.length + 1) cap4, z.2.2.take kk ++ [(nm, val, D.2.1)] ++ z.2.2.drop kk)) :=
    HE3.out.swap2 rfl HEN.out.2.2.1 (by rw [hz1]; exact HB5.out) (by rw [flat_insert]; exact HOW.out) (by simp; omega) (by
      rcases HOB.out with h | h
      · exact .inl (by rw [hz1]; exact h)
      · exact .inr ⟨_, h, by simp; omega⟩)
  have N1 : Loc (u4.setCell ⟨g, k * 2 + 1, none⟩ (.slice ao4 (z.2.2.length + 1) cap4)) (u.heap.size + 1) [.int .i64 0, .int .i64 0, .slice none 0 0] := (Loc.but HM1.out HB6.out (by omega)).other (by omega) _
  have N2 : Loc (u4.setCell ⟨g, k * 2 + 1, none⟩ (.slice ao4 (z.2.2.length + 1) cap4)) u2.heap.size [.int .i64 D.1, .int .i64 D.2.1, .slice (some ⟨g, 0, none⟩) zs.length cap2] := (Loc.but HM2.out HB6.out (by omega)).other (by omega) _
  have K5 : Kept u (u4.setCell ⟨g, k * 2 + 1, none⟩ (.slice ao4 (z.2.2.length + 1) cap4)) := (HK3.out.onto HB6.out (by omega)).onto ((But.refl _ _ u4).setCell (lo := g) (hi := g + 1) (by simp) (by simp) _) (by omega)
  have sz5 : u4.heap.size = (u4.setCell ⟨g, k * 2 + 1, none⟩ (.slice ao4 (z.2.2.length + 1) cap4)).heap.size := by simp
  generalize hw5 : (u4.setCell ⟨g, k * 2 + 1, none⟩ (.slice ao4 (z.2.2.length + 1) cap4)) = w5 at E5 N1 N2 K5 sz5 ⊢
  have n0 := N2.cell 0 rfl
  have n1 := N2.cell 1 rfl
  have n2' := N2.cell 2 rfl
  have v0 := N1.cell 0 rfl
  have v1 := N1.cell 1 rfl
  have v2 := N1.cell 2 rfl
  have vf0 := N1.frozen 0
  have vf1 := N1.frozen 1
  have vf2 := N1.frozen 2
  have HE5 : Hid _ := E5
  have HK5 : Hid _ := K5
  have HSZ : Hid _ := sz5
  clear hw5 E5 K5 N1 N2 HPO HOW HOB HB5 HB6 hz1 sz5 t2 q0 q1 q2 dd1 dds ddf1
  go_wp2
  have B : But u.heap.size (u.heap.size + 2) w5 (((w5.setCell ⟨u.heap.size + 1, 0, none⟩ (.int .i64 D.1)).setCell ⟨u.heap.size + 1, 1, none⟩ (.int .i64 D.2.1)).setCell ⟨u.heap.size + 1, 2, none⟩ (.slice (some ⟨g, 0, none⟩) zs.length cap2)) := (((But.refl _ _ _).setCell (by simp) (by simp) _).setCell (by simp) (by simp) _).setCell (by simp) (by simp) _
  refine bodyPost_ret (v := .tuple #[.agg #[.int .i64 D.1, .int .i64 D.2.1, .slice (some ⟨g, 0, none⟩) zs.length cap2], .int .i64 0]) (by simp [results, Try.results33, go_sem, v0, v1, v2]) rfl ?_
  refine ⟨_, rfl, ⟨_, _, rfl, ((HE5.out.but B (by omega)).mono (by omega) (Nat.le_refl _)).low, ?_⟩, HK5.out.onto B (Nat.le_refl _)⟩
  rw [List.map_set, HEN.out.2.1, ← HEN.out.2.2.2.2.1, ← HEN.out.2.2.2.2.2]
  rfl
end Go.Proofs.Ytefiaefjldfbjaa
