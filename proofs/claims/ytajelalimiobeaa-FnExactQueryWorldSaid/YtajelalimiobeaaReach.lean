/-
  What reachEntity answers.
-/
import Derived.Test.YtajelalimiobeaaDespawnI
import Derived.Test.YtajelalimiobeaaFindP
import Derived.Test.YtajelalimiobeaaDelP
namespace Go.Proofs.Ytajelalimiobeaa
open Go.ChangeShapes Go.WideShapes Go.ChangeAt Go.RowKit

/-- An entity's parts in their own row, which has grown shorter. -/
theorem EntsO.swap {w w' : World} {lo hi g n cap gp m c m' c' i : Nat} {zs : List PE} {z : PE} {ps' : List PD} (h : EntsO w lo hi (.slice (some ⟨g, 0, none⟩) n cap) zs) (hn : n = zs.length) (hz : zs[i]? = some z) (hzv : z.2.1 = .slice (some ⟨gp, 0, none⟩) m c) (b : But gp (gp + 1) w w')
    (hp : w'.ownsRow lo 89 3 (.slice (some ⟨gp, 0, none⟩) m' c') m' (partCells ps')) (hm : m' = ps'.length) :
    EntsO (w'.setCell ⟨g, i * 2 + 1, none⟩ (.slice (some ⟨gp, 0, none⟩) m' c')) lo hi (.slice (some ⟨g, 0, none⟩) n cap) (zs.set i (z.1, .slice (some ⟨gp, 0, none⟩) m' c', ps')) := by
  subst hn
  subst hm
  have b' : But (blo z.2.1) (bhi z.2.1) w w' := by rw [hzv]; simpa [blo, bhi, Value.ownBlock] using b
  have hrow := h.row.apart b' (h.ap hz)
  have hgh : gp < hi := (h.parts i z hz).2 gp (by rw [hzv]; rfl)
  have hpo : PartsO w' lo hi (.slice (some ⟨gp, 0, none⟩) ps'.length c') ps' := ⟨hp, fun x hx => by simp [Value.ownBlock] at hx; omega⟩
  have hob : (Value.slice (some ⟨gp, 0, none⟩) ps'.length c').ownBlock = z.2.1.ownBlock := by rw [hzv]; rfl
  refine ⟨?_, fun j y hy => ?_, fun j k y y' hjk hy hy' => ?_⟩
  · have := RowO.set hrow (i * 2 + 1) (.slice (some ⟨gp, 0, none⟩) ps'.length c')
    rw [List.length_set]
    rw [Nat.mul_comm i 2] at this ⊢
    rw [entCells, flat_set 2 ec ec_len zs i 1 z (z.1, .slice (some ⟨gp, 0, none⟩) ps'.length c', ps') _ hz (by omega) rfl] at this
    exact this
  · rcases get_set hy with ⟨rfl, rfl⟩ | ⟨hj, gy⟩
    · exact hpo.apart (but_set w' g _ cap _ _) (ap_types hrow hpo (by decide)).symm
    · exact ((h.parts j y gy).apart b' (h.each _ _ _ _ hj gy hz)).apart (but_set w' g _ cap _ _) (h.ap gy).symm
  · rcases get_set hy with ⟨rfl, rfl⟩ | ⟨_, gy⟩ <;> rcases get_set hy' with ⟨rfl, rfl⟩ | ⟨_, gy'⟩
    · exact absurd rfl hjk
    · intro x hx
      rw [hob] at hx
      exact h.each _ _ z y' hjk hz gy' x hx
    · intro x hx
      show (Value.slice (some ⟨gp, 0, none⟩) ps'.length c').ownBlock ≠ some x
      rw [hob]
      exact h.each _ _ y z hjk gy hz x hx
    · exact h.each _ _ y y' hjk gy gy'
theorem riseP_of {T : Int} {ps : List PD} (hg : GoodPs T ps) : RiseP ps := by
  have step : ∀ (i : Nat) (x y : PD), ps[i]? = some x → ps[i + 1]? = some y → less x.1 y.1 = true := by
    intro i x y hx hy
    exact (hg.2 (i + 1) y hy).2.2.2 x (by omega) (by rw [Nat.add_sub_cancel]; exact hx)
  intro i j x y hij hx hy
  obtain ⟨d, rfl⟩ : ∃ d, j = i + 1 + d := ⟨j - (i + 1), by omega⟩
  clear hij
  induction d generalizing y with
  | zero => exact step i x y hx hy
  | succ d ih =>
    have hl : i + 1 + d < ps.length := by have := (List.getElem?_eq_some_iff.1 hy).1; omega
    exact less_trans (ih _ (List.getElem?_eq_getElem hl)) (step (i + 1 + d) _ y (List.getElem?_eq_getElem hl) hy)

set_option maxHeartbeats 4000000 in
theorem reachBad (D : WD) (id : Int) (nm : ByteArray) (hg : ¬ GoodW D) (hc : ecost D.2.2 ≤ 1048576) (u : World) (lo hi : Nat) (v : Value) (ho : WO u lo hi v D) :
    Calls Try.prog 77 #[v, .int .i64 id, .string nm] u fun e u' => ∃ v', e = .returned (.tuple #[v', .int .i64 0, .int .i64 1]) ∧ WO u' u.heap.size u'.heap.size v' DZ ∧ Kept u u' := by
  obtain ⟨ao, n, cap, hfm⟩ := ho.form
  subst hfm
  have hA := ho.at
  go_enter Try.func77, Try.ntmps77
  go_wp2_with (first
    | (go_at_call 27; refine (good_no (implGood D _ _ (hA.kept (((But.refl _ _ u).alloc _).alloc _)) hc) hg).mono ?_; rintro e u1 ⟨rfl, k1⟩
       have K1 : Kept u u1 := (((But.refl _ _ u).alloc _).alloc _).trans k1
       have L0 := ((Loc.new u [.int .i64 D.1, .int .i64 D.2.1, .slice ao n cap] 25).alloc _).kept k1
       have L1 := (Loc.new (u.alloc (.cells #[.int .i64 D.1, .int .i64 D.2.1, .slice ao n cap] 25)) [.int .i64 0, .int .i64 0, .slice none 0 0] 25).kept k1
       simp only [World.size_alloc] at L1
       have x0 := L0.cell 0 rfl
       have x1 := L0.cell 1 rfl
       have x2 := L0.cell 2 rfl
       have xf0 := L0.frozen 0
       have xf1 := L0.frozen 1
       have xf2 := L0.frozen 2
       have y0 := L1.cell 0 rfl
       have y1 := L1.cell 1 rfl
       have y2 := L1.cell 2 rfl
       have yf0 := L1.frozen 0
       have yf1 := L1.frozen 1
       have yf2 := L1.frozen 2
       have HL0 : Hid _ := L0
       have HL1 : Hid _ := L1
       have HK1 : Hid _ := K1
       clear k1 L0 L1 K1))
  have B : But u.heap.size (u.heap.size + 2) u1 (((u1.setCell ⟨u.heap.size + 1, 0, none⟩ (.int .i64 0)).setCell ⟨u.heap.size + 1, 1, none⟩ (.int .i64 0)).setCell ⟨u.heap.size + 1, 2, none⟩ (.slice none 0 0)) :=
    (((But.refl _ _ _).setCell (by simp) (by simp) _).setCell (by simp) (by simp) _).setCell (by simp) (by simp) _
  refine bodyPost_ret (v := .tuple #[.agg #[.int .i64 0, .int .i64 0, .slice none 0 0], .int .i64 0, .int .i64 1]) (by simp [results, Try.results77, go_sem, y0, y1, y2]) rfl ?_
  exact ⟨_, rfl, wo_zero _ _ _, HK1.out.onto B (Nat.le_refl _)⟩

set_option maxHeartbeats 4000000 in
theorem reachName (D : WD) (id : Int) (nm : ByteArray) (hg : GoodW D) (hnl : nm.size ≤ 1048576) (hnm : nameB nm = false) (hc : ecost D.2.2 ≤ 1048576) (u : World) (lo hi : Nat) (v : Value) (ho : WO u lo hi v D) :
    Calls Try.prog 77 #[v, .int .i64 id, .string nm] u fun e u' => ∃ v', e = .returned (.tuple #[v', .int .i64 0, .int .i64 4]) ∧ WO u' u.heap.size u'.heap.size v' D ∧ Kept u u' := by
  obtain ⟨ao, n, cap, hfm⟩ := ho.form
  subst hfm
  have hA := ho.at
  go_enter Try.func77, Try.ntmps77
  go_wp2_with (first
    | (go_at_call 27; refine (good_yes (implGood D _ _ (hA.kept (((But.refl _ _ u).alloc _).alloc _)) hc) hg).mono ?_; rintro e u1 ⟨rfl, k1⟩
       have K1 : Kept u u1 := (((But.refl _ _ u).alloc _).alloc _).trans k1
       have L0 := ((Loc.new u [.int .i64 D.1, .int .i64 D.2.1, .slice ao n cap] 25).alloc _).kept k1
       have L1 := (Loc.new (u.alloc (.cells #[.int .i64 D.1, .int .i64 D.2.1, .slice ao n cap] 25)) [.int .i64 0, .int .i64 0, .slice none 0 0] 25).kept k1
       simp only [World.size_alloc] at L1
       have x0 := L0.cell 0 rfl
       have x1 := L0.cell 1 rfl
       have x2 := L0.cell 2 rfl
       have xf0 := L0.frozen 0
       have xf1 := L0.frozen 1
       have xf2 := L0.frozen 2
       have y0 := L1.cell 0 rfl
       have y1 := L1.cell 1 rfl
       have y2 := L1.cell 2 rfl
       have yf0 := L1.frozen 0
       have yf1 := L1.frozen 1
       have yf2 := L1.frozen 2
       have HL0 : Hid _ := L0
       have HL1 : Hid _ := L1
       have HK1 : Hid _ := K1
       clear k1 L0 L1 K1)
    | (go_at_call 73; refine (implCopy D _ _ (hA.kept HK1.out) hc).mono ?_; rintro e u2 ⟨v2, rfl, o2, k2⟩
       obtain ⟨ao2, n2, cap2, hfm2⟩ := o2.form
       subst hfm2
       obtain ⟨zs, hzn, hen, hst⟩ := o2.ents
       have h60 : zs.length ≤ 60 := by
         have h5 := hg.2.2.2.2.1
         have := congrArg List.length hst
         rw [List.length_map] at this
         omega
       subst hzn
       have HEN : Hid (EntsO u2 u1.heap.size u2.heap.size (.slice ao2 zs.length cap2) zs ∧ zs.map strip = D.2.2) := ⟨hen, hst⟩
       have hbase := Loc.lt HL1.out
       have hbase2 := k2.size
       clear hen hst
       have K2 := HK1.out.trans k2
       have L0 := Loc.kept HL0.out k2
       have L1 := Loc.kept HL1.out k2
       have s2 := HK1.out.size
       have s3 := k2.size
       have s4 := L1.lt
       have s6 := L0.lt
       have s5 := Loc.lt HL1.out
       clear x0 x1 x2 xf0 xf1 xf2 y0 y1 y2 yf0 yf1 yf2 HL0 HL1 HK1 k2
       have x0 := L0.cell 0 rfl
       have x1 := L0.cell 1 rfl
       have x2 := L0.cell 2 rfl
       have xf0 := L0.frozen 0
       have xf1 := L0.frozen 1
       have xf2 := L0.frozen 2
       have y0 := L1.cell 0 rfl
       have y1 := L1.cell 1 rfl
       have y2 := L1.cell 2 rfl
       have yf0 := L1.frozen 0
       have yf1 := L1.frozen 1
       have yf2 := L1.frozen 2

       have HL0 : Hid _ := L0
       have HL1 : Hid _ := L1
       have HK2 : Hid _ := K2
       have HO2 : Hid _ := o2
       clear L0 L1 K2 o2)
    | (go_at_call 104; refine (iname _ _ hnl).mono ?_; rintro e w9 ⟨rfl, rfl⟩))
  have B : But u.heap.size (u.heap.size + 2) u2 ((((u2.setCell ⟨u.heap.size + 1, 0, none⟩ (.int .i64 D.1)).setCell ⟨u.heap.size + 1, 1, none⟩ (.int .i64 D.2.1)).setCell ⟨u.heap.size + 1, 2, none⟩ (.slice ao2 zs.length cap2)).alloc (.cells #[.int .i64 D.1, .int .i64 D.2.1, .slice ao2 zs.length cap2] 25)) := ((((But.refl _ _ _).setCell (by simp) (by simp) _).setCell (by simp) (by simp) _).setCell (by simp) (by simp) _).alloc _
  refine bodyPost_ret (v := .tuple #[.agg #[.int .i64 D.1, .int .i64 D.2.1, .slice ao2 zs.length cap2], .int .i64 0, .int .i64 4]) (by simp [results, Try.results77, go_sem, y0, y1, y2, s4]) rfl ?_
  exact ⟨_, rfl, ⟨_, zs, rfl, ((HEN.out.1.but B (by omega)).mono (by omega) B.size).low, HEN.out.2⟩, HK2.out.onto B (by omega)⟩

set_option maxHeartbeats 4000000 in
theorem reachNone (D : WD) (id : Int) (nm : ByteArray) (hg : GoodW D) (hnl : nm.size ≤ 1048576) (hnm : nameB nm = true) (hno : ∀ e ∈ D.2.2, e.1 ≠ id) (hc : ecost D.2.2 ≤ 1048576) (u : World) (lo hi : Nat) (v : Value) (ho : WO u lo hi v D) :
    Calls Try.prog 77 #[v, .int .i64 id, .string nm] u fun e u' => ∃ v', e = .returned (.tuple #[v', .int .i64 0, .int .i64 2]) ∧ WO u' u.heap.size u'.heap.size v' D ∧ Kept u u' := by
  obtain ⟨ao, n, cap, hfm⟩ := ho.form
  subst hfm
  have hA := ho.at
  have HN : Hid _ := hno
  clear hno
  go_enter Try.func77, Try.ntmps77
  go_wp2_with (first
    | (go_at_call 27; refine (good_yes (implGood D _ _ (hA.kept (((But.refl _ _ u).alloc _).alloc _)) hc) hg).mono ?_; rintro e u1 ⟨rfl, k1⟩
       have K1 : Kept u u1 := (((But.refl _ _ u).alloc _).alloc _).trans k1
       have L0 := ((Loc.new u [.int .i64 D.1, .int .i64 D.2.1, .slice ao n cap] 25).alloc _).kept k1
       have L1 := (Loc.new (u.alloc (.cells #[.int .i64 D.1, .int .i64 D.2.1, .slice ao n cap] 25)) [.int .i64 0, .int .i64 0, .slice none 0 0] 25).kept k1
       simp only [World.size_alloc] at L1
       have x0 := L0.cell 0 rfl
       have x1 := L0.cell 1 rfl
       have x2 := L0.cell 2 rfl
       have xf0 := L0.frozen 0
       have xf1 := L0.frozen 1
       have xf2 := L0.frozen 2
       have y0 := L1.cell 0 rfl
       have y1 := L1.cell 1 rfl
       have y2 := L1.cell 2 rfl
       have yf0 := L1.frozen 0
       have yf1 := L1.frozen 1
       have yf2 := L1.frozen 2
       have HL0 : Hid _ := L0
       have HL1 : Hid _ := L1
       have HK1 : Hid _ := K1
       clear k1 L0 L1 K1)
    | (go_at_call 73; refine (implCopy D _ _ (hA.kept HK1.out) hc).mono ?_; rintro e u2 ⟨v2, rfl, o2, k2⟩
       obtain ⟨ao2, n2, cap2, hfm2⟩ := o2.form
       subst hfm2
       obtain ⟨zs, hzn, hen, hst⟩ := o2.ents
       have h60 : zs.length ≤ 60 := by
         have h5 := hg.2.2.2.2.1
         have := congrArg List.length hst
         rw [List.length_map] at this
         omega
       subst hzn
       have HEN : Hid (EntsO u2 u1.heap.size u2.heap.size (.slice ao2 zs.length cap2) zs ∧ zs.map strip = D.2.2) := ⟨hen, hst⟩
       have hbase := Loc.lt HL1.out
       have hbase2 := k2.size
       clear hen hst
       have K2 := HK1.out.trans k2
       have L0 := Loc.kept HL0.out k2
       have L1 := Loc.kept HL1.out k2
       have s2 := HK1.out.size
       have s3 := k2.size
       have s4 := L1.lt
       have s6 := L0.lt
       have s5 := Loc.lt HL1.out
       clear x0 x1 x2 xf0 xf1 xf2 y0 y1 y2 yf0 yf1 yf2 HL0 HL1 HK1 k2
       have x0 := L0.cell 0 rfl
       have x1 := L0.cell 1 rfl
       have x2 := L0.cell 2 rfl
       have xf0 := L0.frozen 0
       have xf1 := L0.frozen 1
       have xf2 := L0.frozen 2
       have y0 := L1.cell 0 rfl
       have y1 := L1.cell 1 rfl
       have y2 := L1.cell 2 rfl
       have yf0 := L1.frozen 0
       have yf1 := L1.frozen 1
       have yf2 := L1.frozen 2

       have HL0 : Hid _ := L0
       have HL1 : Hid _ := L1
       have HK2 : Hid _ := K2
       have HO2 : Hid _ := o2
       clear L0 L1 K2 o2)
    | (go_at_call 104; refine (iname _ _ hnl).mono ?_; rintro e w9 ⟨rfl, rfl⟩)
    | (go_at_call 75; refine (find_no zs id (fun z hz => HN.out (strip z) (by rw [← HEN.out.2]; exact List.mem_map_of_mem hz)) _ _ (HEN.out.1.kept ((But.refl _ _ u2).alloc _)).at (rise_of hg HEN.out.2) (by omega)).mono ?_; rintro e u3 ⟨⟨kk, rfl⟩, k3⟩
       have M1 := (Loc.alloc HL1.out _).kept k3
       have M2 := (LocT.new u2 [.int .i64 D.1, .int .i64 D.2.1, .slice ao2 zs.length cap2] 25).kept k3
       have hm2 := M2.loc
       have s7 := k3.size
       simp only [World.size_alloc] at s7
       have p0 := M1.cell 0 rfl
       have p1 := M1.cell 1 rfl
       have p2 := M1.cell 2 rfl
       have pf0 := M1.frozen 0
       have pf1 := M1.frozen 1
       have pf2 := M1.frozen 2
       have t0 := hm2.cell 0 rfl
       have t1 := hm2.cell 1 rfl
       have t2 := hm2.cell 2 rfl
       have tf0 := hm2.frozen 0
       have tf1 := hm2.frozen 1
       have tf2 := hm2.frozen 2
       have HE3 : Hid _ := (HEN.out.1.kept ((But.refl _ _ u2).alloc _)).kept k3
       have HK3 : Hid _ := (HK2.out.alloc _).trans k3
       clear M1 M2 hm2 k3))
  have B : But u.heap.size (u.heap.size + 2) u3 (((u3.setCell ⟨u.heap.size + 1, 0, none⟩ (.int .i64 D.1)).setCell ⟨u.heap.size + 1, 1, none⟩ (.int .i64 D.2.1)).setCell ⟨u.heap.size + 1, 2, none⟩ (.slice ao2 zs.length cap2)) := (((But.refl _ _ _).setCell (by simp) (by simp) _).setCell (by simp) (by simp) _).setCell (by simp) (by simp) _
  refine bodyPost_ret (v := .tuple #[.agg #[.int .i64 D.1, .int .i64 D.2.1, .slice ao2 zs.length cap2], .int .i64 0, .int .i64 2]) (by simp [results, Try.results77, go_sem, p0, p1, p2]) rfl ?_
  exact ⟨_, rfl, ⟨_, zs, rfl, ((HE3.out.but B (by omega)).mono (by omega) (Nat.le_refl _)).low, HEN.out.2⟩, HK3.out.onto B (Nat.le_refl _)⟩

set_option maxHeartbeats 4000000 in
theorem reachOk (D : WD) (id : Int) (nm : ByteArray) (k : Nat) (e : ED) (hg : GoodW D) (hnl : nm.size ≤ 1048576) (hnm : nameB nm = true) (hk : D.2.2[k]? = some e) (hid : e.1 = id) (hc : ecost D.2.2 ≤ 1048576) (u : World) (lo hi : Nat) (v : Value) (ho : WO u lo hi v D) :
    Calls Try.prog 77 #[v, .int .i64 id, .string nm] u fun e u' => ∃ v', e = .returned (.tuple #[v', .int .i64 (k : Int), .int .i64 0]) ∧ WO u' u.heap.size u'.heap.size v' D ∧ Kept u u' := by
  obtain ⟨ao, n, cap, hfm⟩ := ho.form
  subst hfm
  have hA := ho.at
  have HE : Hid (D.2.2[k]? = some e ∧ e.1 = id) := ⟨hk, hid⟩
  clear hk hid
  go_enter Try.func77, Try.ntmps77
  go_wp2_with (first
    | (go_at_call 27; refine (good_yes (implGood D _ _ (hA.kept (((But.refl _ _ u).alloc _).alloc _)) hc) hg).mono ?_; rintro e u1 ⟨rfl, k1⟩
       have K1 : Kept u u1 := (((But.refl _ _ u).alloc _).alloc _).trans k1
       have L0 := ((Loc.new u [.int .i64 D.1, .int .i64 D.2.1, .slice ao n cap] 25).alloc _).kept k1
       have L1 := (Loc.new (u.alloc (.cells #[.int .i64 D.1, .int .i64 D.2.1, .slice ao n cap] 25)) [.int .i64 0, .int .i64 0, .slice none 0 0] 25).kept k1
       simp only [World.size_alloc] at L1
       have x0 := L0.cell 0 rfl
       have x1 := L0.cell 1 rfl
       have x2 := L0.cell 2 rfl
       have xf0 := L0.frozen 0
       have xf1 := L0.frozen 1
       have xf2 := L0.frozen 2
       have y0 := L1.cell 0 rfl
       have y1 := L1.cell 1 rfl
       have y2 := L1.cell 2 rfl
       have yf0 := L1.frozen 0
       have yf1 := L1.frozen 1
       have yf2 := L1.frozen 2
       have HL0 : Hid _ := L0
       have HL1 : Hid _ := L1
       have HK1 : Hid _ := K1
       clear k1 L0 L1 K1)
    | (go_at_call 73; refine (implCopy D _ _ (hA.kept HK1.out) hc).mono ?_; rintro e u2 ⟨v2, rfl, o2, k2⟩
       obtain ⟨ao2, n2, cap2, hfm2⟩ := o2.form
       subst hfm2
       obtain ⟨zs, hzn, hen, hst⟩ := o2.ents
       have h60 : zs.length ≤ 60 := by
         have h5 := hg.2.2.2.2.1
         have := congrArg List.length hst
         rw [List.length_map] at this
         omega
       subst hzn
       have HEN : Hid (EntsO u2 u1.heap.size u2.heap.size (.slice ao2 zs.length cap2) zs ∧ zs.map strip = D.2.2) := ⟨hen, hst⟩
       have hbase := Loc.lt HL1.out
       have hbase2 := k2.size
       clear hen hst
       have HZ : Hid (∃ z, zs[k]? = some z ∧ z.1 = id) := by
         have h1 := HE.out.1
         rw [← HEN.out.2, List.getElem?_map] at h1
         cases hz : zs[k]? with
         | none => rw [hz] at h1; cases h1
         | some z => rw [hz] at h1; simp at h1; exact ⟨z, rfl, by rw [← HE.out.2, ← h1]; rfl⟩
       have K2 := HK1.out.trans k2
       have L0 := Loc.kept HL0.out k2
       have L1 := Loc.kept HL1.out k2
       have s2 := HK1.out.size
       have s3 := k2.size
       have s4 := L1.lt
       have s6 := L0.lt
       have s5 := Loc.lt HL1.out
       clear x0 x1 x2 xf0 xf1 xf2 y0 y1 y2 yf0 yf1 yf2 HL0 HL1 HK1 k2
       have x0 := L0.cell 0 rfl
       have x1 := L0.cell 1 rfl
       have x2 := L0.cell 2 rfl
       have xf0 := L0.frozen 0
       have xf1 := L0.frozen 1
       have xf2 := L0.frozen 2
       have y0 := L1.cell 0 rfl
       have y1 := L1.cell 1 rfl
       have y2 := L1.cell 2 rfl
       have yf0 := L1.frozen 0
       have yf1 := L1.frozen 1
       have yf2 := L1.frozen 2

       have HL0 : Hid _ := L0
       have HL1 : Hid _ := L1
       have HK2 : Hid _ := K2
       have HO2 : Hid _ := o2
       clear L0 L1 K2 o2)
    | (go_at_call 104; refine (iname _ _ hnl).mono ?_; rintro e w9 ⟨rfl, rfl⟩)
    | (go_at_call 75; obtain ⟨z, hz, hzid⟩ := HZ.out; refine (find_yes zs id k z hz hzid _ _ (HEN.out.1.kept ((But.refl _ _ u2).alloc _)).at (rise_of hg HEN.out.2) (by omega)).mono ?_; rintro e u3 ⟨rfl, k3⟩
       have M1 := (Loc.alloc HL1.out _).kept k3
       have M2 := (LocT.new u2 [.int .i64 D.1, .int .i64 D.2.1, .slice ao2 zs.length cap2] 25).kept k3
       have hm2 := M2.loc
       have s7 := k3.size
       simp only [World.size_alloc] at s7
       have p0 := M1.cell 0 rfl
       have p1 := M1.cell 1 rfl
       have p2 := M1.cell 2 rfl
       have pf0 := M1.frozen 0
       have pf1 := M1.frozen 1
       have pf2 := M1.frozen 2
       have t0 := hm2.cell 0 rfl
       have t1 := hm2.cell 1 rfl
       have t2 := hm2.cell 2 rfl
       have tf0 := hm2.frozen 0
       have tf1 := hm2.frozen 1
       have tf2 := hm2.frozen 2
       have HE3 : Hid _ := (HEN.out.1.kept ((But.refl _ _ u2).alloc _)).kept k3
       have HK3 : Hid _ := (HK2.out.alloc _).trans k3
       clear M1 M2 hm2 k3))
  have B : But u.heap.size (u.heap.size + 2) u3 (((u3.setCell ⟨u.heap.size + 1, 0, none⟩ (.int .i64 D.1)).setCell ⟨u.heap.size + 1, 1, none⟩ (.int .i64 D.2.1)).setCell ⟨u.heap.size + 1, 2, none⟩ (.slice ao2 zs.length cap2)) := (((But.refl _ _ _).setCell (by simp) (by simp) _).setCell (by simp) (by simp) _).setCell (by simp) (by simp) _
  refine bodyPost_ret (v := .tuple #[.agg #[.int .i64 D.1, .int .i64 D.2.1, .slice ao2 zs.length cap2], .int .i64 (k : Int), .int .i64 0]) (by simp [results, Try.results77, go_sem, p0, p1, p2]) rfl ?_
  exact ⟨_, rfl, ⟨_, zs, rfl, ((HE3.out.but B (by omega)).mono (by omega) (Nat.le_refl _)).low, HEN.out.2⟩, HK3.out.onto B (Nat.le_refl _)⟩

end Go.Proofs.Ytajelalimiobeaa
