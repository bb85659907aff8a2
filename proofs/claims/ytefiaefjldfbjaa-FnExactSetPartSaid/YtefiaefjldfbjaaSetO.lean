/-
  What SetPart answers in the specification where the entity is there.
-/
import Derived.Test.YtefiaefjldfbjaaReach
import Derived.Test.YtefiaefjldfbjaaSetI
import Derived.BigQuiet
import Derived.Lib.AppendZeros
namespace Go.Proofs.Ytefiaefjldfbjaa
open Go.ChangeShapes Go.WideShapes Go.ChangeAt Go.RowKit

/-- The three ways of a part that is set. -/
def SetWay (D : WD) (k : Nat) (ee : ED) (j : Nat) (nm : ByteArray) (val : Int) (D' : WD) (r : Int) : Prop :=
  (∃ p, ee.2[j]? = some p ∧ p.1 = nm ∧ D' = (D.1, D.2.1, D.2.2.set k (ee.1, ee.2.set j (nm, val, D.2.1))) ∧ r = 0) ∨
  ((∀ p ∈ ee.2, p.1 ≠ nm) ∧ ee.2.length = 12 ∧ D' = D ∧ r = 3) ∨
  ((∀ p ∈ ee.2, p.1 ≠ nm) ∧ ee.2.length < 12 ∧ D' = (D.1, D.2.1, D.2.2.set k (ee.1, ee.2.take j ++ [(nm, val, D.2.1)] ++ ee.2.drop j)) ∧ r = 0)

theorem wpList_append_any {P : Program} (w : World) {ops : Array Oper} {rest : List Oper} {o : Oper} {a : Act} {Q : Exit → Act → World → Prop} (hgd : o.guard = none) (s x : Operand) (t : TypeId)
    (ho : o.op = .call { callee := .builtin .append, args := #[s, x], argTypes := #[t, t] })
    (base : Nat) (e : TypeId) (i : TypeInfo) (z : Value) (size bytes : Nat) (ht : P.underlying t = some (.slice e)) (hi : P.info? e = some i) (hz : i.zero = some z)
    (hsize : i.size = size) (hby : i.bytes = bytes) (hzs : z.cells.size = size) (hsz : 0 < size)
    (v : Value) (n : Nat) (xs : List Value) (hs : a.eval s = v) (hown : w.ownsRow base e size v n xs)
    (ao : Option Addr) (m c : Nat) (news : List Value) (hx : a.eval x = .slice ao m c) (hl : news.length = m * size) (hnews : ∀ j u, news[j]? = some u → ∃ ad, ao = some ad ∧ w.cell? (ad.add j) = some u) (h1 : ∀ u ∈ news, u.oneCell' = true)
    (h63 : n + m ≤ maxLen) (hbytes : (n + m) * bytes ≤ 140737488355328) (hbase : base ≤ w.heap.size)
    (h : ∀ v' w', w'.ownsRow base e size v' (n + m) (xs ++ news) → w.grownBy w' v.ownBlock → wpList P ops Q rest (a.put o.dst v') w') : wpList P ops Q (o :: rest) a w := by
  cases ao with
  | some ad =>
    refine wpList_append_own w hgd s x t ho base e i z size bytes ht hi hz hsize hby hzs hsz v n xs hs hown ad m c news hx hl (fun j u hu => ?_) h1 h63 hbytes hbase (fun v' w' h2 h3 _ => h v' w' h2 h3)
    obtain ⟨ad', e1, h2⟩ := hnews j u hu
    cases e1
    exact h2
  | none =>
    have hm : news = [] := by
      cases news with
      | nil => rfl
      | cons y l => obtain ⟨ad, e1, _⟩ := hnews 0 y rfl; cases e1
    subst hm
    obtain rfl : m = 0 := by
      rcases Nat.eq_zero_or_pos m with h0 | h0
      · exact h0
      · have := Nat.mul_pos h0 hsz
        simp at hl
        omega
    obtain ⟨ao', cap', hf, _⟩ := own_form hown
    have hcap : n ≤ cap' := by
      rcases hown.2 with ⟨hv, h0⟩ | ⟨g', c', cur, hv, _, _, hnc, _⟩
      · omega
      · rw [hf] at hv; cases hv; exact hnc
    have h2 := h v w (by simpa using hown) (World.grownBy.refl _ _)
    subst hf
    exact Lib.wpList_append_run w hgd s x t t ho _ _ hs hx _ _ (run_append_none w t o.type e i ht hi ao' n cap' c hcap) h2

set_option maxRecDepth 100000 in
set_option maxHeartbeats 4000000 in
theorem specSetOk (D : WD) (id : Int) (nm : ByteArray) (val : Int) (k : Nat) (ee : ED) (j : Nat) (D9 : WD) (r : Int) (hg : GoodW D) (hnl : nm.size ≤ 1048576) (hnm : nameB nm = true) (hk : D.2.2[k]? = some ee) (hid : ee.1 = id) (hjc : CuttingP ee.2 nm j j) (hjl : j ≤ ee.2.length) (hway : SetWay D k ee j nm val D9 r) (hc : ecost D.2.2 ≤ 1048576) (u : World) (lo hi : Nat) (v : Value) (ho : WO u lo hi v D) :
    Calls Try.prog 32 #[v, .int .i64 id, .string nm, .int .i64 val] u fun e u' => ∃ v', e = .returned (.tuple #[v', .int .i64 r]) ∧ WO u' u.heap.size u'.heap.size v' D9 ∧ Kept u u' := by
  obtain ⟨ao, n, cap, hfm⟩ := ho.form
  subst hfm
  have hA := ho.at
  have HE : Hid (D.2.2[k]? = some ee ∧ ee.1 = id) := ⟨hk, hid⟩
  clear hk hid
  have HJ : Hid _ := hjc
  have HW : Hid _ := hway
  clear hjc hway
  go_enter Try.func32, Try.ntmps32
  go_wp2_with (first
    | (go_at_call 25; refine (good_yes (specGood D _ _ (hA.kept (((But.refl _ _ u).alloc _).alloc _)) hc) hg).mono ?_; rintro e u1 ⟨rfl, k1⟩
       have K1 : Kept u u1 := (((But.refl _ _ u).alloc _).alloc _).trans k1
       have L0 := ((Loc.new u [.int .i64 D.1, .int .i64 D.2.1, .slice ao n cap] 25).alloc _).kept k1
       have L1 := (Loc.new (u.alloc (.cells #[.int .i64 D.1, .int .i64 D.2.1, .slice ao n cap] 25)) [.int .i64 0, .int .i64 0, .slice none 0 0] 25).kept k1
       simp only [World.size_alloc] at L1
       have x0 := L0.cell 0 rfl
       have x1 := L0.cell 1 rfl
       have x2 := L0.cell 2 rfl
       have xf0 := L0.frozen 0
       have xf1 := L0.frozen 1
       have xf2 := L0.frozen 2
       have y0 := L1.cell 0 rfl
       have y1 := L1.cell 1 rfl
       have y2 := L1.cell 2 rfl
       have yf0 := L1.frozen 0
       have yf1 := L1.frozen 1
       have yf2 := L1.frozen 2
       have HL0 : Hid _ := L0
       have HL1 : Hid _ := L1
       have HK1 : Hid _ := K1
       clear k1 L0 L1 K1)
    | (go_at_call 72; refine (specOwn D _ _ (hA.kept HK1.out) hc).mono ?_; rintro e u2 ⟨v2, rfl, o2, k2⟩
       obtain ⟨ao2, n2, cap2, hfm2⟩ := o2.form
       subst hfm2
       obtain ⟨zs, hzn, hen, hst⟩ := o2.ents
       have h60 : zs.length ≤ 60 := by
         have h5 := hg.2.2.2.2.1
         have := congrArg List.length hst
         rw [List.length_map] at this
         omega
       subst hzn
       have HEN : Hid (EntsO u2 u1.heap.size u2.heap.size (.slice ao2 zs.length cap2) zs ∧ zs.map strip = D.2.2) := ⟨hen, hst⟩
       have hbase := Loc.lt HL1.out
       have hbase2 := k2.size
       clear hen hst
       have HBX : Hid (But u.heap.size (u.heap.size + 2) u2 (((u2.setCell ⟨u.heap.size, 0, none⟩ (.int .i64 D.1)).setCell ⟨u.heap.size, 1, none⟩ (.int .i64 D.2.1)).setCell ⟨u.heap.size, 2, none⟩ (.slice ao2 zs.length cap2))) := (((But.refl _ _ _).setCell (by simp) (by simp) _).setCell (by simp) (by simp) _).setCell (by simp) (by simp) _
       have HKX : Hid (Kept u (((u2.setCell ⟨u.heap.size, 0, none⟩ (.int .i64 D.1)).setCell ⟨u.heap.size, 1, none⟩ (.int .i64 D.2.1)).setCell ⟨u.heap.size, 2, none⟩ (.slice ao2 zs.length cap2))) := (HK1.out.trans k2).onto HBX.out (Nat.le_refl _)
       have HEX : Hid (EntsO (((u2.setCell ⟨u.heap.size, 0, none⟩ (.int .i64 D.1)).setCell ⟨u.heap.size, 1, none⟩ (.int .i64 D.2.1)).setCell ⟨u.heap.size, 2, none⟩ (.slice ao2 zs.length cap2)) u1.heap.size u2.heap.size (.slice ao2 zs.length cap2) zs) := HEN.out.1.but HBX.out (.inr (by omega))
       have HZ : Hid (∃ z, zs[k]? = some z ∧ z.1 = id ∧ strip z = ee) := by
         have h1 := HE.out.1
         rw [← HEN.out.2, List.getElem?_map] at h1
         cases hz : zs[k]? with
         | none => rw [hz] at h1; cases h1
         | some z => rw [hz] at h1; simp at h1; exact ⟨z, rfl, by rw [← HE.out.2, ← h1]; rfl, h1⟩
       have K2 := HK1.out.trans k2
       have L0 := Loc.kept HL0.out k2
       have L1 := Loc.kept HL1.out k2
       have s2 := HK1.out.size
       have s3 := k2.size
       have s4 := L1.lt
       have s6 := L0.lt
       have s5 := Loc.lt HL1.out
       clear x0 x1 x2 xf0 xf1 xf2 y0 y1 y2 yf0 yf1 yf2 HL0 HL1 HK1 k2
       have x0 := L0.cell 0 rfl
       have x1 := L0.cell 1 rfl
       have x2 := L0.cell 2 rfl
       have xf0 := L0.frozen 0
       have xf1 := L0.frozen 1
       have xf2 := L0.frozen 2
       have y0 := L1.cell 0 rfl
       have y1 := L1.cell 1 rfl
       have y2 := L1.cell 2 rfl
       have yf0 := L1.frozen 0
       have yf1 := L1.frozen 1
       have yf2 := L1.frozen 2
       have C3 : Loc (((u2.setCell ⟨u.heap.size, 0, none⟩ (.int .i64 D.1)).setCell ⟨u.heap.size, 1, none⟩ (.int .i64 D.2.1)).setCell ⟨u.heap.size, 2, none⟩ (.slice ao2 zs.length cap2)) u.heap.size [.int .i64 D.1, .int .i64 D.2.1, .slice ao2 zs.length cap2] := ((L0.set 0 (.int .i64 D.1)).set 1 (.int .i64 D.2.1)).set 2 (.slice ao2 zs.length cap2)
       have R3 : Loc (((u2.setCell ⟨u.heap.size, 0, none⟩ (.int .i64 D.1)).setCell ⟨u.heap.size, 1, none⟩ (.int .i64 D.2.1)).setCell ⟨u.heap.size, 2, none⟩ (.slice ao2 zs.length cap2)) (u.heap.size + 1) [.int .i64 0, .int .i64 0, .slice none 0 0] := ((L1.other (by omega) _).other (by omega) _).other (by omega) _
       have c30 := C3.cell 0 rfl
       have c31 := C3.cell 1 rfl
       have c32 := C3.cell 2 rfl
       have c3f0 := C3.frozen 0
       have c3f1 := C3.frozen 1
       have c3f2 := C3.frozen 2
       have r30 := R3.cell 0 rfl
       have r31 := R3.cell 1 rfl
       have r32 := R3.cell 2 rfl
       have r3f0 := R3.frozen 0
       have r3f1 := R3.frozen 1
       have r3f2 := R3.frozen 2
       have HC3 : Hid _ := C3
       have HR3 : Hid _ := R3
       clear C3 R3
       have HL0 : Hid _ := L0
       have HL1 : Hid _ := L1
       have HK2 : Hid _ := K2
       have HO2 : Hid _ := o2
       clear L0 L1 K2 o2)
    | (go_at_call 69; refine (sname _ _ hnl).mono ?_; rintro e w9 ⟨rfl, rfl⟩)
    | (go_at_call 74; refine (l3At id zs _ _ _ _ HEX.out.at (by omega) (k : Nat) (.inl (by
         obtain ⟨z, hz, hid, _⟩ := HZ.out
         refine ⟨k, z, hz, hid, fun j y hj hy => ?_, rfl⟩
         have := rise_of hg HEN.out.2 j k y z hj hy hz
         omega))).mono ?_; rintro e u3 ⟨rfl, k3⟩
       have M0 := Loc.kept HC3.out k3
       have M1 := Loc.kept HR3.out k3
       have s7 := k3.size
       have m0 := M0.cell 0 rfl
       have m1 := M0.cell 1 rfl
       have m2 := M0.cell 2 rfl
       have mf0 := M0.frozen 0
       have mf1 := M0.frozen 1
       have mf2 := M0.frozen 2
       have p0 := M1.cell 0 rfl
       have p1 := M1.cell 1 rfl
       have p2 := M1.cell 2 rfl
       have pf0 := M1.frozen 0
       have pf1 := M1.frozen 1
       have pf2 := M1.frozen 2
       have HM0 : Hid _ := M0
       have HM1 : Hid _ := M1
       have HE3 : Hid _ := HEX.out.kept k3
       have HK3 : Hid _ := HKX.out.trans k3
       obtain ⟨z, hz, _, hze⟩ := HZ.out
       have hkl : k < zs.length := (List.getElem?_eq_some_iff.1 hz).1
       obtain ⟨g, cap9, hfg, hbs, _⟩ := own_cell HE3.out.row.1 (flat_get 2 ec ec_len zs k 0 z hz (by omega))
       cases hfg
       have hghi := HE3.out.row.2 g rfl
       obtain ⟨cc0, cc1, ccf⟩ := HE3.out.cells hz
       obtain ⟨aop, capp, hpf, _⟩ := own_form (HE3.out.parts k z hz).1
       rw [hpf] at cc1
       have hze2 : z.2.2 = ee.2 := congrArg (fun a : ED => a.2) hze
       have hl12 : z.2.2.length ≤ 12 := by rw [hze2]; exact (hg.2.2.2.2.2 k ee HE.out.1).2.2.2.1
       have HZ3 : Hid (zs[k]? = some z ∧ z.2.1 = .slice aop z.2.2.length capp ∧ z.2.2 = ee.2 ∧ strip z = ee) := ⟨hz, hpf, hze2, hze⟩
       have HPA : Hid (PartsAt u3 (.slice aop z.2.2.length capp) z.2.2) := by
         have h7 := (HE3.out.parts k z hz).at
         rw [hpf] at h7
         exact h7
       have ccf1 := ccf (k * 2 + 1)
       clear hz hpf hze ccf
       have hzj : j ≤ z.2.2.length := by rw [hze2]; exact hjl
       have HJZ : Hid (CuttingP z.2.2 nm j j) := by rw [hze2]; exact HJ.out
       clear hze2
       clear M0 M1 k3))
  clear x0 x1 x2 xf0 xf1 xf2 y0 y1 y2 yf0 yf1 yf2 c30 c31 c32 c3f0 c3f1 c3f2 r30 r31 r32 r3f0 r3f1 r3f2 m0 m1 m2 mf0 mf1 mf2 p0 p1 p2 pf0 pf1 pf2 HC3 HR3 HL0 HL1 HKX HEX HBX HO2
  have HSZ7 : Hid _ := s7
  have s8 : u2.heap.size ≤ u3.heap.size := by simpa using s7
  clear s7
  go_loopw [12] (fun i wr => ∃ (m : Nat), m ≤ j ∧ i = .int .i64 m ∧ Kept (u3.alloc (.cells #[.int .i64 id, .slice aop z.2.2.length capp] 36)) wr) (fun i _ => j - (intOf i).toNat)
  case atStart => exact ⟨0, by omega, rfl, But.refl _ _ _⟩
  case round =>
    obtain ⟨m, hm, rfl, hkw⟩ := hrel
    have hLe := (Loc.new u3 [.int .i64 id, .slice aop z.2.2.length capp] 36).kept hkw
    have e1 := hLe.cell 1 rfl
    have el := hLe.lt
    have HLE : Hid _ := hLe
    have HKW : Hid _ := hkw
    clear hLe hkw
    by_cases hlt : m < j
    · obtain ⟨x, hx⟩ : ∃ x, z.2.2[m]? = some x := ⟨_, List.getElem?_eq_getElem (by omega)⟩
      obtain ⟨b2, o2, cap5, e2, d0, d1, d2⟩ := parts_get (HPA.out.kept (((But.refl _ _ u3).alloc _).trans HKW.out)) hx
      cases e2
      have hless : Op.bytesLess x.1.toList nm.toList = true := HJZ.out.1 m x hlt hx
      have hlb2 := World.block_lt_of_cell? _ _ d0
      go_wp2_with fail
      exact ⟨⟨m + 1, by omega, by go_num, HKW.out⟩, by simp [intOf]; omega⟩
    · obtain rfl : m = j := by omega
      have hM0 := Loc.kept (Loc.alloc HM0.out (.cells #[.int .i64 id, .slice aop z.2.2.length capp] 36)) HKW.out
      have hM1 := Loc.kept (Loc.alloc HM1.out (.cells #[.int .i64 id, .slice aop z.2.2.length capp] 36)) HKW.out
      have m0 := hM0.cell 0 rfl
      have m1 := hM0.cell 1 rfl
      have m2 := hM0.cell 2 rfl
      have p0 := hM1.cell 0 rfl
      have p1 := hM1.cell 1 rfl
      have p2 := hM1.cell 2 rfl
      have pf0 := hM1.frozen 0
      have pf1 := hM1.frozen 1
      have pf2 := hM1.frozen 2
      have hm0l := hM0.lt
      have hm1l := hM1.lt
      have HM0' : Hid _ := hM0
      have HM1' : Hid _ := hM1
      have HE5 : Hid _ := HE3.out.kept (((But.refl _ _ u3).alloc _).trans HKW.out)
      have HK5 : Hid _ := HK3.out.trans (((But.refl _ _ u3).alloc _).trans HKW.out)
      have s9 : u3.heap.size < wr.heap.size := by have := HKW.out.size; simp at this; omega
      clear hM0 hM1 cc0 cc1 ccf1
      rcases HW.out with ⟨p, hp, hpn, hD, hr⟩ | ⟨hno, hfl, hD, hr⟩ | ⟨hno, hfl, hD, hr⟩
      · have hjp : z.2.2[m]? = some p := by rw [HZ3.out.2.2.1]; exact hp
        have hjl2 : m < z.2.2.length := (List.getElem?_eq_some_iff.1 hjp).1
        have hless : Op.bytesLess p.1.toList nm.toList = false := HJZ.out.2 m p (Nat.le_refl _) hjp
        have heq : (p.1.toList == nm.toList) = true := by rw [hpn]; simp
        have hpo := HE5.out.parts k z HZ3.out.1
        rw [HZ3.out.2.1] at hpo
        obtain ⟨gp, cap8, hfp, hbp, _⟩ := own_cell hpo.1 (flat_get 3 pc pc_len z.2.2 m 0 p hjp (by omega))
        cases hfp
        have hgphi := hpo.2 gp rfl
        obtain ⟨f0, f1, f2, ff⟩ := PartsO.cells hpo hjp
        have ff0 := ff (m * 3)
        have ff1 := ff (m * 3 + 1)
        have ff2 := ff (m * 3 + 2)
        have hst := PartsO.store hpo rfl hjp (nm, val, D.2.1)
        have hf1 := hst.1
        have hf2 := hst.2.1
        simp only at hf1 hf2
        have HST : Hid _ := hst.2.2
        have HDD : Hid (D9 = _ ∧ r = 0) := ⟨hD, hr⟩
        have HPN : Hid _ := hpn
        have ng0 : gp ≠ u.heap.size := by omega
        have ng0' : u.heap.size ≠ gp := by omega
        have ng1 : gp ≠ u.heap.size + 1 := by omega
        have ng1' : u.heap.size + 1 ≠ gp := by omega
        have hgw : gp < wr.heap.size := by omega
        clear hst hpo ff hD hr hpn
        repeat (first | go_values | go_skip | go_guarded | go_step | go_upon)
        have hz1 := HZ3.out.2.1
        have b3 : But (blo (.slice (some ⟨gp, 0, none⟩) z.2.2.length capp)) (bhi (.slice (some ⟨gp, 0, none⟩) z.2.2.length capp)) wr (((wr.setCell ⟨gp, m * 3, none⟩ (.string nm)).setCell ⟨gp, m * 3 + 1, none⟩ (.int .i64 val)).setCell ⟨gp, m * 3 + 2, none⟩ (.int .i64 D.2.1)) := ((but_set _ _ _ _ _ _).trans (but_set _ _ _ _ _ _)).trans (but_set _ _ _ _ _ _)
        have E6 := HE5.out.inner HZ3.out.1 (ps := z.2.2.set m (nm, val, D.2.1)) (by rw [hz1]; exact b3) (by rw [hz1]; exact HST.out)
        have K6 := HK5.out.onto (b3.mono (lo' := gp) (hi' := gp + 1) (by simp [blo, Value.ownBlock]) (by simp [bhi, Value.ownBlock])) (by omega)
        have B : But u.heap.size (u.heap.size + 2) (((wr.setCell ⟨gp, m * 3, none⟩ (.string nm)).setCell ⟨gp, m * 3 + 1, none⟩ (.int .i64 val)).setCell ⟨gp, m * 3 + 2, none⟩ (.int .i64 D.2.1)) (((((((wr.setCell ⟨gp, m * 3, none⟩ (.string nm)).setCell ⟨gp, m * 3 + 1, none⟩ (.int .i64 val)).setCell ⟨gp, m * 3 + 2, none⟩ (.int .i64 D.2.1)).setCell ⟨u.heap.size + 1, 0, none⟩ (.int .i64 D.1)).setCell ⟨u.heap.size + 1, 1, none⟩ (.int .i64 D.2.1)).setCell ⟨u.heap.size + 1, 2, none⟩ (.slice (some ⟨g, 0, none⟩) zs.length cap2)).alloc (.cells #[.string nm, .int .i64 val, .int .i64 D.2.1] 89)) := ((((But.refl _ _ _).setCell (by simp) (by simp) _).setCell (by simp) (by simp) _).setCell (by simp) (by simp) _).alloc _
        refine bodyPost_ret (v := .tuple #[.agg #[.int .i64 D.1, .int .i64 D.2.1, .slice (some ⟨g, 0, none⟩) zs.length cap2], .int .i64 0]) (by simp [results, Try.results32, go_sem, *]) rfl ?_
        obtain ⟨hD, hr⟩ := HDD.out
        subst hD
        subst hr
        refine ⟨_, rfl, ⟨_, _, rfl, ((E6.but B (by omega)).mono (by omega) (Nat.le_refl _)).low, ?_⟩, K6.onto B (Nat.le_refl _)⟩
        rw [List.map_set, HEN.out.2, ← HZ3.out.2.2.1, ← HZ3.out.2.2.2]
        rfl
      · have hzd : ((z.2.2.length : Int) == 12) = true := by rw [HZ3.out.2.2.1, hfl]; rfl
        have HDD : Hid (D9 = _ ∧ r = _) := ⟨hD, hr⟩
        have HNO : Hid _ := hno
        clear hno hD hr hfl
        have HTAIL : Hid (∀ W, But u.heap.size (u.heap.size + 2) wr W → WO W u.heap.size W.heap.size (.agg #[.int .i64 D.1, .int .i64 D.2.1, .slice (some ⟨g, 0, none⟩) zs.length cap2]) D ∧ Kept u W) := fun W B => ⟨⟨_, zs, rfl, ((HE5.out.but B (by omega)).mono (by omega) (Nat.le_refl _)).low, HEN.out.2⟩, HK5.out.onto B (Nat.le_refl _)⟩
        by_cases hjl2 : m < z.2.2.length
        · obtain ⟨x, hx⟩ : ∃ x, z.2.2[m]? = some x := ⟨_, List.getElem?_eq_getElem (by omega)⟩
          obtain ⟨b2, o2, cap5, e2, d0, d1, d2⟩ := parts_get (HPA.out.kept (((But.refl _ _ u3).alloc _).trans HKW.out)) hx
          cases e2
          have hless : Op.bytesLess x.1.toList nm.toList = false := HJZ.out.2 m x (Nat.le_refl _) hx
          have heq : (x.1.toList == nm.toList) = false := by
            cases hh : (x.1.toList == nm.toList) with
            | false => rfl
            | true => exact absurd (toList_inj (by simpa using hh)) (HNO.out x (by rw [← HZ3.out.2.2.1]; exact List.mem_of_getElem? hx))
          have hlb2 := World.block_lt_of_cell? _ _ d0
          repeat (first | go_values | go_skip | go_guarded | go_step | go_upon)
          refine bodyPost_ret (v := .tuple #[.agg #[.int .i64 D.1, .int .i64 D.2.1, .slice (some ⟨g, 0, none⟩) zs.length cap2], .int .i64 3]) (by simp [results, Try.results32, go_sem, *]) rfl ?_
          obtain ⟨hD, hr⟩ := HDD.out
          subst hD
          subst hr
          exact ⟨_, rfl, HTAIL.out _ (((((But.refl _ _ _).setCell (by simp) (by simp) _).setCell (by simp) (by simp) _).setCell (by simp) (by simp) _).alloc _)⟩
        · have hml : m = z.2.2.length := by omega
          subst hml
          repeat (first | go_values | go_skip | go_guarded | go_step | go_upon)
          refine bodyPost_ret (v := .tuple #[.agg #[.int .i64 D.1, .int .i64 D.2.1, .slice (some ⟨g, 0, none⟩) zs.length cap2], .int .i64 3]) (by simp [results, Try.results32, go_sem, *]) rfl ?_
          obtain ⟨hD, hr⟩ := HDD.out
          subst hD
          subst hr
          exact ⟨_, rfl, HTAIL.out _ (((((But.refl _ _ _).setCell (by simp) (by simp) _).setCell (by simp) (by simp) _).setCell (by simp) (by simp) _).alloc _)⟩
      · have hzd : ((z.2.2.length : Int) == 12) = false := by rw [HZ3.out.2.2.1]; simp; omega
        have hfl2 : z.2.2.length < 12 := by rw [HZ3.out.2.2.1]; exact hfl
        have HDD : Hid (D9 = _ ∧ r = _) := ⟨hD, hr⟩
        have HNO : Hid _ := hno
        clear hno hD hr hfl
        obtain ⟨i0, hi0, hz0, hz1, hz2⟩ := info_parts info89
        have hpo := HE5.out.parts k z HZ3.out.1
        rw [HZ3.out.2.1] at hpo
        have HPO : Hid _ := hpo
        rcases hpo.1.2 with ⟨hv, h0⟩ | ⟨gp, cap', cur, hv, hbp, _, hcap, _⟩
        · have hnil : z.2.2 = [] := List.length_eq_zero_iff.1 h0
          obtain ⟨rfl, rfl⟩ : aop = none ∧ capp = 0 := by simp at hv; exact ⟨hv.1, hv.2.2⟩
          obtain rfl : m = 0 := by rw [hnil] at hzj; simpa using hzj
          clear hpo hv
          have hxl : (partCells z.2.2).length = z.2.2.length * 3 := HPO.out.1.1
          have hxc : ∀ (W : World), Kept (wr.alloc (.cells #[.string nm, .int .i64 val, .int .i64 D.2.1] 89)) W → ∀ j u, (partCells z.2.2)[j]? = some u → ∃ ad : Addr, none = some ad ∧ W.cell? (ad.add j) = some u := fun W K j u hu => by
            rw [hnil] at hu
            simp [partCells] at hu
          have hxd : ∀ (W : World), Kept (wr.alloc (.cells #[.string nm, .int .i64 val, .int .i64 D.2.1] 89)) W → ∀ j u, ((partCells z.2.2).drop (0 * 3))[j]? = some u → ∃ ad : Addr, none = some ad ∧ W.cell? (ad.add j) = some u := fun W K j u hu => by
            rw [hnil] at hu
            simp [partCells] at hu
          have HXC : Hid _ := hxc
          have HXD : Hid _ := hxd
          have HXL : Hid _ := hxl
          clear hxc hxd hxl
          repeat (first
            | (at_builtin; refine wpList_append_any _ rfl _ _ 34 rfl (wr.heap.size + 1) 89 i0 (.agg #[.string ByteArray.empty, .int .i64 0, .int .i64 0]) 3 32 Try.underlying34 hi0 hz0 hz1 hz2 rfl (by decide) _ 0 [] rfl (by exact ⟨rfl, .inl ⟨rfl, rfl⟩⟩) none 0 0 ((partCells z.2.2).take (0 * 3)) rfl (by rw [List.length_take, HXL.out]; omega) (fun j u hu => HXC.out _ (But.refl _ _ _) j u (by rw [List.getElem?_take] at hu; split at hu; exact hu; cases hu)) (fun u hu => pc_one z.2.2 u (List.mem_of_mem_take hu)) (by unfold maxLen; omega) (by omega) (by simp) ?_
               intro v1 w1 hown1 hgrow1
               rw [Nat.zero_add, List.nil_append] at hown1
               obtain ⟨ao1, cap1, hf1, _⟩ := own_form hown1
               subst hf1
               have K1 : Kept (wr.alloc (.cells #[.string nm, .int .i64 val, .int .i64 D.2.1] 89)) w1 := (But.refl _ _ _).grown hgrow1 (fun k hk => by cases hk)
               have LE1 := Loc.kept (Loc.alloc HLE.out (.cells #[.string nm, .int .i64 val, .int .i64 D.2.1] 89)) K1
               have LP1 := (Loc.new wr [.string nm, .int .i64 val, .int .i64 D.2.1] 89).kept K1
               have LM1 := Loc.kept (Loc.alloc HM0'.out (.cells #[.string nm, .int .i64 val, .int .i64 D.2.1] 89)) K1
               have LR1 := Loc.kept (Loc.alloc HM1'.out (.cells #[.string nm, .int .i64 val, .int .i64 D.2.1] 89)) K1
               have e11 := LE1.cell 1 rfl
               have q0_1 := LP1.cell 0 rfl
               have q1_1 := LP1.cell 1 rfl
               have q2_1 := LP1.cell 2 rfl
               have m0_1 := LM1.cell 0 rfl
               have m1_1 := LM1.cell 1 rfl
               have m2_1 := LM1.cell 2 rfl
               have p0_1 := LR1.cell 0 rfl
               have p1_1 := LR1.cell 1 rfl
               have p2_1 := LR1.cell 2 rfl
               have pf0_1 := LR1.frozen 0
               have pf1_1 := LR1.frozen 1
               have pf2_1 := LR1.frozen 2
               have lLE1 := LE1.lt
               have lLP1 := LP1.lt
               have lLM1 := LM1.lt
               have lLR1 := LR1.lt
               clear LE1 LP1 LM1 LR1
               have HO1 : Hid _ := hown1
               have HK1' : Hid _ := K1
               clear hown1 hgrow1 K1)
            | (at_builtin; refine wpList_append_own _ rfl _ _ 34 rfl (wr.heap.size + 1) 89 i0 (.agg #[.string ByteArray.empty, .int .i64 0, .int .i64 0]) 3 32 Try.underlying34 hi0 hz0 hz1 hz2 rfl (by decide) _ 0 _ rfl (own_kept HO1.out ((But.refl _ _ w1).alloc _)) ⟨w1.heap.size, 0, none⟩ 1 1 [.string nm, .int .i64 val, .int .i64 D.2.1] rfl rfl (fun j u hu => by rw [Go.WideShapes.add_plain, Nat.zero_add]; exact (Loc.new w1 [.string nm, .int .i64 val, .int .i64 D.2.1] 89).cell j hu) (pc_one1 (nm, val, D.2.1)) (by unfold maxLen; omega) (by omega) (by simp; omega) ?_
               intro v2 w2 hown2 hgrow2 _
               obtain ⟨ao2', cap2', hf2, _⟩ := own_form hown2
               subst hf2
               have K2 : Kept (wr.alloc (.cells #[.string nm, .int .i64 val, .int .i64 D.2.1] 89)) w2 := (HK1'.out.alloc _).grown hgrow2 (fun k hk => .inl (by have := (own_lt HO1.out hk).1; simp; omega))
               have LE2 := Loc.kept (Loc.alloc HLE.out (.cells #[.string nm, .int .i64 val, .int .i64 D.2.1] 89)) K2
               have LP2 := (Loc.new wr [.string nm, .int .i64 val, .int .i64 D.2.1] 89).kept K2
               have LM2 := Loc.kept (Loc.alloc HM0'.out (.cells #[.string nm, .int .i64 val, .int .i64 D.2.1] 89)) K2
               have LR2 := Loc.kept (Loc.alloc HM1'.out (.cells #[.string nm, .int .i64 val, .int .i64 D.2.1] 89)) K2
               have e12 := LE2.cell 1 rfl
               have q0_2 := LP2.cell 0 rfl
               have q1_2 := LP2.cell 1 rfl
               have q2_2 := LP2.cell 2 rfl
               have m0_2 := LM2.cell 0 rfl
               have m1_2 := LM2.cell 1 rfl
               have m2_2 := LM2.cell 2 rfl
               have p0_2 := LR2.cell 0 rfl
               have p1_2 := LR2.cell 1 rfl
               have p2_2 := LR2.cell 2 rfl
               have pf0_2 := LR2.frozen 0
               have pf1_2 := LR2.frozen 1
               have pf2_2 := LR2.frozen 2
               have lLE2 := LE2.lt
               have lLP2 := LP2.lt
               have lLM2 := LM2.lt
               have lLR2 := LR2.lt
               clear LE2 LP2 LM2 LR2
               have HO2' : Hid _ := hown2
               have HK2' : Hid _ := K2
               clear hown2 hgrow2 K2)
            | (at_builtin; refine wpList_append_any _ rfl _ _ 34 rfl (wr.heap.size + 1) 89 i0 (.agg #[.string ByteArray.empty, .int .i64 0, .int .i64 0]) 3 32 Try.underlying34 hi0 hz0 hz1 hz2 rfl (by decide) _ (0 + 1) _ rfl HO2'.out none (0 - 0) (0 - 0) ((partCells z.2.2).drop (0 * 3)) rfl (by rw [List.length_drop, HXL.out]; omega) (HXD.out _ HK2'.out) (fun u hu => pc_one z.2.2 u (List.mem_of_mem_drop hu)) (by unfold maxLen; omega) (by omega) (by omega) ?_
               intro v3 w3 hown3 hgrow3
               obtain ⟨ao3', cap3', hf3, _⟩ := own_form hown3
               subst hf3
               have K3 : Kept (wr.alloc (.cells #[.string nm, .int .i64 val, .int .i64 D.2.1] 89)) w3 := HK2'.out.grown hgrow3 (fun k hk => .inl (by have := (own_lt HO2'.out hk).1; simp; omega))
               have LE3 := Loc.kept (Loc.alloc HLE.out (.cells #[.string nm, .int .i64 val, .int .i64 D.2.1] 89)) K3
               have LP3 := (Loc.new wr [.string nm, .int .i64 val, .int .i64 D.2.1] 89).kept K3
               have LM3 := Loc.kept (Loc.alloc HM0'.out (.cells #[.string nm, .int .i64 val, .int .i64 D.2.1] 89)) K3
               have LR3 := Loc.kept (Loc.alloc HM1'.out (.cells #[.string nm, .int .i64 val, .int .i64 D.2.1] 89)) K3
               have e13 := LE3.cell 1 rfl
               have q0_3 := LP3.cell 0 rfl
               have q1_3 := LP3.cell 1 rfl
               have q2_3 := LP3.cell 2 rfl
               have m0_3 := LM3.cell 0 rfl
               have m1_3 := LM3.cell 1 rfl
               have m2_3 := LM3.cell 2 rfl
               have p0_3 := LR3.cell 0 rfl
               have p1_3 := LR3.cell 1 rfl
               have p2_3 := LR3.cell 2 rfl
               have pf0_3 := LR3.frozen 0
               have pf1_3 := LR3.frozen 1
               have pf2_3 := LR3.frozen 2
               have lLE3 := LE3.lt
               have lLP3 := LP3.lt
               have lLM3 := LM3.lt
               have lLR3 := LR3.lt
               clear LE3 LP3 LM3 LR3
               obtain ⟨cc0, cc1, ccf⟩ := (HE5.out.kept (((But.refl _ _ wr).alloc _).trans K3)).cells HZ3.out.1
               rw [HZ3.out.2.1] at cc1
               have ccf1 := ccf (k * 2 + 1)
               clear ccf
               have HO3' : Hid _ := hown3
               have HK3' : Hid _ := K3
               clear hown3 hgrow3 K3)
            | go_values | go_skip | go_guarded | go_step | go_upon)
          have HL3 : (z.2.2.take 0 ++ [(nm, val, D.2.1)] ++ z.2.2.drop 0).length = 1 := by simp [hnil]
          have hPO3 : PartsO w3 (wr.heap.size + 1) w3.heap.size (.slice ao3' 1 cap3') (z.2.2.take 0 ++ [(nm, val, D.2.1)] ++ z.2.2.drop 0) := by
            refine RowO.top ?_
            rw [flat_insert, HL3]
            exact HO3'.out
          have hK7 : Kept wr w3 := ((But.refl _ _ wr).alloc _).trans HK3'.out
          have hE7 := HE5.out.kept hK7
          have E6 := (hE7.mono (Nat.le_refl _) (by omega)).setParts rfl HZ3.out.1 (hPO3.mono (by omega) (Nat.le_refl _)) (fun j y hj hy => ap_low (hE7.parts j y hy) hPO3 (.inl (by omega)))
          have K6 : Kept u (w3.setCell ⟨g, k * 2 + 1, none⟩ (.slice ao3' 1 cap3')) := (HK5.out.trans hK7).onto ((But.refl _ _ w3).setCell (lo := g) (hi := g + 1) (by simp) (by simp) _) (by omega)
          have B : But u.heap.size (u.heap.size + 2) (w3.setCell ⟨g, k * 2 + 1, none⟩ (.slice ao3' 1 cap3')) ((((w3.setCell ⟨g, k * 2 + 1, none⟩ (.slice ao3' 1 cap3')).setCell ⟨u.heap.size + 1, 0, none⟩ (.int .i64 D.1)).setCell ⟨u.heap.size + 1, 1, none⟩ (.int .i64 D.2.1)).setCell ⟨u.heap.size + 1, 2, none⟩ (.slice (some ⟨g, 0, none⟩) zs.length cap2)) := (((But.refl _ _ _).setCell (by simp) (by simp) _).setCell (by simp) (by simp) _).setCell (by simp) (by simp) _
          refine bodyPost_ret (v := .tuple #[.agg #[.int .i64 D.1, .int .i64 D.2.1, .slice (some ⟨g, 0, none⟩) zs.length cap2], .int .i64 0]) (by simp [results, Try.results32, go_sem, *]) rfl ?_
          obtain ⟨hD, hr⟩ := HDD.out
          subst hD
          subst hr
          refine ⟨_, rfl, ⟨_, _, rfl, ((E6.but B (by omega)).mono (by omega) (Nat.le_refl _)).low, ?_⟩, K6.onto B (Nat.le_refl _)⟩
          rw [List.map_set, HEN.out.2, ← HZ3.out.2.2.1, ← HZ3.out.2.2.2]
          rfl
        · obtain ⟨rfl, rfl⟩ : aop = some ⟨gp, 0, none⟩ ∧ capp = cap' := by simp at hv; exact hv
          have hgphi := hpo.2 gp rfl
          have hb0 : (m : Int) ≤ (capp : Int) := by omega
          have hb1 : (m : Int) ≤ (z.2.2.length : Int) := by omega
          have hb2 : (z.2.2.length : Int) ≤ (capp : Int) := by omega
          have hb3 : (0 : Int) ≤ (m : Int) := by omega
          clear hpo hv
          by_cases hjl2 : m < z.2.2.length
          · obtain ⟨x, hx⟩ : ∃ x, z.2.2[m]? = some x := ⟨_, List.getElem?_eq_getElem (by omega)⟩
            obtain ⟨d0, d1, d2, _⟩ := PartsO.cells HPO.out hx
            have hless : Op.bytesLess x.1.toList nm.toList = false := HJZ.out.2 m x (Nat.le_refl _) hx
            have heq : (x.1.toList == nm.toList) = false := by
              cases hh : (x.1.toList == nm.toList) with
              | false => rfl
              | true => exact absurd (toList_inj (by simpa using hh)) (HNO.out x (by rw [← HZ3.out.2.2.1]; exact List.mem_of_getElem? hx))
            have hlb2 := World.block_lt_of_cell? _ _ d0
            have hxl : (partCells z.2.2).length = z.2.2.length * 3 := HPO.out.1.1
            have hxc : ∀ (W : World), Kept (wr.alloc (.cells #[.string nm, .int .i64 val, .int .i64 D.2.1] 89)) W → ∀ j u, (partCells z.2.2)[j]? = some u → ∃ ad : Addr, (some ⟨gp, 0, none⟩) = some ad ∧ W.cell? (ad.add j) = some u := fun W K j u hu => by
              obtain ⟨g2, c2, e2, _, hc2, _⟩ := own_cell (own_kept HPO.out.1 (((But.refl _ _ wr).alloc _).trans K)) hu
              cases e2
              exact ⟨_, rfl, by rw [Go.WideShapes.add_plain, Nat.zero_add]; exact hc2⟩
            have hxd : ∀ (W : World), Kept (wr.alloc (.cells #[.string nm, .int .i64 val, .int .i64 D.2.1] 89)) W → ∀ j u, ((partCells z.2.2).drop (m * 3))[j]? = some u → ∃ ad : Addr, (some ⟨gp, m * 3, none⟩) = some ad ∧ W.cell? (ad.add j) = some u := fun W K j u hu => by
              rw [List.getElem?_drop] at hu
              have hlt := (List.getElem?_eq_some_iff.1 hu).1
              rw [hxl] at hlt
              obtain ⟨ad, e2, hc2⟩ := hxc W K _ u hu
              cases e2
              exact ⟨_, rfl, by rw [Go.WideShapes.add_plain, Nat.zero_add] at hc2; rw [Go.WideShapes.add_plain]; exact hc2⟩
            have HXC : Hid _ := hxc
            have HXD : Hid _ := hxd
            have HXL : Hid _ := hxl
            clear hxc hxd hxl
            repeat (first
              | (at_builtin; refine wpList_append_any _ rfl _ _ 34 rfl (wr.heap.size + 1) 89 i0 (.agg #[.string ByteArray.empty, .int .i64 0, .int .i64 0]) 3 32 Try.underlying34 hi0 hz0 hz1 hz2 rfl (by decide) _ 0 [] rfl (by exact ⟨rfl, .inl ⟨rfl, rfl⟩⟩) (some ⟨gp, 0, none⟩) m capp ((partCells z.2.2).take (m * 3)) rfl (by rw [List.length_take, HXL.out]; omega) (fun j u hu => HXC.out _ (But.refl _ _ _) j u (by rw [List.getElem?_take] at hu; split at hu; exact hu; cases hu)) (fun u hu => pc_one z.2.2 u (List.mem_of_mem_take hu)) (by unfold maxLen; omega) (by omega) (by simp) ?_
                 intro v1 w1 hown1 hgrow1
                 rw [Nat.zero_add, List.nil_append] at hown1
                 obtain ⟨ao1, cap1, hf1, _⟩ := own_form hown1
                 subst hf1
                 have K1 : Kept (wr.alloc (.cells #[.string nm, .int .i64 val, .int .i64 D.2.1] 89)) w1 := (But.refl _ _ _).grown hgrow1 (fun k hk => by cases hk)
                 have LE1 := Loc.kept (Loc.alloc HLE.out (.cells #[.string nm, .int .i64 val, .int .i64 D.2.1] 89)) K1
                 have LP1 := (Loc.new wr [.string nm, .int .i64 val, .int .i64 D.2.1] 89).kept K1
                 have LM1 := Loc.kept (Loc.alloc HM0'.out (.cells #[.string nm, .int .i64 val, .int .i64 D.2.1] 89)) K1
                 have LR1 := Loc.kept (Loc.alloc HM1'.out (.cells #[.string nm, .int .i64 val, .int .i64 D.2.1] 89)) K1
                 have e11 := LE1.cell 1 rfl
                 have q0_1 := LP1.cell 0 rfl
                 have q1_1 := LP1.cell 1 rfl
                 have q2_1 := LP1.cell 2 rfl
                 have m0_1 := LM1.cell 0 rfl
                 have m1_1 := LM1.cell 1 rfl
                 have m2_1 := LM1.cell 2 rfl
                 have p0_1 := LR1.cell 0 rfl
                 have p1_1 := LR1.cell 1 rfl
                 have p2_1 := LR1.cell 2 rfl
                 have pf0_1 := LR1.frozen 0
                 have pf1_1 := LR1.frozen 1
                 have pf2_1 := LR1.frozen 2
                 have lLE1 := LE1.lt
                 have lLP1 := LP1.lt
                 have lLM1 := LM1.lt
                 have lLR1 := LR1.lt
                 clear LE1 LP1 LM1 LR1
                 have HO1 : Hid _ := hown1
                 have HK1' : Hid _ := K1
                 clear hown1 hgrow1 K1)
              | (at_builtin; refine wpList_append_own _ rfl _ _ 34 rfl (wr.heap.size + 1) 89 i0 (.agg #[.string ByteArray.empty, .int .i64 0, .int .i64 0]) 3 32 Try.underlying34 hi0 hz0 hz1 hz2 rfl (by decide) _ m _ rfl (own_kept HO1.out ((But.refl _ _ w1).alloc _)) ⟨w1.heap.size, 0, none⟩ 1 1 [.string nm, .int .i64 val, .int .i64 D.2.1] rfl rfl (fun j u hu => by rw [Go.WideShapes.add_plain, Nat.zero_add]; exact (Loc.new w1 [.string nm, .int .i64 val, .int .i64 D.2.1] 89).cell j hu) (pc_one1 (nm, val, D.2.1)) (by unfold maxLen; omega) (by omega) (by simp; omega) ?_
                 intro v2 w2 hown2 hgrow2 _
                 obtain ⟨ao2', cap2', hf2, _⟩ := own_form hown2
                 subst hf2
                 have K2 : Kept (wr.alloc (.cells #[.string nm, .int .i64 val, .int .i64 D.2.1] 89)) w2 := (HK1'.out.alloc _).grown hgrow2 (fun k hk => .inl (by have := (own_lt HO1.out hk).1; simp; omega))
                 have LE2 := Loc.kept (Loc.alloc HLE.out (.cells #[.string nm, .int .i64 val, .int .i64 D.2.1] 89)) K2
                 have LP2 := (Loc.new wr [.string nm, .int .i64 val, .int .i64 D.2.1] 89).kept K2
                 have LM2 := Loc.kept (Loc.alloc HM0'.out (.cells #[.string nm, .int .i64 val, .int .i64 D.2.1] 89)) K2
                 have LR2 := Loc.kept (Loc.alloc HM1'.out (.cells #[.string nm, .int .i64 val, .int .i64 D.2.1] 89)) K2
                 have e12 := LE2.cell 1 rfl
                 have q0_2 := LP2.cell 0 rfl
                 have q1_2 := LP2.cell 1 rfl
                 have q2_2 := LP2.cell 2 rfl
                 have m0_2 := LM2.cell 0 rfl
                 have m1_2 := LM2.cell 1 rfl
                 have m2_2 := LM2.cell 2 rfl
                 have p0_2 := LR2.cell 0 rfl
                 have p1_2 := LR2.cell 1 rfl
                 have p2_2 := LR2.cell 2 rfl
                 have pf0_2 := LR2.frozen 0
                 have pf1_2 := LR2.frozen 1
                 have pf2_2 := LR2.frozen 2
                 have lLE2 := LE2.lt
                 have lLP2 := LP2.lt
                 have lLM2 := LM2.lt
                 have lLR2 := LR2.lt
                 clear LE2 LP2 LM2 LR2
                 have HO2' : Hid _ := hown2
                 have HK2' : Hid _ := K2
                 clear hown2 hgrow2 K2)
              | (at_builtin; refine wpList_append_any _ rfl _ _ 34 rfl (wr.heap.size + 1) 89 i0 (.agg #[.string ByteArray.empty, .int .i64 0, .int .i64 0]) 3 32 Try.underlying34 hi0 hz0 hz1 hz2 rfl (by decide) _ (m + 1) _ rfl HO2'.out (some ⟨gp, m * 3, none⟩) (z.2.2.length - m) (capp - m) ((partCells z.2.2).drop (m * 3)) rfl (by rw [List.length_drop, HXL.out]; omega) (HXD.out _ HK2'.out) (fun u hu => pc_one z.2.2 u (List.mem_of_mem_drop hu)) (by unfold maxLen; omega) (by omega) (by omega) ?_
                 intro v3 w3 hown3 hgrow3
                 obtain ⟨ao3', cap3', hf3, _⟩ := own_form hown3
                 subst hf3
                 have K3 : Kept (wr.alloc (.cells #[.string nm, .int .i64 val, .int .i64 D.2.1] 89)) w3 := HK2'.out.grown hgrow3 (fun k hk => .inl (by have := (own_lt HO2'.out hk).1; simp; omega))
                 have LE3 := Loc.kept (Loc.alloc HLE.out (.cells #[.string nm, .int .i64 val, .int .i64 D.2.1] 89)) K3
                 have LP3 := (Loc.new wr [.string nm, .int .i64 val, .int .i64 D.2.1] 89).kept K3
                 have LM3 := Loc.kept (Loc.alloc HM0'.out (.cells #[.string nm, .int .i64 val, .int .i64 D.2.1] 89)) K3
                 have LR3 := Loc.kept (Loc.alloc HM1'.out (.cells #[.string nm, .int .i64 val, .int .i64 D.2.1] 89)) K3
                 have e13 := LE3.cell 1 rfl
                 have q0_3 := LP3.cell 0 rfl
                 have q1_3 := LP3.cell 1 rfl
                 have q2_3 := LP3.cell 2 rfl
                 have m0_3 := LM3.cell 0 rfl
                 have m1_3 := LM3.cell 1 rfl
                 have m2_3 := LM3.cell 2 rfl
                 have p0_3 := LR3.cell 0 rfl
                 have p1_3 := LR3.cell 1 rfl
                 have p2_3 := LR3.cell 2 rfl
                 have pf0_3 := LR3.frozen 0
                 have pf1_3 := LR3.frozen 1
                 have pf2_3 := LR3.frozen 2
                 have lLE3 := LE3.lt
                 have lLP3 := LP3.lt
                 have lLM3 := LM3.lt
                 have lLR3 := LR3.lt
                 clear LE3 LP3 LM3 LR3
                 obtain ⟨cc0, cc1, ccf⟩ := (HE5.out.kept (((But.refl _ _ wr).alloc _).trans K3)).cells HZ3.out.1
                 rw [HZ3.out.2.1] at cc1
                 have ccf1 := ccf (k * 2 + 1)
                 clear ccf
                 have HO3' : Hid _ := hown3
                 have HK3' : Hid _ := K3
                 clear hown3 hgrow3 K3)
              | go_values | go_skip | go_guarded | go_step | go_upon)
            have HL3 : (z.2.2.take m ++ [(nm, val, D.2.1)] ++ z.2.2.drop m).length = (m + 1 + (z.2.2.length - m)) := by simp; omega
            have hPO3 : PartsO w3 (wr.heap.size + 1) w3.heap.size (.slice ao3' (m + 1 + (z.2.2.length - m)) cap3') (z.2.2.take m ++ [(nm, val, D.2.1)] ++ z.2.2.drop m) := by
              refine RowO.top ?_
              rw [flat_insert, HL3]
              exact HO3'.out
            have hK7 : Kept wr w3 := ((But.refl _ _ wr).alloc _).trans HK3'.out
            have hE7 := HE5.out.kept hK7
            have E6 := (hE7.mono (Nat.le_refl _) (by omega)).setParts rfl HZ3.out.1 (hPO3.mono (by omega) (Nat.le_refl _)) (fun j y hj hy => ap_low (hE7.parts j y hy) hPO3 (.inl (by omega)))
            have K6 : Kept u (w3.setCell ⟨g, k * 2 + 1, none⟩ (.slice ao3' (m + 1 + (z.2.2.length - m)) cap3')) := (HK5.out.trans hK7).onto ((But.refl _ _ w3).setCell (lo := g) (hi := g + 1) (by simp) (by simp) _) (by omega)
            have B : But u.heap.size (u.heap.size + 2) (w3.setCell ⟨g, k * 2 + 1, none⟩ (.slice ao3' (m + 1 + (z.2.2.length - m)) cap3')) ((((w3.setCell ⟨g, k * 2 + 1, none⟩ (.slice ao3' (m + 1 + (z.2.2.length - m)) cap3')).setCell ⟨u.heap.size + 1, 0, none⟩ (.int .i64 D.1)).setCell ⟨u.heap.size + 1, 1, none⟩ (.int .i64 D.2.1)).setCell ⟨u.heap.size + 1, 2, none⟩ (.slice (some ⟨g, 0, none⟩) zs.length cap2)) := (((But.refl _ _ _).setCell (by simp) (by simp) _).setCell (by simp) (by simp) _).setCell (by simp) (by simp) _
            refine bodyPost_ret (v := .tuple #[.agg #[.int .i64 D.1, .int .i64 D.2.1, .slice (some ⟨g, 0, none⟩) zs.length cap2], .int .i64 0]) (by simp [results, Try.results32, go_sem, *]) rfl ?_
            obtain ⟨hD, hr⟩ := HDD.out
            subst hD
            subst hr
            refine ⟨_, rfl, ⟨_, _, rfl, ((E6.but B (by omega)).mono (by omega) (Nat.le_refl _)).low, ?_⟩, K6.onto B (Nat.le_refl _)⟩
            rw [List.map_set, HEN.out.2, ← HZ3.out.2.2.1, ← HZ3.out.2.2.2]
            rfl
          · have hlt0 : ¬ ((m : Int) < (z.2.2.length : Int)) := by omega
            have hxl : (partCells z.2.2).length = z.2.2.length * 3 := HPO.out.1.1
            have hxc : ∀ (W : World), Kept (wr.alloc (.cells #[.string nm, .int .i64 val, .int .i64 D.2.1] 89)) W → ∀ j u, (partCells z.2.2)[j]? = some u → ∃ ad : Addr, (some ⟨gp, 0, none⟩) = some ad ∧ W.cell? (ad.add j) = some u := fun W K j u hu => by
              obtain ⟨g2, c2, e2, _, hc2, _⟩ := own_cell (own_kept HPO.out.1 (((But.refl _ _ wr).alloc _).trans K)) hu
              cases e2
              exact ⟨_, rfl, by rw [Go.WideShapes.add_plain, Nat.zero_add]; exact hc2⟩
            have hxd : ∀ (W : World), Kept (wr.alloc (.cells #[.string nm, .int .i64 val, .int .i64 D.2.1] 89)) W → ∀ j u, ((partCells z.2.2).drop (m * 3))[j]? = some u → ∃ ad : Addr, (if capp = m then some (⟨gp, 0, none⟩ : Addr) else some ⟨gp, m * 3, none⟩) = some ad ∧ W.cell? (ad.add j) = some u := fun W K j u hu => by
              rw [List.getElem?_drop] at hu
              have hlt := (List.getElem?_eq_some_iff.1 hu).1
              rw [hxl] at hlt
              rw [if_neg (by omega)]
              obtain ⟨ad, e2, hc2⟩ := hxc W K _ u hu
              cases e2
              exact ⟨_, rfl, by rw [Go.WideShapes.add_plain, Nat.zero_add] at hc2; rw [Go.WideShapes.add_plain]; exact hc2⟩
            have HXC : Hid _ := hxc
            have HXD : Hid _ := hxd
            have HXL : Hid _ := hxl
            clear hxc hxd hxl
            repeat (first
              | (at_builtin; refine wpList_append_any _ rfl _ _ 34 rfl (wr.heap.size + 1) 89 i0 (.agg #[.string ByteArray.empty, .int .i64 0, .int .i64 0]) 3 32 Try.underlying34 hi0 hz0 hz1 hz2 rfl (by decide) _ 0 [] rfl (by exact ⟨rfl, .inl ⟨rfl, rfl⟩⟩) (some ⟨gp, 0, none⟩) m capp ((partCells z.2.2).take (m * 3)) rfl (by rw [List.length_take, HXL.out]; omega) (fun j u hu => HXC.out _ (But.refl _ _ _) j u (by rw [List.getElem?_take] at hu; split at hu; exact hu; cases hu)) (fun u hu => pc_one z.2.2 u (List.mem_of_mem_take hu)) (by unfold maxLen; omega) (by omega) (by simp) ?_
                 intro v1 w1 hown1 hgrow1
                 rw [Nat.zero_add, List.nil_append] at hown1
                 obtain ⟨ao1, cap1, hf1, _⟩ := own_form hown1
                 subst hf1
                 have K1 : Kept (wr.alloc (.cells #[.string nm, .int .i64 val, .int .i64 D.2.1] 89)) w1 := (But.refl _ _ _).grown hgrow1 (fun k hk => by cases hk)
                 have LE1 := Loc.kept (Loc.alloc HLE.out (.cells #[.string nm, .int .i64 val, .int .i64 D.2.1] 89)) K1
                 have LP1 := (Loc.new wr [.string nm, .int .i64 val, .int .i64 D.2.1] 89).kept K1
                 have LM1 := Loc.kept (Loc.alloc HM0'.out (.cells #[.string nm, .int .i64 val, .int .i64 D.2.1] 89)) K1
                 have LR1 := Loc.kept (Loc.alloc HM1'.out (.cells #[.string nm, .int .i64 val, .int .i64 D.2.1] 89)) K1
                 have e11 := LE1.cell 1 rfl
                 have q0_1 := LP1.cell 0 rfl
                 have q1_1 := LP1.cell 1 rfl
                 have q2_1 := LP1.cell 2 rfl
                 have m0_1 := LM1.cell 0 rfl
                 have m1_1 := LM1.cell 1 rfl
                 have m2_1 := LM1.cell 2 rfl
                 have p0_1 := LR1.cell 0 rfl
                 have p1_1 := LR1.cell 1 rfl
                 have p2_1 := LR1.cell 2 rfl
                 have pf0_1 := LR1.frozen 0
                 have pf1_1 := LR1.frozen 1
                 have pf2_1 := LR1.frozen 2
                 have lLE1 := LE1.lt
                 have lLP1 := LP1.lt
                 have lLM1 := LM1.lt
                 have lLR1 := LR1.lt
                 clear LE1 LP1 LM1 LR1
                 have HO1 : Hid _ := hown1
                 have HK1' : Hid _ := K1
                 clear hown1 hgrow1 K1)
              | (at_builtin; refine wpList_append_own _ rfl _ _ 34 rfl (wr.heap.size + 1) 89 i0 (.agg #[.string ByteArray.empty, .int .i64 0, .int .i64 0]) 3 32 Try.underlying34 hi0 hz0 hz1 hz2 rfl (by decide) _ m _ rfl (own_kept HO1.out ((But.refl _ _ w1).alloc _)) ⟨w1.heap.size, 0, none⟩ 1 1 [.string nm, .int .i64 val, .int .i64 D.2.1] rfl rfl (fun j u hu => by rw [Go.WideShapes.add_plain, Nat.zero_add]; exact (Loc.new w1 [.string nm, .int .i64 val, .int .i64 D.2.1] 89).cell j hu) (pc_one1 (nm, val, D.2.1)) (by unfold maxLen; omega) (by omega) (by simp; omega) ?_
                 intro v2 w2 hown2 hgrow2 _
                 obtain ⟨ao2', cap2', hf2, _⟩ := own_form hown2
                 subst hf2
                 have K2 : Kept (wr.alloc (.cells #[.string nm, .int .i64 val, .int .i64 D.2.1] 89)) w2 := (HK1'.out.alloc _).grown hgrow2 (fun k hk => .inl (by have := (own_lt HO1.out hk).1; simp; omega))
                 have LE2 := Loc.kept (Loc.alloc HLE.out (.cells #[.string nm, .int .i64 val, .int .i64 D.2.1] 89)) K2
                 have LP2 := (Loc.new wr [.string nm, .int .i64 val, .int .i64 D.2.1] 89).kept K2
                 have LM2 := Loc.kept (Loc.alloc HM0'.out (.cells #[.string nm, .int .i64 val, .int .i64 D.2.1] 89)) K2
                 have LR2 := Loc.kept (Loc.alloc HM1'.out (.cells #[.string nm, .int .i64 val, .int .i64 D.2.1] 89)) K2
                 have e12 := LE2.cell 1 rfl
                 have q0_2 := LP2.cell 0 rfl
                 have q1_2 := LP2.cell 1 rfl
                 have q2_2 := LP2.cell 2 rfl
                 have m0_2 := LM2.cell 0 rfl
                 have m1_2 := LM2.cell 1 rfl
                 have m2_2 := LM2.cell 2 rfl
                 have p0_2 := LR2.cell 0 rfl
                 have p1_2 := LR2.cell 1 rfl
                 have p2_2 := LR2.cell 2 rfl
                 have pf0_2 := LR2.frozen 0
                 have pf1_2 := LR2.frozen 1
                 have pf2_2 := LR2.frozen 2
                 have lLE2 := LE2.lt
                 have lLP2 := LP2.lt
                 have lLM2 := LM2.lt
                 have lLR2 := LR2.lt
                 clear LE2 LP2 LM2 LR2
                 have HO2' : Hid _ := hown2
                 have HK2' : Hid _ := K2
                 clear hown2 hgrow2 K2)
              | (at_builtin; refine wpList_append_any _ rfl _ _ 34 rfl (wr.heap.size + 1) 89 i0 (.agg #[.string ByteArray.empty, .int .i64 0, .int .i64 0]) 3 32 Try.underlying34 hi0 hz0 hz1 hz2 rfl (by decide) _ (m + 1) _ rfl HO2'.out (if capp = m then some (⟨gp, 0, none⟩ : Addr) else some ⟨gp, m * 3, none⟩) (z.2.2.length - m) (capp - m) ((partCells z.2.2).drop (m * 3)) rfl (by rw [List.length_drop, HXL.out]; omega) (HXD.out _ HK2'.out) (fun u hu => pc_one z.2.2 u (List.mem_of_mem_drop hu)) (by unfold maxLen; omega) (by omega) (by omega) ?_
                 intro v3 w3 hown3 hgrow3
                 obtain ⟨ao3', cap3', hf3, _⟩ := own_form hown3
                 subst hf3
                 have K3 : Kept (wr.alloc (.cells #[.string nm, .int .i64 val, .int .i64 D.2.1] 89)) w3 := HK2'.out.grown hgrow3 (fun k hk => .inl (by have := (own_lt HO2'.out hk).1; simp; omega))
                 have LE3 := Loc.kept (Loc.alloc HLE.out (.cells #[.string nm, .int .i64 val, .int .i64 D.2.1] 89)) K3
                 have LP3 := (Loc.new wr [.string nm, .int .i64 val, .int .i64 D.2.1] 89).kept K3
                 have LM3 := Loc.kept (Loc.alloc HM0'.out (.cells #[.string nm, .int .i64 val, .int .i64 D.2.1] 89)) K3
                 have LR3 := Loc.kept (Loc.alloc HM1'.out (.cells #[.string nm, .int .i64 val, .int .i64 D.2.1] 89)) K3
                 have e13 := LE3.cell 1 rfl
                 have q0_3 := LP3.cell 0 rfl
                 have q1_3 := LP3.cell 1 rfl
                 have q2_3 := LP3.cell 2 rfl
                 have m0_3 := LM3.cell 0 rfl
                 have m1_3 := LM3.cell 1 rfl
                 have m2_3 := LM3.cell 2 rfl
                 have p0_3 := LR3.cell 0 rfl
                 have p1_3 := LR3.cell 1 rfl
                 have p2_3 := LR3.cell 2 rfl
                 have pf0_3 := LR3.frozen 0
                 have pf1_3 := LR3.frozen 1
                 have pf2_3 := LR3.frozen 2
                 have lLE3 := LE3.lt
                 have lLP3 := LP3.lt
                 have lLM3 := LM3.lt
                 have lLR3 := LR3.lt
                 clear LE3 LP3 LM3 LR3
                 obtain ⟨cc0, cc1, ccf⟩ := (HE5.out.kept (((But.refl _ _ wr).alloc _).trans K3)).cells HZ3.out.1
                 rw [HZ3.out.2.1] at cc1
                 have ccf1 := ccf (k * 2 + 1)
                 clear ccf
                 have HO3' : Hid _ := hown3
                 have HK3' : Hid _ := K3
                 clear hown3 hgrow3 K3)
              | go_values | go_skip | go_guarded | go_step | go_upon)
            have HL3 : (z.2.2.take m ++ [(nm, val, D.2.1)] ++ z.2.2.drop m).length = (m + 1 + (z.2.2.length - m)) := by simp; omega
            have hPO3 : PartsO w3 (wr.heap.size + 1) w3.heap.size (.slice ao3' (m + 1 + (z.2.2.length - m)) cap3') (z.2.2.take m ++ [(nm, val, D.2.1)] ++ z.2.2.drop m) := by
              refine RowO.top ?_
              rw [flat_insert, HL3]
              exact HO3'.out
            have hK7 : Kept wr w3 := ((But.refl _ _ wr).alloc _).trans HK3'.out
            have hE7 := HE5.out.kept hK7
            have E6 := (hE7.mono (Nat.le_refl _) (by omega)).setParts rfl HZ3.out.1 (hPO3.mono (by omega) (Nat.le_refl _)) (fun j y hj hy => ap_low (hE7.parts j y hy) hPO3 (.inl (by omega)))
            have K6 : Kept u (w3.setCell ⟨g, k * 2 + 1, none⟩ (.slice ao3' (m + 1 + (z.2.2.length - m)) cap3')) := (HK5.out.trans hK7).onto ((But.refl _ _ w3).setCell (lo := g) (hi := g + 1) (by simp) (by simp) _) (by omega)
            have B : But u.heap.size (u.heap.size + 2) (w3.setCell ⟨g, k * 2 + 1, none⟩ (.slice ao3' (m + 1 + (z.2.2.length - m)) cap3')) ((((w3.setCell ⟨g, k * 2 + 1, none⟩ (.slice ao3' (m + 1 + (z.2.2.length - m)) cap3')).setCell ⟨u.heap.size + 1, 0, none⟩ (.int .i64 D.1)).setCell ⟨u.heap.size + 1, 1, none⟩ (.int .i64 D.2.1)).setCell ⟨u.heap.size + 1, 2, none⟩ (.slice (some ⟨g, 0, none⟩) zs.length cap2)) := (((But.refl _ _ _).setCell (by simp) (by simp) _).setCell (by simp) (by simp) _).setCell (by simp) (by simp) _
            refine bodyPost_ret (v := .tuple #[.agg #[.int .i64 D.1, .int .i64 D.2.1, .slice (some ⟨g, 0, none⟩) zs.length cap2], .int .i64 0]) (by simp [results, Try.results32, go_sem, *]) rfl ?_
            obtain ⟨hD, hr⟩ := HDD.out
            subst hD
            subst hr
            refine ⟨_, rfl, ⟨_, _, rfl, ((E6.but B (by omega)).mono (by omega) (Nat.le_refl _)).low, ?_⟩, K6.onto B (Nat.le_refl _)⟩
            rw [List.map_set, HEN.out.2, ← HZ3.out.2.2.1, ← HZ3.out.2.2.2]
            rfl
end Go.Proofs.Ytefiaefjldfbjaa
