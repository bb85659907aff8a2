/-
  What Spawn answers where it spawns.
-/
import Derived.Test.YtajelalimiobeaaSpawn
import Derived.RegionTactic
namespace Go.Proofs.Ytajelalimiobeaa
open Go.ChangeShapes Go.WideShapes Go.ChangeAt Go.RowKit

theorem WO.ents {w : World} {lo hi : Nat} {a b : Value} {ao : Option Addr} {n cap : Nat} {D : WD} (h : WO w lo hi (.agg #[a, b, .slice ao n cap]) D) : ∃ zs, n = zs.length ∧ EntsO w lo hi (.slice ao n cap) zs ∧ zs.map strip = D.2.2 := by
  have hn := h.at.len
  obtain ⟨ev, zs, e, h1, h2⟩ := h
  simp only [Value.agg.injEq, Array.mk.injEq, List.cons.injEq] at e
  obtain ⟨_, _, e, _⟩ := e
  subst e
  exact ⟨zs, by rw [hn, ← h2, List.length_map], h1, h2⟩
/-- Block b is a variable's own, of type t. -/
def LocT (w : World) (b : Nat) (t : TypeId) (cs : List Value) : Prop := w.heap[b]? = some (.cells cs.toArray t (0, 0))
theorem LocT.loc {w : World} {b : Nat} {t : TypeId} {cs : List Value} (h : LocT w b t cs) : Loc w b cs := ⟨t, h⟩
theorem LocT.new (w : World) (cs : List Value) (t : TypeId) : LocT (w.alloc (.cells cs.toArray t)) w.heap.size t cs := heap_alloc_new w _
theorem LocT.but {w w' : World} {b lo hi : Nat} {t : TypeId} {cs : List Value} (h : LocT w b t cs) (k : But lo hi w w') (ho : b < lo ∨ hi ≤ b) : LocT w' b t cs := (k.block b (Array.getElem?_eq_some_iff.1 h).1 ho).trans h
theorem LocT.kept {w w' : World} {b : Nat} {t : TypeId} {cs : List Value} (h : LocT w b t cs) (k : Kept w w') : LocT w' b t cs := h.but k (by omega)
theorem LocT.alloc {w : World} {b : Nat} {t : TypeId} {cs : List Value} (h : LocT w b t cs) (o : Obj) : LocT (w.alloc o) b t cs := h.kept ((But.refl _ _ w).alloc o)
theorem LocT.grown {w w' : World} {b : Nat} {t : TypeId} {cs : List Value} {row : Option Nat} (h : LocT w b t cs) (g : w.grownBy w' row) (hr : row ≠ some b) : LocT w' b t cs :=
  (g.block b (Array.getElem?_eq_some_iff.1 h).1 (fun x => hr x.symm)).trans h
theorem LocT.set {w : World} {b : Nat} {t : TypeId} {cs : List Value} (h : LocT w b t cs) (j : Nat) (v : Value) : LocT (w.setCell ⟨b, j, none⟩ v) b t (cs.set j v) := by
  unfold LocT at h ⊢
  simp only [World.setCell, Array.getElem?_modify, if_true, h]
  simp
theorem row_other {w : World} {lo hi : Nat} {e : TypeId} {size : Nat} {v : Value} {n : Nat} {xs : List Value} (h : RowO w lo hi e size v n xs) {b : Nat} {t : TypeId} {cs : List Value} (hb : LocT w b t cs) (ht : t ≠ e) (j : Nat) (u : Value) :
    RowO (w.setCell ⟨b, j, none⟩ u) lo hi e size v n xs := by
  refine ⟨own_but (lo := b) (hi := b + 1) h.1 ((But.refl _ _ _).setCell (by simp) (by simp) u) fun g hg => ?_, h.2⟩
  rcases h.1.2 with ⟨rfl, _⟩ | ⟨g', cap, cur, rfl, _, hgg, _⟩
  · simp [Value.ownBlock] at hg
  · simp [Value.ownBlock] at hg
    subst hg
    have : g' ≠ b := fun e1 => by
      subst e1
      unfold LocT at hb
      rw [hb] at hgg
      simp at hgg
      exact ht hgg.2
    omega
theorem EntsO.other {w : World} {lo hi : Nat} {v : Value} {zs : List PE} (h : EntsO w lo hi v zs) {b : Nat} {cs : List Value} (hb : LocT w b 25 cs) (j : Nat) (u : Value) : EntsO (w.setCell ⟨b, j, none⟩ u) lo hi v zs :=
  ⟨row_other h.row hb (by decide) j u, fun i z hz => row_other (h.parts i z hz) hb (by decide) j u, h.each⟩
/-- An entity without parts, appended. -/
theorem spawn_step {u2 X w1 : World} {lo hi lo' hi' : Nat} {v v' : Value} {zs : List PE} {id : Int} (ho : EntsO u2 lo hi v zs) (hb : But lo' hi' u2 X) (hlo : hi' ≤ lo)
    (hown : w1.ownsRow lo 36 2 v' (zs.length + 1) (entCells zs ++ [.int .i64 id, .slice none 0 0])) (g : X.grownBy w1 v.ownBlock) :
    EntsO w1 lo w1.heap.size v' (zs ++ [(id, .slice none 0 0, [])]) ∧ (∀ b cs, Loc X b cs → b < lo ∨ hi ≤ b → Loc w1 b cs) ∧ (∀ b t cs, LocT X b t cs → b < lo ∨ hi ≤ b → LocT w1 b t cs) ∧ (∀ u, Kept u X → u.heap.size ≤ lo → Kept u w1) := by
  have hox := ho.but hb (.inr hlo)
  refine ⟨hox.append (z := (id, .slice none 0 0, [])) ⟨World.ownsRow_nil _ _ _ _, fun g hg => by simp [Value.ownBlock] at hg⟩ (fun i y hy g hg hg' => by simp [Value.ownBlock] at hg') hown g, fun b cs hbb hlt => ?_, fun b t cs hbb hlt => ?_, fun w hk hw => ?_⟩
  · refine hbb.grown g fun e => ?_
    have := own_lt ho.row.1 e
    have := ho.row.2 _ e
    omega
  · refine hbb.grown g fun e => ?_
    have := own_lt ho.row.1 e
    have := ho.row.2 _ e
    omega
  · refine hk.grown g fun k hk => .inl ?_
    have := own_lt ho.row.1 hk
    omega

set_option maxHeartbeats 4000000 in
theorem specSpawnOk (D : WD)  (hg : GoodW D) (hw : ((D.2.2.length : Int) == 60) = false) (hx : (D.1 == 1000000) = false) (hc : ecost D.2.2 ≤ 1048576) (u : World) (lo hi : Nat) (v : Value) (ho : WO u lo hi v D) :
    Calls Try.prog 28 #[v] u fun e u' => ∃ v', e = .returned (.tuple #[v', .int .i64 D.1, .int .i64 0]) ∧ WO u' u.heap.size u'.heap.size v' (D.1 + 1, D.2.1, D.2.2 ++ [(D.1, [])]) ∧ Kept u u' := by
  obtain ⟨ao, n, cap, hfm⟩ := ho.form
  subst hfm
  have hA := ho.at
  have hn60 : ((n : Int) == 60) = false := by rw [hA.len]; exact hw
  have HW : Hid _ := hw
  have hb1 : 1 ≤ D.1 := hg.1
  have hb2 : D.1 ≤ 1000000 := hg.2.1
  clear hw
  obtain ⟨j0, hj, hy0, hy1, hy2⟩ := info_parts info36
  go_enter Try.func28, Try.ntmps28
  go_wp2_with (first
    | (go_at_call 25; refine (good_yes (specGood D _ _ (hA.kept (((But.refl _ _ u).alloc _).alloc _)) hc) hg).mono ?_; rintro e u1 ⟨rfl, k1⟩
       have K1 : Kept u u1 := (((But.refl _ _ u).alloc _).alloc _).trans k1
       have L0 := ((Loc.new u [.int .i64 D.1, .int .i64 D.2.1, .slice ao n cap] 25).alloc _).kept k1
       have L1 := (Loc.new (u.alloc (.cells #[.int .i64 D.1, .int .i64 D.2.1, .slice ao n cap] 25)) [.int .i64 0, .int .i64 0, .slice none 0 0] 25).kept k1
       simp only [World.size_alloc] at L1
       have x0 := L0.cell 0 rfl
       have x1 := L0.cell 1 rfl
       have x2 := L0.cell 2 rfl
       have xf0 := L0.frozen 0
       have xf1 := L0.frozen 1
       have xf2 := L0.frozen 2
       have y0 := L1.cell 0 rfl
       have y1 := L1.cell 1 rfl
       have y2 := L1.cell 2 rfl
       have yf0 := L1.frozen 0
       have yf1 := L1.frozen 1
       have yf2 := L1.frozen 2
       have HL0 : Hid _ := L0
       have HL1 : Hid _ := L1
       have HK1 : Hid _ := K1
       clear k1 L0 L1 K1)
    | (go_at_call 72; refine (specOwn D _ _ (hA.kept HK1.out) hc).mono ?_; rintro e u2 ⟨v2, rfl, o2, k2⟩
       obtain ⟨ao2, n2, cap2, hfm2⟩ := o2.form
       subst hfm2
       have hn2b := o2.at.len
       obtain ⟨zs, hzn, hen, hst⟩ := o2.ents
       have h60 : zs.length < 60 := by
         have h5 := hg.2.2.2.2.1
         have : D.2.2.length ≠ 60 := fun e => by rw [e] at HW; exact absurd HW.out (by simp)
         omega
       have hm60 : ((n2 : Int) == 60) = false := by rw [o2.at.len]; exact HW.out
       subst hzn
       have HEN : Hid (EntsO u2 u1.heap.size u2.heap.size (.slice ao2 zs.length cap2) zs ∧ zs.map strip = D.2.2) := ⟨hen, hst⟩
       have hbase := Loc.lt HL1.out
       have hbase2 := k2.size
       clear hn2b hen hst
       have HBX : Hid (But u.heap.size (u.heap.size + 2) u2 (((u2.setCell ⟨u.heap.size, 0, none⟩ (.int .i64 D.1)).setCell ⟨u.heap.size, 1, none⟩ (.int .i64 D.2.1)).setCell ⟨u.heap.size, 2, none⟩ (.slice ao2 zs.length cap2))) := (((But.refl _ _ _).setCell (by simp) (by simp) _).setCell (by simp) (by simp) _).setCell (by simp) (by simp) _
       have HKX : Hid (Kept u (((u2.setCell ⟨u.heap.size, 0, none⟩ (.int .i64 D.1)).setCell ⟨u.heap.size, 1, none⟩ (.int .i64 D.2.1)).setCell ⟨u.heap.size, 2, none⟩ (.slice ao2 zs.length cap2))) := (HK1.out.trans k2).onto HBX.out (Nat.le_refl _)
       have HOR : Hid (∀ o, ((((u2.setCell ⟨u.heap.size, 0, none⟩ (.int .i64 D.1)).setCell ⟨u.heap.size, 1, none⟩ (.int .i64 D.2.1)).setCell ⟨u.heap.size, 2, none⟩ (.slice ao2 zs.length cap2)).alloc o).ownsRow u1.heap.size 36 2 (.slice ao2 zs.length cap2) zs.length (entCells zs)) := fun o => ((HEN.out.1.but HBX.out (.inr (by omega))).kept ((But.refl _ _ _).alloc o)).row.1
       have K2 := HK1.out.trans k2
       have L0 := Loc.kept HL0.out k2
       have L1 := Loc.kept HL1.out k2
       have s2 := HK1.out.size
       have s3 := k2.size
       have s4 := L1.lt
       have s6 := L0.lt
       have s5 := Loc.lt HL1.out
       clear x0 x1 x2 xf0 xf1 xf2 y0 y1 y2 yf0 yf1 yf2 HL0 HL1 HK1 k2
       have x0 := L0.cell 0 rfl
       have x1 := L0.cell 1 rfl
       have x2 := L0.cell 2 rfl
       have xf0 := L0.frozen 0
       have xf1 := L0.frozen 1
       have xf2 := L0.frozen 2
       have y0 := L1.cell 0 rfl
       have y1 := L1.cell 1 rfl
       have y2 := L1.cell 2 rfl
       have yf0 := L1.frozen 0
       have yf1 := L1.frozen 1
       have yf2 := L1.frozen 2
       have C3 : Loc (((u2.setCell ⟨u.heap.size, 0, none⟩ (.int .i64 D.1)).setCell ⟨u.heap.size, 1, none⟩ (.int .i64 D.2.1)).setCell ⟨u.heap.size, 2, none⟩ (.slice ao2 zs.length cap2)) u.heap.size [.int .i64 D.1, .int .i64 D.2.1, .slice ao2 zs.length cap2] := ((L0.set 0 (.int .i64 D.1)).set 1 (.int .i64 D.2.1)).set 2 (.slice ao2 zs.length cap2)
       have R3 : Loc (((u2.setCell ⟨u.heap.size, 0, none⟩ (.int .i64 D.1)).setCell ⟨u.heap.size, 1, none⟩ (.int .i64 D.2.1)).setCell ⟨u.heap.size, 2, none⟩ (.slice ao2 zs.length cap2)) (u.heap.size + 1) [.int .i64 0, .int .i64 0, .slice none 0 0] := ((L1.other (by omega) _).other (by omega) _).other (by omega) _
       have c30 := C3.cell 0 rfl
       have c31 := C3.cell 1 rfl
       have c32 := C3.cell 2 rfl
       have c3f0 := C3.frozen 0
       have c3f1 := C3.frozen 1
       have c3f2 := C3.frozen 2
       have r30 := R3.cell 0 rfl
       have r31 := R3.cell 1 rfl
       have r32 := R3.cell 2 rfl
       have r3f0 := R3.frozen 0
       have r3f1 := R3.frozen 1
       have r3f2 := R3.frozen 2
       have HC3 : Hid _ := C3
       have HR3 : Hid _ := R3
       clear C3 R3
       have HL0 : Hid _ := L0
       have HL1 : Hid _ := L1
       have HK2 : Hid _ := K2
       have HO2 : Hid _ := o2
       clear L0 L1 K2 o2)
    | (at_builtin; refine wpList_append_own _ rfl _ _ 23 rfl u1.heap.size 36 j0 (.agg #[.int .i64 0, .slice none 0 0]) 2 32 Try.underlying23 hj hy0 hy1 hy2 rfl (by decide) _ _ _ rfl (HOR.out _) ⟨_, 0, none⟩ 1 1 [.int .i64 D.1, .slice none 0 0] rfl rfl (news2 _ _ _ _ _ (by simp)) (one2 _ _ _ _) (by unfold maxLen; omega) (by omega) (by simp; omega) ?_
       intro v' w1 hown hgrow _
       obtain ⟨hA1, hA2, hA2t, hA3⟩ := spawn_step HEN.out.1 (HBX.out.alloc _) (by omega) hown hgrow
       obtain ⟨ao5, cap5, hf5, _⟩ := own_form hown
       subst hf5
       have M0 := hA2 _ _ (Loc.alloc HC3.out _) (.inl (by omega))
       have M1 := hA2 _ _ (Loc.alloc HR3.out _) (.inl (by omega))
       have m0 := M0.cell 0 rfl
       have m1 := M0.cell 1 rfl
       have m2 := M0.cell 2 rfl
       have mf0 := M0.frozen 0
       have mf1 := M0.frozen 1
       have mf2 := M0.frozen 2
       have p0 := M1.cell 0 rfl
       have p1 := M1.cell 1 rfl
       have p2 := M1.cell 2 rfl
       have pf0 := M1.frozen 0
       have pf1 := M1.frozen 1
       have pf2 := M1.frozen 2
       have HM0 : Hid _ := M0
       have HM1 : Hid _ := M1
       clear M0 M1
       have HA1 : Hid _ := hA1
       have HA3 : Hid _ := hA3 u (HKX.out.alloc _) (by omega)
       clear hA1 hA2 hA2t hA3 hown hgrow))
  have Q0 : Loc ((w1.setCell ⟨u.heap.size, 2, none⟩ (.slice ao5 (zs.length + 1) cap5)).setCell ⟨u.heap.size, 0, none⟩ (.int .i64 (D.1 + 1))) u.heap.size [.int .i64 (D.1 + 1), .int .i64 D.2.1, .slice ao5 (zs.length + 1) cap5] := (Loc.set HM0.out 2 _).set 0 _
  have Q1 : Loc ((w1.setCell ⟨u.heap.size, 2, none⟩ (.slice ao5 (zs.length + 1) cap5)).setCell ⟨u.heap.size, 0, none⟩ (.int .i64 (D.1 + 1))) (u.heap.size + 1) [.int .i64 0, .int .i64 0, .slice none 0 0] := (Loc.other HM1.out (by omega) _).other (by omega) _
  have B5 : But u.heap.size (u.heap.size + 2) w1 ((w1.setCell ⟨u.heap.size, 2, none⟩ (.slice ao5 (zs.length + 1) cap5)).setCell ⟨u.heap.size, 0, none⟩ (.int .i64 (D.1 + 1))) := ((But.refl _ _ _).setCell (by simp) (by simp) _).setCell (by simp) (by simp) _
  generalize hw5 : (w1.setCell ⟨u.heap.size, 2, none⟩ (.slice ao5 (zs.length + 1) cap5)).setCell ⟨u.heap.size, 0, none⟩ (.int .i64 (D.1 + 1)) = w5 at Q0 Q1 B5 ⊢
  have HF : Hid (EntsO w5 u1.heap.size w5.heap.size (.slice ao5 (zs.length + 1) cap5) (zs ++ [(D.1, .slice none 0 0, [])]) ∧ Kept u w5) := ⟨(HA1.out.but B5 (by omega)).low, HA3.out.onto B5 (Nat.le_refl _)⟩
  clear hw5 B5
  have e0 := Q0.cell 0 rfl
  have e1 := Q0.cell 1 rfl
  have e2 := Q0.cell 2 rfl
  have d0 := Q1.cell 0 rfl
  have d1 := Q1.cell 1 rfl
  have d2 := Q1.cell 2 rfl
  have df0 := Q1.frozen 0
  have df1 := Q1.frozen 1
  have df2 := Q1.frozen 2
  have hs5 : u.heap.size + 2 ≤ u1.heap.size := by omega
  clear Q0 Q1 HM0 HM1 HA1 HA3 HKX HBX HOR
  go_region
  go_wp2
  have B : But u.heap.size (u.heap.size + 2) w5 ((((w5.setCell ⟨u.heap.size + 1, 0, none⟩ (.int .i64 (D.1 + 1))).setCell ⟨u.heap.size + 1, 1, none⟩ (.int .i64 D.2.1)).setCell ⟨u.heap.size + 1, 2, none⟩ (.slice ao5 (zs.length + 1) cap5)).drew) := ((((But.refl _ _ _).setCell (by simp) (by simp) _).setCell (by simp) (by simp) _).setCell (by simp) (by simp) _).drew
  refine bodyPost_ret (v := .tuple #[.agg #[.int .i64 (D.1 + 1), .int .i64 D.2.1, .slice ao5 (zs.length + 1) cap5], .int .i64 D.1, .int .i64 0]) (by simp [results, Try.results28, go_sem, d0, d1, d2]) rfl ?_
  exact ⟨_, rfl, ⟨_, zs ++ [(D.1, .slice none 0 0, [])], rfl, ((HF.out.1.but B (by omega)).mono (by omega) B.size).low, by rw [List.map_append, HEN.out.2]; rfl⟩, HF.out.2.onto B (Nat.le_refl _)⟩

set_option maxHeartbeats 4000000 in
theorem implSpawnOk (D : WD)  (hg : GoodW D) (hw : ((D.2.2.length : Int) == 60) = false) (hx : (D.1 == 1000000) = false) (hc : ecost D.2.2 ≤ 1048576) (u : World) (lo hi : Nat) (v : Value) (ho : WO u lo hi v D) :
    Calls Try.prog 29 #[v] u fun e u' => ∃ v', e = .returned (.tuple #[v', .int .i64 D.1, .int .i64 0]) ∧ WO u' u.heap.size u'.heap.size v' (D.1 + 1, D.2.1, D.2.2 ++ [(D.1, [])]) ∧ Kept u u' := by
  obtain ⟨ao, n, cap, hfm⟩ := ho.form
  subst hfm
  have hA := ho.at
  have hn60 : ((n : Int) == 60) = false := by rw [hA.len]; exact hw
  have HW : Hid _ := hw
  have hb1 : 1 ≤ D.1 := hg.1
  have hb2 : D.1 ≤ 1000000 := hg.2.1
  clear hw
  obtain ⟨j0, hj, hy0, hy1, hy2⟩ := info_parts info36
  go_enter Try.func29, Try.ntmps29
  go_wp2_with (first
    | (go_at_call 27; refine (good_yes (implGood D _ _ (hA.kept (((But.refl _ _ u).alloc _).alloc _)) hc) hg).mono ?_; rintro e u1 ⟨rfl, k1⟩
       have K1 : Kept u u1 := (((But.refl _ _ u).alloc _).alloc _).trans k1
       have L0 := ((Loc.new u [.int .i64 D.1, .int .i64 D.2.1, .slice ao n cap] 25).alloc _).kept k1
       have L1 := (Loc.new (u.alloc (.cells #[.int .i64 D.1, .int .i64 D.2.1, .slice ao n cap] 25)) [.int .i64 0, .int .i64 0, .slice none 0 0] 25).kept k1
       simp only [World.size_alloc] at L1
       have x0 := L0.cell 0 rfl
       have x1 := L0.cell 1 rfl
       have x2 := L0.cell 2 rfl
       have xf0 := L0.frozen 0
       have xf1 := L0.frozen 1
       have xf2 := L0.frozen 2
       have y0 := L1.cell 0 rfl
       have y1 := L1.cell 1 rfl
       have y2 := L1.cell 2 rfl
       have yf0 := L1.frozen 0
       have yf1 := L1.frozen 1
       have yf2 := L1.frozen 2
       have HL0 : Hid _ := L0
       have HL1 : Hid _ := L1
       have HK1 : Hid _ := K1
       clear k1 L0 L1 K1)
    | (go_at_call 73; refine (implCopy D _ _ (hA.kept HK1.out) hc).mono ?_; rintro e u2 ⟨v2, rfl, o2, k2⟩
       obtain ⟨ao2, n2, cap2, hfm2⟩ := o2.form
       subst hfm2
       have hn2b := o2.at.len
       obtain ⟨zs, hzn, hen, hst⟩ := o2.ents
       have h60 : zs.length < 60 := by
         have h5 := hg.2.2.2.2.1
         have : D.2.2.length ≠ 60 := fun e => by rw [e] at HW; exact absurd HW.out (by simp)
         omega
       subst hzn
       have HEN : Hid (EntsO u2 u1.heap.size u2.heap.size (.slice ao2 zs.length cap2) zs ∧ zs.map strip = D.2.2) := ⟨hen, hst⟩
       have hbase := Loc.lt HL1.out
       have hbase2 := k2.size
       clear hn2b hen hst
       have HKX : Hid (Kept u (u2.alloc (.cells #[.int .i64 D.1, .int .i64 D.2.1, .slice ao2 zs.length cap2] 25))) := (HK1.out.trans k2).alloc _
       have HOR : Hid (∀ o, ((u2.alloc (.cells #[.int .i64 D.1, .int .i64 D.2.1, .slice ao2 zs.length cap2] 25)).alloc o).ownsRow u1.heap.size 36 2 (.slice ao2 zs.length cap2) zs.length (entCells zs)) := fun o => (HEN.out.1.kept (((But.refl _ _ _).alloc _).alloc o)).row.1
       have K2 := HK1.out.trans k2
       have L0 := Loc.kept HL0.out k2
       have L1 := Loc.kept HL1.out k2
       have s2 := HK1.out.size
       have s3 := k2.size
       have s4 := L1.lt
       have s6 := L0.lt
       have s5 := Loc.lt HL1.out
       clear x0 x1 x2 xf0 xf1 xf2 y0 y1 y2 yf0 yf1 yf2 HL0 HL1 HK1 k2
       have x0 := L0.cell 0 rfl
       have x1 := L0.cell 1 rfl
       have x2 := L0.cell 2 rfl
       have xf0 := L0.frozen 0
       have xf1 := L0.frozen 1
       have xf2 := L0.frozen 2
       have y0 := L1.cell 0 rfl
       have y1 := L1.cell 1 rfl
       have y2 := L1.cell 2 rfl
       have yf0 := L1.frozen 0
       have yf1 := L1.frozen 1
       have yf2 := L1.frozen 2

       have HL0 : Hid _ := L0
       have HL1 : Hid _ := L1
       have HK2 : Hid _ := K2
       have HO2 : Hid _ := o2
       clear L0 L1 K2 o2)
    | (at_builtin; refine wpList_append_own _ rfl _ _ 23 rfl u1.heap.size 36 j0 (.agg #[.int .i64 0, .slice none 0 0]) 2 32 Try.underlying23 hj hy0 hy1 hy2 rfl (by decide) _ _ _ rfl (HOR.out _) ⟨_, 0, none⟩ 1 1 [.int .i64 D.1, .slice none 0 0] rfl rfl (news2 _ _ _ _ _ (by simp)) (one2 _ _ _ _) (by unfold maxLen; omega) (by omega) (by simp; omega) ?_
       intro v' w1 hown hgrow _
       obtain ⟨hA1, hA2, hA2t, hA3⟩ := spawn_step (lo' := 0) (hi' := 0) HEN.out.1 (((But.refl _ _ _).alloc _).alloc _) (by omega) hown hgrow
       obtain ⟨ao5, cap5, hf5, _⟩ := own_form hown
       subst hf5
       have M0 := hA2 _ _ ((Loc.alloc HL0.out _).alloc _) (.inl (by omega))
       have M1 := hA2 _ _ ((Loc.alloc HL1.out _).alloc _) (.inl (by omega))
       have M2 := hA2t _ _ _ ((LocT.new u2 [.int .i64 D.1, .int .i64 D.2.1, .slice ao2 zs.length cap2] 25).alloc _) (.inr (by omega))
       have m0 := M0.cell 0 rfl
       have hm2 := M2.loc
       have p0 := M1.cell 0 rfl
       have p1 := M1.cell 1 rfl
       have p2 := M1.cell 2 rfl
       have pf0 := M1.frozen 0
       have pf1 := M1.frozen 1
       have pf2 := M1.frozen 2
       have t0 := hm2.cell 0 rfl
       have t1 := hm2.cell 1 rfl
       have t2 := hm2.cell 2 rfl
       have tf0 := hm2.frozen 0
       have tf1 := hm2.frozen 1
       have tf2 := hm2.frozen 2
       have HM0 : Hid _ := M0
       have HM1 : Hid _ := M1
       have HM2 : Hid _ := M2
       clear M0 M1 M2 hm2
       have HA1 : Hid _ := hA1
       have HA3 : Hid _ := hA3 u (HKX.out.alloc _) (by omega)
       clear hA1 hA2 hA2t hA3 hown hgrow))
  have Q2 : LocT ((w1.setCell ⟨u2.heap.size, 2, none⟩ (.slice ao5 (zs.length + 1) cap5)).setCell ⟨u2.heap.size, 0, none⟩ (.int .i64 (D.1 + 1))) u2.heap.size 25 [.int .i64 (D.1 + 1), .int .i64 D.2.1, .slice ao5 (zs.length + 1) cap5] := (LocT.set HM2.out 2 _).set 0 _
  have Q0 : Loc ((w1.setCell ⟨u2.heap.size, 2, none⟩ (.slice ao5 (zs.length + 1) cap5)).setCell ⟨u2.heap.size, 0, none⟩ (.int .i64 (D.1 + 1))) u.heap.size [.int .i64 D.1, .int .i64 D.2.1, .slice ao n cap] := (Loc.other HM0.out (by omega) _).other (by omega) _
  have Q1 : Loc ((w1.setCell ⟨u2.heap.size, 2, none⟩ (.slice ao5 (zs.length + 1) cap5)).setCell ⟨u2.heap.size, 0, none⟩ (.int .i64 (D.1 + 1))) (u.heap.size + 1) [.int .i64 0, .int .i64 0, .slice none 0 0] := (Loc.other HM1.out (by omega) _).other (by omega) _
  have E5 := (HA1.out.other HM2.out 2 (.slice ao5 (zs.length + 1) cap5)).other (LocT.set HM2.out 2 _) 0 (.int .i64 (D.1 + 1))
  have B5 : But u2.heap.size (u2.heap.size + 1) w1 ((w1.setCell ⟨u2.heap.size, 2, none⟩ (.slice ao5 (zs.length + 1) cap5)).setCell ⟨u2.heap.size, 0, none⟩ (.int .i64 (D.1 + 1))) := ((But.refl _ _ _).setCell (by simp) (by simp) _).setCell (by simp) (by simp) _
  have K5 := HA3.out.onto B5 (by omega)
  generalize hw5 : (w1.setCell ⟨u2.heap.size, 2, none⟩ (.slice ao5 (zs.length + 1) cap5)).setCell ⟨u2.heap.size, 0, none⟩ (.int .i64 (D.1 + 1)) = w5 at Q0 Q1 Q2 E5 K5 ⊢
  have HF : Hid (EntsO w5 u1.heap.size w5.heap.size (.slice ao5 (zs.length + 1) cap5) (zs ++ [(D.1, .slice none 0 0, [])]) ∧ Kept u w5) := ⟨E5.low, K5⟩
  clear hw5 B5 E5 K5
  have Q2 := Q2.loc
  have e0 := Q2.cell 0 rfl
  have e1 := Q2.cell 1 rfl
  have e2 := Q2.cell 2 rfl
  have f0 := Q0.cell 0 rfl
  have d0 := Q1.cell 0 rfl
  have d1 := Q1.cell 1 rfl
  have d2 := Q1.cell 2 rfl
  have df0 := Q1.frozen 0
  have df1 := Q1.frozen 1
  have df2 := Q1.frozen 2
  have hs5 : u.heap.size + 2 ≤ u1.heap.size := by omega
  clear Q0 Q1 HM0 HM1 HM2 HA1 HA3 HKX HOR
  go_region
  go_wp2
  have B : But u.heap.size (u.heap.size + 2) w5 ((((w5.setCell ⟨u.heap.size + 1, 0, none⟩ (.int .i64 (D.1 + 1))).setCell ⟨u.heap.size + 1, 1, none⟩ (.int .i64 D.2.1)).setCell ⟨u.heap.size + 1, 2, none⟩ (.slice ao5 (zs.length + 1) cap5)).drew) := ((((But.refl _ _ _).setCell (by simp) (by simp) _).setCell (by simp) (by simp) _).setCell (by simp) (by simp) _).drew
  refine bodyPost_ret (v := .tuple #[.agg #[.int .i64 (D.1 + 1), .int .i64 D.2.1, .slice ao5 (zs.length + 1) cap5], .int .i64 D.1, .int .i64 0]) (by simp [results, Try.results29, go_sem, d0, d1, d2]) rfl ?_
  exact ⟨_, rfl, ⟨_, zs ++ [(D.1, .slice none 0 0, [])], rfl, ((HF.out.1.but B (by omega)).mono (by omega) B.size).low, by rw [List.map_append, HEN.out.2]; rfl⟩, HF.out.2.onto B (Nat.le_refl _)⟩

/-- What Spawn comes to, at each world: the same in the program and in its specification. -/
theorem spawn_both (D : WD) (hc : ecost D.2.2 ≤ 1048576) : ∃ (D' : WD) (r r' : Int), Small D'.2.2 ∧ kcnt D'.2.2 ≤ 900000000000 ∧
    (∀ (u : World) (lo hi : Nat) (v : Value), WO u lo hi v D → Calls Try.prog 28 #[v] u fun e u' => ∃ v', e = .returned (.tuple #[v', .int .i64 r, .int .i64 r']) ∧ WO u' u.heap.size u'.heap.size v' D' ∧ Kept u u') ∧
    (∀ (u : World) (lo hi : Nat) (v : Value), WO u lo hi v D → Calls Try.prog 29 #[v] u fun e u' => ∃ v', e = .returned (.tuple #[v', .int .i64 r, .int .i64 r']) ∧ WO u' u.heap.size u'.heap.size v' D' ∧ Kept u u') := by
  by_cases hg : GoodW D
  · cases hw : ((D.2.2.length : Int) == 60) with
    | true => exact ⟨D, 0, 3, small_of hc, kcnt_of hc, specSpawnFullA D hg hw hc, implSpawnFullA D hg hw hc⟩
    | false =>
      cases hx : (D.1 == 1000000) with
      | true => exact ⟨D, 0, 3, small_of hc, kcnt_of hc, specSpawnFullB D hg hw hx hc, implSpawnFullB D hg hw hx hc⟩
      | false =>
        refine ⟨(D.1 + 1, D.2.1, D.2.2 ++ [(D.1, [])]), D.1, 0, ?_, ?_, specSpawnOk D hg hw hx hc, implSpawnOk D hg hw hx hc⟩
        · have h1 := small_of hc
          have h2 := hg.2.2.2.2.1
          refine ⟨by simp; omega, fun e he => ?_⟩
          rcases List.mem_append.1 he with h | h
          · exact h1.2 e h
          · simp at h; subst h; simp
        · rw [kcnt_snoc]
          have := kcnt_le D.2.2
          simp
          omega
  · exact ⟨DZ, 0, 1, ⟨by simp [DZ], by simp [DZ]⟩, by simp [DZ, kcnt], specSpawnBad D hg hc, implSpawnBad D hg hc⟩
end Go.Proofs.Ytajelalimiobeaa
