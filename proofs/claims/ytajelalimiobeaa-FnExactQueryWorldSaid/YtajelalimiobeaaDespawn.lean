/-
  What Despawn answers, in the program and in its specification.
-/
import Derived.Test.YtajelalimiobeaaSpawnOk
import Derived.Test.YtajelalimiobeaaFind
import Derived.Test.YtajelalimiobeaaDel
namespace Go.Proofs.Ytajelalimiobeaa
open Go.ChangeShapes Go.WideShapes Go.ChangeAt Go.RowKit

theorem flat_take {α : Type} (k : Nat) (f : α → List Value) (hf : ∀ a, (f a).length = k) : ∀ (l : List α) (i : Nat), (l.take i).flatMap f = (l.flatMap f).take (i * k)
  | [], i => by simp
  | a :: l, 0 => by simp
  | a :: l, i + 1 => by
    rw [List.take_succ_cons, List.flatMap_cons, List.flatMap_cons, flat_take k f hf l i, Nat.succ_mul, Nat.add_comm (i * k) k, List.take_append, hf, show k + i * k - k = i * k by omega, List.take_of_length_le (l := f a) (by rw [hf]; omega)]
theorem flat_drop {α : Type} (k : Nat) (f : α → List Value) (hf : ∀ a, (f a).length = k) : ∀ (l : List α) (i : Nat), (l.drop i).flatMap f = (l.flatMap f).drop (i * k)
  | [], i => by simp
  | a :: l, 0 => by simp
  | a :: l, i + 1 => by
    rw [List.drop_succ_cons, List.flatMap_cons, flat_drop k f hf l i, Nat.succ_mul, Nat.add_comm (i * k) k, List.drop_append, hf, show k + i * k - k = i * k by omega, List.drop_of_length_le (l := f a) (by rw [hf]; omega), List.nil_append]
theorem flat_erase {α : Type} (k : Nat) (f : α → List Value) (hf : ∀ a, (f a).length = k) (l : List α) (i : Nat) : (l.eraseIdx i).flatMap f = (l.flatMap f).take (i * k) ++ (l.flatMap f).drop ((i + 1) * k) := by
  rw [List.eraseIdx_eq_take_drop_succ, List.flatMap_append, flat_take k f hf, flat_drop k f hf]
theorem erase_map {α β : Type} (f : α → β) (l : List α) (k : Nat) : (l.eraseIdx k).map f = (l.map f).eraseIdx k := by
  simp [List.eraseIdx_eq_take_drop_succ, List.map_take, List.map_drop]
theorem ec_one {w : World} {lo hi : Nat} {v : Value} {zs : List PE} (h : EntsO w lo hi v zs) : ∀ u ∈ entCells zs, u.oneCell' = true := by
  intro u hu
  obtain ⟨z, hz, hm⟩ := List.mem_flatMap.1 hu
  obtain ⟨i, hi⟩ := List.mem_iff_getElem?.1 hz
  obtain ⟨ao, cap, e, _⟩ := own_form (h.parts i z hi).1
  simp [ec] at hm
  rcases hm with rfl | rfl
  · rfl
  · rw [e]; rfl
/-- An entity taken out of a row. -/
theorem EntsO.erase {w w' : World} {lo hi g n cap k : Nat} {zs : List PE} (h : EntsO w lo hi (.slice (some ⟨g, 0, none⟩) n cap) zs) (b : But g (g + 1) w w') (hk : k < zs.length)
    (ho : w'.ownsRow lo 36 2 (.slice (some ⟨g, 0, none⟩) (zs.length - 1) cap) (zs.length - 1) ((entCells zs).take (k * 2) ++ (entCells zs).drop ((k + 1) * 2))) : EntsO w' lo hi (.slice (some ⟨g, 0, none⟩) (zs.length - 1) cap) (zs.eraseIdx k) := by
  have hget : ∀ {i : Nat} {y : PE}, (zs.eraseIdx k)[i]? = some y → ∃ i', zs[i']? = some y ∧ (i' = if i < k then i else i + 1) := by
    intro i y hy
    rw [List.getElem?_eraseIdx] at hy
    by_cases hi : i < k
    · rw [if_pos hi] at hy; exact ⟨i, hy, by rw [if_pos hi]⟩
    · rw [if_neg hi] at hy; exact ⟨i + 1, hy, by rw [if_neg hi]⟩
  refine ⟨⟨?_, h.row.2⟩, fun i y hy => ?_, fun i j y y' hij hy hy' => ?_⟩
  · have hl : (zs.eraseIdx k).length = zs.length - 1 := by rw [List.length_eraseIdx, if_pos hk]
    rw [hl, entCells, flat_erase 2 ec ec_len]
    exact ho
  · obtain ⟨i', hi', _⟩ := hget hy
    refine (h.parts i' y hi').apart (v' := .slice (some ⟨g, 0, none⟩) n cap) ?_ (h.ap hi').symm
    simpa [blo, bhi, Value.ownBlock] using b
  · obtain ⟨i', hi', e1⟩ := hget hy
    obtain ⟨j', hj', e2⟩ := hget hy'
    refine h.each i' j' y y' (fun e => hij ?_) hi' hj'
    rw [e1, e2] at e
    split at e <;> split at e <;> omega

/-- The row that is left where its tail was laid over one element. -/
theorem own_shift {W1 : World} {base g cap n' size a o N : Nat} {e : TypeId} {cur C1 : Array Value} {xs news : List Value} (hbs : base ≤ g) (hW : W1.heap[g]? = some (.cells C1 e (0, 0))) (hxs : cur.toList.take N = xs) (ha : a ≤ N) (hNc : N ≤ cur.size)
    (hC1 : C1 = (cur.toList.take a ++ news ++ cur.toList.drop (a + news.length)).toArray) (ho : a + news.length = o) (hoz : o ≤ cur.size)
    (hn : n' * size = o) (hnc : n' ≤ cap) (hcm : cap ≤ maxLen) (hsz : cur.size = cap * size) :
    W1.ownsRow base e size (.slice (some ⟨g, 0, none⟩) n' cap) n' (xs.take a ++ news) := by
  have l1 : (cur.toList.take a).length = a := by simp; omega
  have lC : C1.toList.length = cur.size := by rw [hC1]; simp only [List.length_append, List.length_drop, Array.length_toList, l1]; omega
  have t1 : C1.toList.take o = cur.toList.take a ++ news := by
    rw [hC1]
    show ((cur.toList.take a ++ news) ++ _).take o = _
    rw [List.take_append_of_le_length (by rw [List.length_append, l1]; omega), List.take_of_length_le (by rw [List.length_append, l1]; omega)]
  have hx : xs.take a = cur.toList.take a := by rw [← hxs, List.take_take, Nat.min_eq_left ha]
  exact ⟨by rw [List.length_append, hx, l1, hn]; omega, .inr ⟨g, cap, C1, rfl, hbs, hW, hnc, hcm, by rw [← hsz, ← lC, Array.length_toList], by rw [hn, t1, hx]⟩⟩
theorem rise_of {D : WD} (hg : GoodW D) {zs : List PE} (hs : zs.map strip = D.2.2) : Rise zs := by
  have step : ∀ (i : Nat) (x y : PE), zs[i]? = some x → zs[i + 1]? = some y → x.1 < y.1 := by
    intro i x y hx hy
    have hy' : D.2.2[i + 1]? = some (strip y) := by rw [← hs, List.getElem?_map, hy]; rfl
    have hx' : D.2.2[i]? = some (strip x) := by rw [← hs, List.getElem?_map, hx]; rfl
    exact (hg.2.2.2.2.2 (i + 1) _ hy').2.2.1 (strip x) (by omega) (by rw [Nat.add_sub_cancel]; exact hx')
  intro i j x y hij hx hy
  obtain ⟨d, rfl⟩ : ∃ d, j = i + 1 + d := ⟨j - (i + 1), by omega⟩
  clear hij
  induction d generalizing y with
  | zero => exact step i x y hx hy
  | succ d ih =>
    have hl : i + 1 + d < zs.length := by have := (List.getElem?_eq_some_iff.1 hy).1; omega
    have h1 := ih _ (List.getElem?_eq_getElem hl)
    have h2 := step (i + 1 + d) _ y (List.getElem?_eq_getElem hl) hy
    omega

set_option maxHeartbeats 4000000 in
theorem specDespawnBad (D : WD) (id : Int) (hg : ¬ GoodW D) (hc : ecost D.2.2 ≤ 1048576) (u : World) (lo hi : Nat) (v : Value) (ho : WO u lo hi v D) :
    Calls Try.prog 30 #[v, .int .i64 id] u fun e u' => ∃ v', e = .returned (.tuple #[v', .int .i64 1]) ∧ WO u' u.heap.size u'.heap.size v' DZ ∧ Kept u u' := by
  obtain ⟨ao, n, cap, hfm⟩ := ho.form
  subst hfm
  have hA := ho.at
  go_enter Try.func30, Try.ntmps30
  go_wp2_with (first
    | (go_at_call 25; refine (good_no (specGood D _ _ (hA.kept (((But.refl _ _ u).alloc _).alloc _)) hc) hg).mono ?_; rintro e u1 ⟨rfl, k1⟩
       have K1 : Kept u u1 := (((But.refl _ _ u).alloc _).alloc _).trans k1
       have L0 := ((Loc.new u [.int .i64 D.1, .int .i64 D.2.1, .slice ao n cap] 25).alloc _).kept k1
       have L1 := (Loc.new (u.alloc (.cells #[.int .i64 D.1, .int .i64 D.2.1, .slice ao n cap] 25)) [.int .i64 0, .int .i64 0, .slice none 0 0] 25).kept k1
       simp only [World.size_alloc] at L1
       have x0 := L0.cell 0 rfl
       have x1 := L0.cell 1 rfl
       have x2 := L0.cell 2 rfl
       have xf0 := L0.frozen 0
       have xf1 := L0.frozen 1
       have xf2 := L0.frozen 2
       have y0 := L1.cell 0 rfl
       have y1 := L1.cell 1 rfl
       have y2 := L1.cell 2 rfl
       have yf0 := L1.frozen 0
       have yf1 := L1.frozen 1
       have yf2 := L1.frozen 2
       have HL0 : Hid _ := L0
       have HL1 : Hid _ := L1
       have HK1 : Hid _ := K1
       clear k1 L0 L1 K1))
  have B : But u.heap.size (u.heap.size + 2) u1 (((u1.setCell ⟨u.heap.size + 1, 0, none⟩ (.int .i64 0)).setCell ⟨u.heap.size + 1, 1, none⟩ (.int .i64 0)).setCell ⟨u.heap.size + 1, 2, none⟩ (.slice none 0 0)) :=
    (((But.refl _ _ _).setCell (by simp) (by simp) _).setCell (by simp) (by simp) _).setCell (by simp) (by simp) _
  refine bodyPost_ret (v := .tuple #[.agg #[.int .i64 0, .int .i64 0, .slice none 0 0], .int .i64 1]) (by simp [results, Try.results30, go_sem, y0, y1, y2]) rfl ?_
  exact ⟨_, rfl, wo_zero _ _ _, HK1.out.onto B (Nat.le_refl _)⟩

set_option maxHeartbeats 4000000 in
theorem implDespawnBad (D : WD) (id : Int) (hg : ¬ GoodW D) (hc : ecost D.2.2 ≤ 1048576) (u : World) (lo hi : Nat) (v : Value) (ho : WO u lo hi v D) :
    Calls Try.prog 31 #[v, .int .i64 id] u fun e u' => ∃ v', e = .returned (.tuple #[v', .int .i64 1]) ∧ WO u' u.heap.size u'.heap.size v' DZ ∧ Kept u u' := by
  obtain ⟨ao, n, cap, hfm⟩ := ho.form
  subst hfm
  have hA := ho.at
  go_enter Try.func31, Try.ntmps31
  go_wp2_with (first
    | (go_at_call 27; refine (good_no (implGood D _ _ (hA.kept (((But.refl _ _ u).alloc _).alloc _)) hc) hg).mono ?_; rintro e u1 ⟨rfl, k1⟩
       have K1 : Kept u u1 := (((But.refl _ _ u).alloc _).alloc _).trans k1
       have L0 := ((Loc.new u [.int .i64 D.1, .int .i64 D.2.1, .slice ao n cap] 25).alloc _).kept k1
       have L1 := (Loc.new (u.alloc (.cells #[.int .i64 D.1, .int .i64 D.2.1, .slice ao n cap] 25)) [.int .i64 0, .int .i64 0, .slice none 0 0] 25).kept k1
       simp only [World.size_alloc] at L1
       have x0 := L0.cell 0 rfl
       have x1 := L0.cell 1 rfl
       have x2 := L0.cell 2 rfl
       have xf0 := L0.frozen 0
       have xf1 := L0.frozen 1
       have xf2 := L0.frozen 2
       have y0 := L1.cell 0 rfl
       have y1 := L1.cell 1 rfl
       have y2 := L1.cell 2 rfl
       have yf0 := L1.frozen 0
       have yf1 := L1.frozen 1
       have yf2 := L1.frozen 2
       have HL0 : Hid _ := L0
       have HL1 : Hid _ := L1
       have HK1 : Hid _ := K1
       clear k1 L0 L1 K1))
  have B : But u.heap.size (u.heap.size + 2) u1 (((u1.setCell ⟨u.heap.size + 1, 0, none⟩ (.int .i64 0)).setCell ⟨u.heap.size + 1, 1, none⟩ (.int .i64 0)).setCell ⟨u.heap.size + 1, 2, none⟩ (.slice none 0 0)) :=
    (((But.refl _ _ _).setCell (by simp) (by simp) _).setCell (by simp) (by simp) _).setCell (by simp) (by simp) _
  refine bodyPost_ret (v := .tuple #[.agg #[.int .i64 0, .int .i64 0, .slice none 0 0], .int .i64 1]) (by simp [results, Try.results31, go_sem, y0, y1, y2]) rfl ?_
  exact ⟨_, rfl, wo_zero _ _ _, HK1.out.onto B (Nat.le_refl _)⟩

set_option maxHeartbeats 4000000 in
theorem specDespawnNone (D : WD) (id : Int) (hg : GoodW D) (hno : ∀ e ∈ D.2.2, e.1 ≠ id) (hc : ecost D.2.2 ≤ 1048576) (u : World) (lo hi : Nat) (v : Value) (ho : WO u lo hi v D) :
    Calls Try.prog 30 #[v, .int .i64 id] u fun e u' => ∃ v', e = .returned (.tuple #[v', .int .i64 2]) ∧ WO u' u.heap.size u'.heap.size v' D ∧ Kept u u' := by
  obtain ⟨ao, n, cap, hfm⟩ := ho.form
  subst hfm
  have hA := ho.at
  have HN : Hid _ := hno
  clear hno
  go_enter Try.func30, Try.ntmps30
  go_wp2_with (first
    | (go_at_call 25; refine (good_yes (specGood D _ _ (hA.kept (((But.refl _ _ u).alloc _).alloc _)) hc) hg).mono ?_; rintro e u1 ⟨rfl, k1⟩
       have K1 : Kept u u1 := (((But.refl _ _ u).alloc _).alloc _).trans k1
       have L0 := ((Loc.new u [.int .i64 D.1, .int .i64 D.2.1, .slice ao n cap] 25).alloc _).kept k1
       have L1 := (Loc.new (u.alloc (.cells #[.int .i64 D.1, .int .i64 D.2.1, .slice ao n cap] 25)) [.int .i64 0, .int .i64 0, .slice none 0 0] 25).kept k1
       simp only [World.size_alloc] at L1
       have x0 := L0.cell 0 rfl
       have x1 := L0.cell 1 rfl
       have x2 := L0.cell 2 rfl
       have xf0 := L0.frozen 0
       have xf1 := L0.frozen 1
       have xf2 := L0.frozen 2
       have y0 := L1.cell 0 rfl
       have y1 := L1.cell 1 rfl
       have y2 := L1.cell 2 rfl
       have yf0 := L1.frozen 0
       have yf1 := L1.frozen 1
       have yf2 := L1.frozen 2
       have HL0 : Hid _ := L0
       have HL1 : Hid _ := L1
       have HK1 : Hid _ := K1
       clear k1 L0 L1 K1)
    | (go_at_call 72; refine (specOwn D _ _ (hA.kept HK1.out) hc).mono ?_; rintro e u2 ⟨v2, rfl, o2, k2⟩
       obtain ⟨ao2, n2, cap2, hfm2⟩ := o2.form
       subst hfm2
       obtain ⟨zs, hzn, hen, hst⟩ := o2.ents
       have h60 : zs.length ≤ 60 := by
         have h5 := hg.2.2.2.2.1
         have := congrArg List.length hst
         rw [List.length_map] at this
         omega
       subst hzn
       have HEN : Hid (EntsO u2 u1.heap.size u2.heap.size (.slice ao2 zs.length cap2) zs ∧ zs.map strip = D.2.2) := ⟨hen, hst⟩
       have hbase := Loc.lt HL1.out
       have hbase2 := k2.size
       clear hen hst
       have HBX : Hid (But u.heap.size (u.heap.size + 2) u2 (((u2.setCell ⟨u.heap.size, 0, none⟩ (.int .i64 D.1)).setCell ⟨u.heap.size, 1, none⟩ (.int .i64 D.2.1)).setCell ⟨u.heap.size, 2, none⟩ (.slice ao2 zs.length cap2))) := (((But.refl _ _ _).setCell (by simp) (by simp) _).setCell (by simp) (by simp) _).setCell (by simp) (by simp) _
       have HKX : Hid (Kept u (((u2.setCell ⟨u.heap.size, 0, none⟩ (.int .i64 D.1)).setCell ⟨u.heap.size, 1, none⟩ (.int .i64 D.2.1)).setCell ⟨u.heap.size, 2, none⟩ (.slice ao2 zs.length cap2))) := (HK1.out.trans k2).onto HBX.out (Nat.le_refl _)
       have HEX : Hid (EntsO (((u2.setCell ⟨u.heap.size, 0, none⟩ (.int .i64 D.1)).setCell ⟨u.heap.size, 1, none⟩ (.int .i64 D.2.1)).setCell ⟨u.heap.size, 2, none⟩ (.slice ao2 zs.length cap2)) u1.heap.size u2.heap.size (.slice ao2 zs.length cap2) zs) := HEN.out.1.but HBX.out (.inr (by omega))
       have K2 := HK1.out.trans k2
       have L0 := Loc.kept HL0.out k2
       have L1 := Loc.kept HL1.out k2
       have s2 := HK1.out.size
       have s3 := k2.size
       have s4 := L1.lt
       have s6 := L0.lt
       have s5 := Loc.lt HL1.out
       clear x0 x1 x2 xf0 xf1 xf2 y0 y1 y2 yf0 yf1 yf2 HL0 HL1 HK1 k2
       have x0 := L0.cell 0 rfl
       have x1 := L0.cell 1 rfl
       have x2 := L0.cell 2 rfl
       have xf0 := L0.frozen 0
       have xf1 := L0.frozen 1
       have xf2 := L0.frozen 2
       have y0 := L1.cell 0 rfl
       have y1 := L1.cell 1 rfl
       have y2 := L1.cell 2 rfl
       have yf0 := L1.frozen 0
       have yf1 := L1.frozen 1
       have yf2 := L1.frozen 2
       have C3 : Loc (((u2.setCell ⟨u.heap.size, 0, none⟩ (.int .i64 D.1)).setCell ⟨u.heap.size, 1, none⟩ (.int .i64 D.2.1)).setCell ⟨u.heap.size, 2, none⟩ (.slice ao2 zs.length cap2)) u.heap.size [.int .i64 D.1, .int .i64 D.2.1, .slice ao2 zs.length cap2] := ((L0.set 0 (.int .i64 D.1)).set 1 (.int .i64 D.2.1)).set 2 (.slice ao2 zs.length cap2)
       have R3 : Loc (((u2.setCell ⟨u.heap.size, 0, none⟩ (.int .i64 D.1)).setCell ⟨u.heap.size, 1, none⟩ (.int .i64 D.2.1)).setCell ⟨u.heap.size, 2, none⟩ (.slice ao2 zs.length cap2)) (u.heap.size + 1) [.int .i64 0, .int .i64 0, .slice none 0 0] := ((L1.other (by omega) _).other (by omega) _).other (by omega) _
       have c30 := C3.cell 0 rfl
       have c31 := C3.cell 1 rfl
       have c32 := C3.cell 2 rfl
       have c3f0 := C3.frozen 0
       have c3f1 := C3.frozen 1
       have c3f2 := C3.frozen 2
       have r30 := R3.cell 0 rfl
       have r31 := R3.cell 1 rfl
       have r32 := R3.cell 2 rfl
       have r3f0 := R3.frozen 0
       have r3f1 := R3.frozen 1
       have r3f2 := R3.frozen 2
       have HC3 : Hid _ := C3
       have HR3 : Hid _ := R3
       clear C3 R3
       have HL0 : Hid _ := L0
       have HL1 : Hid _ := L1
       have HK2 : Hid _ := K2
       have HO2 : Hid _ := o2
       clear L0 L1 K2 o2)
    | (go_at_call 74; refine (l3At id zs _ _ _ _ HEX.out.at (by omega) (-1) (.inr ⟨fun z hz => HN.out (strip z) (by rw [← HEN.out.2]; exact List.mem_map_of_mem hz), rfl⟩)).mono ?_; rintro e u3 ⟨rfl, k3⟩
       have M0 := Loc.kept HC3.out k3
       have M1 := Loc.kept HR3.out k3
       have s7 := k3.size
       have m0 := M0.cell 0 rfl
       have m1 := M0.cell 1 rfl
       have m2 := M0.cell 2 rfl
       have mf0 := M0.frozen 0
       have mf1 := M0.frozen 1
       have mf2 := M0.frozen 2
       have p0 := M1.cell 0 rfl
       have p1 := M1.cell 1 rfl
       have p2 := M1.cell 2 rfl
       have pf0 := M1.frozen 0
       have pf1 := M1.frozen 1
       have pf2 := M1.frozen 2
       have HE3 : Hid _ := HEX.out.kept k3
       have HK3 : Hid _ := HKX.out.trans k3
       clear M0 M1 k3))
  have B : But u.heap.size (u.heap.size + 2) u3 (((u3.setCell ⟨u.heap.size + 1, 0, none⟩ (.int .i64 D.1)).setCell ⟨u.heap.size + 1, 1, none⟩ (.int .i64 D.2.1)).setCell ⟨u.heap.size + 1, 2, none⟩ (.slice ao2 zs.length cap2)) := (((But.refl _ _ _).setCell (by simp) (by simp) _).setCell (by simp) (by simp) _).setCell (by simp) (by simp) _
  refine bodyPost_ret (v := .tuple #[.agg #[.int .i64 D.1, .int .i64 D.2.1, .slice ao2 zs.length cap2], .int .i64 2]) (by simp [results, Try.results30, go_sem, p0, p1, p2]) rfl ?_
  exact ⟨_, rfl, ⟨_, zs, rfl, ((HE3.out.but B (by omega)).mono (by omega) (Nat.le_refl _)).low, HEN.out.2⟩, HK3.out.onto B (Nat.le_refl _)⟩

set_option maxHeartbeats 4000000 in
theorem implDespawnNone (D : WD) (id : Int) (hg : GoodW D) (hno : ∀ e ∈ D.2.2, e.1 ≠ id) (hc : ecost D.2.2 ≤ 1048576) (u : World) (lo hi : Nat) (v : Value) (ho : WO u lo hi v D) :
    Calls Try.prog 31 #[v, .int .i64 id] u fun e u' => ∃ v', e = .returned (.tuple #[v', .int .i64 2]) ∧ WO u' u.heap.size u'.heap.size v' D ∧ Kept u u' := by
  obtain ⟨ao, n, cap, hfm⟩ := ho.form
  subst hfm
  have hA := ho.at
  have HN : Hid _ := hno
  clear hno
  go_enter Try.func31, Try.ntmps31
  go_wp2_with (first
    | (go_at_call 27; refine (good_yes (implGood D _ _ (hA.kept (((But.refl _ _ u).alloc _).alloc _)) hc) hg).mono ?_; rintro e u1 ⟨rfl, k1⟩
       have K1 : Kept u u1 := (((But.refl _ _ u).alloc _).alloc _).trans k1
       have L0 := ((Loc.new u [.int .i64 D.1, .int .i64 D.2.1, .slice ao n cap] 25).alloc _).kept k1
       have L1 := (Loc.new (u.alloc (.cells #[.int .i64 D.1, .int .i64 D.2.1, .slice ao n cap] 25)) [.int .i64 0, .int .i64 0, .slice none 0 0] 25).kept k1
       simp only [World.size_alloc] at L1
       have x0 := L0.cell 0 rfl
       have x1 := L0.cell 1 rfl
       have x2 := L0.cell 2 rfl
       have xf0 := L0.frozen 0
       have xf1 := L0.frozen 1
       have xf2 := L0.frozen 2
       have y0 := L1.cell 0 rfl
       have y1 := L1.cell 1 rfl
       have y2 := L1.cell 2 rfl
       have yf0 := L1.frozen 0
       have yf1 := L1.frozen 1
       have yf2 := L1.frozen 2
       have HL0 : Hid _ := L0
       have HL1 : Hid _ := L1
       have HK1 : Hid _ := K1
       clear k1 L0 L1 K1)
    | (go_at_call 73; refine (implCopy D _ _ (hA.kept HK1.out) hc).mono ?_; rintro e u2 ⟨v2, rfl, o2, k2⟩
       obtain ⟨ao2, n2, cap2, hfm2⟩ := o2.form
       subst hfm2
       obtain ⟨zs, hzn, hen, hst⟩ := o2.ents
       have h60 : zs.length ≤ 60 := by
         have h5 := hg.2.2.2.2.1
         have := congrArg List.length hst
         rw [List.length_map] at this
         omega
       subst hzn
       have HEN : Hid (EntsO u2 u1.heap.size u2.heap.size (.slice ao2 zs.length cap2) zs ∧ zs.map strip = D.2.2) := ⟨hen, hst⟩
       have hbase := Loc.lt HL1.out
       have hbase2 := k2.size
       clear hen hst
       have K2 := HK1.out.trans k2
       have L0 := Loc.kept HL0.out k2
       have L1 := Loc.kept HL1.out k2
       have s2 := HK1.out.size
       have s3 := k2.size
       have s4 := L1.lt
       have s6 := L0.lt
       have s5 := Loc.lt HL1.out
       clear x0 x1 x2 xf0 xf1 xf2 y0 y1 y2 yf0 yf1 yf2 HL0 HL1 HK1 k2
       have x0 := L0.cell 0 rfl
       have x1 := L0.cell 1 rfl
       have x2 := L0.cell 2 rfl
       have xf0 := L0.frozen 0
       have xf1 := L0.frozen 1
       have xf2 := L0.frozen 2
       have y0 := L1.cell 0 rfl
       have y1 := L1.cell 1 rfl
       have y2 := L1.cell 2 rfl
       have yf0 := L1.frozen 0
       have yf1 := L1.frozen 1
       have yf2 := L1.frozen 2

       have HL0 : Hid _ := L0
       have HL1 : Hid _ := L1
       have HK2 : Hid _ := K2
       have HO2 : Hid _ := o2
       clear L0 L1 K2 o2)
    | (go_at_call 75; refine (find_no zs id (fun z hz => HN.out (strip z) (by rw [← HEN.out.2]; exact List.mem_map_of_mem hz)) _ _ (HEN.out.1.kept ((But.refl _ _ u2).alloc _)).at (rise_of hg HEN.out.2) (by omega)).mono ?_; rintro e u3 ⟨⟨kk, rfl⟩, k3⟩
       have M1 := (Loc.alloc HL1.out _).kept k3
       have M2 := (LocT.new u2 [.int .i64 D.1, .int .i64 D.2.1, .slice ao2 zs.length cap2] 25).kept k3
       have hm2 := M2.loc
       have s7 := k3.size
       simp only [World.size_alloc] at s7
       have p0 := M1.cell 0 rfl
       have p1 := M1.cell 1 rfl
       have p2 := M1.cell 2 rfl
       have pf0 := M1.frozen 0
       have pf1 := M1.frozen 1
       have pf2 := M1.frozen 2
       have t0 := hm2.cell 0 rfl
       have t1 := hm2.cell 1 rfl
       have t2 := hm2.cell 2 rfl
       have tf0 := hm2.frozen 0
       have tf1 := hm2.frozen 1
       have tf2 := hm2.frozen 2
       have HE3 : Hid _ := (HEN.out.1.kept ((But.refl _ _ u2).alloc _)).kept k3
       have HK3 : Hid _ := (HK2.out.alloc _).trans k3
       clear M1 M2 hm2 k3))
  have B : But u.heap.size (u.heap.size + 2) u3 (((u3.setCell ⟨u.heap.size + 1, 0, none⟩ (.int .i64 D.1)).setCell ⟨u.heap.size + 1, 1, none⟩ (.int .i64 D.2.1)).setCell ⟨u.heap.size + 1, 2, none⟩ (.slice ao2 zs.length cap2)) := (((But.refl _ _ _).setCell (by simp) (by simp) _).setCell (by simp) (by simp) _).setCell (by simp) (by simp) _
  refine bodyPost_ret (v := .tuple #[.agg #[.int .i64 D.1, .int .i64 D.2.1, .slice ao2 zs.length cap2], .int .i64 2]) (by simp [results, Try.results31, go_sem, p0, p1, p2]) rfl ?_
  exact ⟨_, rfl, ⟨_, zs, rfl, ((HE3.out.but B (by omega)).mono (by omega) (Nat.le_refl _)).low, HEN.out.2⟩, HK3.out.onto B (Nat.le_refl _)⟩

set_option maxHeartbeats 4000000 in
set_option maxRecDepth 100000 in
theorem specDespawnOk (D : WD) (id : Int) (k : Nat) (e : ED) (hg : GoodW D) (hk : D.2.2[k]? = some e) (hid : e.1 = id) (hc : ecost D.2.2 ≤ 1048576) (u : World) (lo hi : Nat) (v : Value) (ho : WO u lo hi v D) :
    Calls Try.prog 30 #[v, .int .i64 id] u fun e u' => ∃ v', e = .returned (.tuple #[v', .int .i64 0]) ∧ WO u' u.heap.size u'.heap.size v' (D.1, D.2.1, D.2.2.eraseIdx k) ∧ Kept u u' := by
  obtain ⟨ao, n, cap, hfm⟩ := ho.form
  subst hfm
  have hA := ho.at
  have HE : Hid (D.2.2[k]? = some e ∧ e.1 = id) := ⟨hk, hid⟩
  clear hk hid
  obtain ⟨i0, hi0, _, hz1, _⟩ := info_parts info36
  go_enter Try.func30, Try.ntmps30
  go_wp2_with (first
    | (go_at_call 25; refine (good_yes (specGood D _ _ (hA.kept (((But.refl _ _ u).alloc _).alloc _)) hc) hg).mono ?_; rintro e u1 ⟨rfl, k1⟩
       have K1 : Kept u u1 := (((But.refl _ _ u).alloc _).alloc _).trans k1
       have L0 := ((Loc.new u [.int .i64 D.1, .int .i64 D.2.1, .slice ao n cap] 25).alloc _).kept k1
       have L1 := (Loc.new (u.alloc (.cells #[.int .i64 D.1, .int .i64 D.2.1, .slice ao n cap] 25)) [.int .i64 0, .int .i64 0, .slice none 0 0] 25).kept k1
       simp only [World.size_alloc] at L1
       have x0 := L0.cell 0 rfl
       have x1 := L0.cell 1 rfl
       have x2 := L0.cell 2 rfl
       have xf0 := L0.frozen 0
       have xf1 := L0.frozen 1
       have xf2 := L0.frozen 2
       have y0 := L1.cell 0 rfl
       have y1 := L1.cell 1 rfl
       have y2 := L1.cell 2 rfl
       have yf0 := L1.frozen 0
       have yf1 := L1.frozen 1
       have yf2 := L1.frozen 2
       have HL0 : Hid _ := L0
       have HL1 : Hid _ := L1
       have HK1 : Hid _ := K1
       clear k1 L0 L1 K1)
    | (go_at_call 72; refine (specOwn D _ _ (hA.kept HK1.out) hc).mono ?_; rintro e u2 ⟨v2, rfl, o2, k2⟩
       obtain ⟨ao2, n2, cap2, hfm2⟩ := o2.form
       subst hfm2
       obtain ⟨zs, hzn, hen, hst⟩ := o2.ents
       have h60 : zs.length ≤ 60 := by
         have h5 := hg.2.2.2.2.1
         have := congrArg List.length hst
         rw [List.length_map] at this
         omega
       subst hzn
       have HEN : Hid (EntsO u2 u1.heap.size u2.heap.size (.slice ao2 zs.length cap2) zs ∧ zs.map strip = D.2.2) := ⟨hen, hst⟩
       have hbase := Loc.lt HL1.out
       have hbase2 := k2.size
       clear hen hst
       have HBX : Hid (But u.heap.size (u.heap.size + 2) u2 (((u2.setCell ⟨u.heap.size, 0, none⟩ (.int .i64 D.1)).setCell ⟨u.heap.size, 1, none⟩ (.int .i64 D.2.1)).setCell ⟨u.heap.size, 2, none⟩ (.slice ao2 zs.length cap2))) := (((But.refl _ _ _).setCell (by simp) (by simp) _).setCell (by simp) (by simp) _).setCell (by simp) (by simp) _
       have HKX : Hid (Kept u (((u2.setCell ⟨u.heap.size, 0, none⟩ (.int .i64 D.1)).setCell ⟨u.heap.size, 1, none⟩ (.int .i64 D.2.1)).setCell ⟨u.heap.size, 2, none⟩ (.slice ao2 zs.length cap2))) := (HK1.out.trans k2).onto HBX.out (Nat.le_refl _)
       have HEX : Hid (EntsO (((u2.setCell ⟨u.heap.size, 0, none⟩ (.int .i64 D.1)).setCell ⟨u.heap.size, 1, none⟩ (.int .i64 D.2.1)).setCell ⟨u.heap.size, 2, none⟩ (.slice ao2 zs.length cap2)) u1.heap.size u2.heap.size (.slice ao2 zs.length cap2) zs) := HEN.out.1.but HBX.out (.inr (by omega))
       have HZ : Hid (∃ z, zs[k]? = some z ∧ z.1 = id) := by
         have h1 := HE.out.1
         rw [← HEN.out.2, List.getElem?_map] at h1
         cases hz : zs[k]? with
         | none => rw [hz] at h1; cases h1
         | some z => rw [hz] at h1; simp at h1; exact ⟨z, rfl, by rw [← HE.out.2, ← h1]; rfl⟩
       have K2 := HK1.out.trans k2
       have L0 := Loc.kept HL0.out k2
       have L1 := Loc.kept HL1.out k2
       have s2 := HK1.out.size
       have s3 := k2.size
       have s4 := L1.lt
       have s6 := L0.lt
       have s5 := Loc.lt HL1.out
       clear x0 x1 x2 xf0 xf1 xf2 y0 y1 y2 yf0 yf1 yf2 HL0 HL1 HK1 k2
       have x0 := L0.cell 0 rfl
       have x1 := L0.cell 1 rfl
       have x2 := L0.cell 2 rfl
       have xf0 := L0.frozen 0
       have xf1 := L0.frozen 1
       have xf2 := L0.frozen 2
       have y0 := L1.cell 0 rfl
       have y1 := L1.cell 1 rfl
       have y2 := L1.cell 2 rfl
       have yf0 := L1.frozen 0
       have yf1 := L1.frozen 1
       have yf2 := L1.frozen 2
       have C3 : Loc (((u2.setCell ⟨u.heap.size, 0, none⟩ (.int .i64 D.1)).setCell ⟨u.heap.size, 1, none⟩ (.int .i64 D.2.1)).setCell ⟨u.heap.size, 2, none⟩ (.slice ao2 zs.length cap2)) u.heap.size [.int .i64 D.1, .int .i64 D.2.1, .slice ao2 zs.length cap2] := ((L0.set 0 (.int .i64 D.1)).set 1 (.int .i64 D.2.1)).set 2 (.slice ao2 zs.length cap2)
       have R3 : Loc (((u2.setCell ⟨u.heap.size, 0, none⟩ (.int .i64 D.1)).setCell ⟨u.heap.size, 1, none⟩ (.int .i64 D.2.1)).setCell ⟨u.heap.size, 2, none⟩ (.slice ao2 zs.length cap2)) (u.heap.size + 1) [.int .i64 0, .int .i64 0, .slice none 0 0] := ((L1.other (by omega) _).other (by omega) _).other (by omega) _
       have c30 := C3.cell 0 rfl
       have c31 := C3.cell 1 rfl
       have c32 := C3.cell 2 rfl
       have c3f0 := C3.frozen 0
       have c3f1 := C3.frozen 1
       have c3f2 := C3.frozen 2
       have r30 := R3.cell 0 rfl
       have r31 := R3.cell 1 rfl
       have r32 := R3.cell 2 rfl
       have r3f0 := R3.frozen 0
       have r3f1 := R3.frozen 1
       have r3f2 := R3.frozen 2
       have HC3 : Hid _ := C3
       have HR3 : Hid _ := R3
       clear C3 R3
       have HL0 : Hid _ := L0
       have HL1 : Hid _ := L1
       have HK2 : Hid _ := K2
       have HO2 : Hid _ := o2
       clear L0 L1 K2 o2)
    | (go_at_call 74; refine (l3At id zs _ _ _ _ HEX.out.at (by omega) (k : Nat) (.inl (by
         obtain ⟨z, hz, hid⟩ := HZ.out
         refine ⟨k, z, hz, hid, fun j y hj hy => ?_, rfl⟩
         have := rise_of hg HEN.out.2 j k y z hj hy hz
         omega))).mono ?_; rintro e u3 ⟨rfl, k3⟩
       have M0 := Loc.kept HC3.out k3
       have M1 := Loc.kept HR3.out k3
       have s7 := k3.size
       have m0 := M0.cell 0 rfl
       have m1 := M0.cell 1 rfl
       have m2 := M0.cell 2 rfl
       have mf0 := M0.frozen 0
       have mf1 := M0.frozen 1
       have mf2 := M0.frozen 2
       have p0 := M1.cell 0 rfl
       have p1 := M1.cell 1 rfl
       have p2 := M1.cell 2 rfl
       have pf0 := M1.frozen 0
       have pf1 := M1.frozen 1
       have pf2 := M1.frozen 2
       have HM0 : Hid _ := M0
       have HM1 : Hid _ := M1
       have HE3 : Hid _ := HEX.out.kept k3
       have HK3 : Hid _ := HKX.out.trans k3
       clear M0 M1 k3))
  obtain ⟨z, hz, _⟩ := HZ.out
  have hkl : k < zs.length := (List.getElem?_eq_some_iff.1 hz).1
  have hown := HE3.out.row.1
  obtain ⟨g, cap9, hfg, hbs, _⟩ := own_cell hown (flat_get 2 ec ec_len zs k 0 z hz (by omega))
  cases hfg
  rcases hown.2 with ⟨hv, _⟩ | ⟨g', cap', cur, hv, _, hgg, hnc, hcm, hsz, htk⟩
  · cases hv
  cases hv
  have hxl := hown.1
  have hghi := HE3.out.row.2 g rfl
  have hcm' : cap2 ≤ 9223372036854775807 := hcm
  obtain ⟨news, hnews⟩ : ∃ news, news = (entCells zs).drop ((k + 1) * 2) := ⟨_, rfl⟩
  have hlen : news.length = (zs.length - (k + 1)) * 2 := by rw [hnews, List.length_drop, hxl]; omega
  obtain ⟨A, hA, hsrc⟩ : ∃ A : Addr, (if cap2 = k + 1 then some (⟨g, 0, none⟩ : Addr) else some ⟨g, (k + 1) * 2, none⟩) = some A ∧ Hid (∀ t u, news[t]? = some u → u3.drew.cell? (A.add t) = some u) := by
    by_cases h : cap2 = k + 1
    · refine ⟨⟨g, 0, none⟩, by simp [h], fun t u hu => ?_⟩
      have h0 : news.length = 0 := by rw [hlen]; omega
      rw [List.length_eq_zero_iff.1 h0] at hu
      simp at hu
    · refine ⟨⟨g, (k + 1) * 2, none⟩, by simp [h], fun t u hu => ?_⟩
      rw [hnews, List.getElem?_drop] at hu
      rw [Go.WideShapes.add_plain]
      obtain ⟨g2, c2, e2, _, hc2, _⟩ := own_cell hown hu
      cases e2
      exact hc2
  have q1 : Hid (news.length = (zs.length - (k + 1)) * 2) := hlen
  have q2 : Hid (∀ u ∈ news, u.oneCell' = true) := fun u hu => ec_one HE3.out u (by rw [hnews] at hu; exact List.mem_of_mem_drop hu)
  have q3 : Hid (u3.drew.heap[g]? = some (.cells cur 36 (0, 0))) := hgg
  have q4 : Hid (k * 2 + news.length ≤ cur.size) := by
    show k * 2 + news.length ≤ cur.size
    rw [hlen, hsz]; omega
  obtain ⟨C1, hC1⟩ : ∃ C1, C1 = (cur.toList.take (k * 2) ++ news ++ cur.toList.drop (k * 2 + news.length)).toArray := ⟨_, rfl⟩
  obtain ⟨W1, hW1⟩ : ∃ W1, W1 = u3.drew.setRow g C1 := ⟨_, rfl⟩
  have hW1g : W1.heap[g]? = some (.cells C1 36 (0, 0)) := by rw [hW1]; exact setRow_heap u3.drew g cur C1 36 _ hgg
  have X0 : W1 = u3.drew.setRow g (cur.toList.take (k * 2) ++ news ++ cur.toList.drop (k * 2 + news.length)).toArray := by rw [hW1, hC1]
  have X : Hid _ := X0
  have hB1 : But g (g + 1) u3 W1 := by rw [hW1]; exact ((But.refl _ _ u3).drew).trans (setRow_but _ _ _)
  have hown1 : W1.ownsRow u1.heap.size 36 2 (.slice (some ⟨g, 0, none⟩) (zs.length - 1) cap2) (zs.length - 1) ((entCells zs).take (k * 2) ++ (entCells zs).drop ((k + 1) * 2)) := by
    rw [← hnews]
    exact own_shift hbs hW1g htk (by omega) (by rw [hsz]; omega) hC1 (by rw [hlen]; omega : k * 2 + news.length = (zs.length - 1) * 2) (by rw [hsz]; omega) rfl (by omega) hcm hsz
  have HE4 : Hid _ := HE3.out.erase hB1 hkl hown1
  have hgne : u.heap.size < g ∧ u.heap.size + 1 < g := by omega
  have N0 := Loc.but HM0.out hB1 (by omega)
  have N1 := Loc.but HM1.out hB1 (by omega)
  have n0 := N0.cell 0 rfl
  have n1 := N0.cell 1 rfl
  have n2 := N0.cell 2 rfl
  have nf := N0.frozen 2
  have v0 := N1.cell 0 rfl
  have v1 := N1.cell 1 rfl
  have v2 := N1.cell 2 rfl
  have vf0 := N1.frozen 0
  have vf1 := N1.frozen 1
  have vf2 := N1.frozen 2
  have HK4 : Hid (Kept u W1) := HK3.out.onto hB1 (by omega)
  have hA' : Hid _ := hA
  have HST : Hid _ := HEN.out.2
  have hb1 : (0 : Int) ≤ (k : Int) + 1 := by omega
  have hb2 : (k : Int) + 1 ≤ (zs.length : Int) := by omega
  have hb3 : (k : Int) ≤ (cap2 : Int) := by omega
  have hb4 : (0 : Int) ≤ (k : Int) := by omega
  have hw1 : IntKind.i64.wrap ((k : Int) + 1) = (k : Int) + 1 := by rw [IntKind.wrap_i64]; omega
  clear X0 hA hC1 hW1 hW1g hgg htk hsz hnews hlen hown hown1 hB1 hcm hxl HE3 HK3 HM0 HM1 HBX HKX HEX HC3 HR3 HEN HZ HO2 HK2 N0 N1
  go_region_law (refine step_room rfl (.tmp 22) (.tmp 27) 23 rfl 36 i0 2 Try.underlying23 hi0 hz1 g k cap2 cur q3.out (by simp [Act.eval, Act.put]) A (zs.length - (k + 1)) (cap2 - (k + 1)) news (by simp [Act.eval, Act.put, hA'.out]) q1.out hsrc.out q2.out (by omega) q4.out ?_; rw [← X.out])
  all_goals
    rw [show k + (zs.length - (k + 1)) = zs.length - 1 by omega, hA'.out]
    go_wp2
    have B : But u.heap.size (u.heap.size + 2) W1 ((((W1.setCell ⟨u.heap.size, 2, none⟩ (.slice (some ⟨g, 0, none⟩) (zs.length - 1) cap2)).setCell ⟨u.heap.size + 1, 0, none⟩ (.int .i64 D.1)).setCell ⟨u.heap.size + 1, 1, none⟩ (.int .i64 D.2.1)).setCell ⟨u.heap.size + 1, 2, none⟩ (.slice (some ⟨g, 0, none⟩) (zs.length - 1) cap2)) := ((((But.refl _ _ _).setCell (by simp) (by simp) _).setCell (by simp) (by simp) _).setCell (by simp) (by simp) _).setCell (by simp) (by simp) _
    refine bodyPost_ret (v := .tuple #[.agg #[.int .i64 D.1, .int .i64 D.2.1, .slice (some ⟨g, 0, none⟩) (zs.length - 1) cap2], .int .i64 0]) (by simp [results, Try.results30, go_sem, v0, v1, v2]) rfl ?_
    exact ⟨_, rfl, ⟨_, zs.eraseIdx k, rfl, ((HE4.out.but B (by omega)).mono (by omega) (Nat.le_refl _)).low, by rw [← HST.out, erase_map]⟩, HK4.out.onto B (Nat.le_refl _)⟩
end Go.Proofs.Ytajelalimiobeaa
