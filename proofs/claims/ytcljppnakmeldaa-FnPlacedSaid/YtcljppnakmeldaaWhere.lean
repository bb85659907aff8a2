/-
  How a node stands in the whole scene, in the specification.
-/
import Derived.Test.YtcljppnakmeldaaStand
namespace Go.Proofs.Ytcljppnakmeldaa
open Go.ChangeShapes Go.WideShapes Go.ChangeAt Go.RowKit

theorem joinA_good (s t : SpotD) (h : (joinA s t).2 = true) : GoodS (joinA s t).1 := by
  unfold joinA at h ⊢
  split
  · rename_i hh; exact hh.2.2
  · rename_i hh; rw [if_neg hh] at h; cases h
theorem standM_good : ∀ (l : List NodeD) (s u : SpotD), GoodS s → standM s l = some u → GoodS u
  | [], s, u, hs, h => by simp only [standM, Option.some.injEq] at h; subst h; exact hs
  | n :: l, s, u, hs, h => by
    simp only [standM] at h
    split at h
    · rename_i hj
      exact standM_good l _ u (joinA_good _ _ hj) h
    · cases h
/-- What l4Where answers: the spot and true, or whatever and false. -/
def WhereEnd (o : Option SpotD) (e : Ending) : Prop := ∃ (s : SpotD) (b : Bool), e = .returned (.tuple #[sv s, .bool b]) ∧ (b = true → o = some s) ∧ (b = false → o = none)

set_option maxRecDepth 100000 in
set_option maxHeartbeats 4000000 in
theorem l4Where (l : List NodeD) (v : Value) : ∀ (xs : List UpE) (a : Int) (w : World), Chain l a xs → NodeAt w v l → (∀ x ∈ xs, GoodS (spotN x.2)) →
    Calls Try.prog 49 #[v, .int .i64 a] w fun e w' => WhereEnd (standM s0 (rows xs).reverse) e ∧ Kept w w'
  | [], a, w, hch, hv, _ => by
    obtain ⟨ao, cap, hsl⟩ := row_nil hv
    subst hsl
    obtain rfl : a = -1 := hch
    go_enter Try.func49, Try.ntmps49
    go_wp2_with fail
    refine bodyPost_ret (v := .tuple #[sv s0, .bool true]) (by simp [results, Try.results49, go_sem, s0]) rfl ?_
    exact ⟨⟨s0, true, rfl, fun _ => rfl, fun h => by cases h⟩, (But.refl _ _ _).alloc _⟩
  | x :: r, a, w, hch, hv, hg => by
    obtain ⟨ao, cap, hsl⟩ := row_nil hv
    subst hsl
    obtain ⟨i, ⟨nm, up, X, Y, t, f⟩, rfl, hi, rfl, hlt, hr⟩ := hch
    have hil : i < l.length := (List.getElem?_eq_some_iff.1 hi).1
    obtain ⟨b, o, cap1, e, c0, c1, c2, c3, c4, c5⟩ := node_get hv hi
    cases e
    dsimp only at hlt hr c0 c1 c2 c3 c4 c5
    have ih := fun u hu => l4Where l (.slice (some ⟨b, o, none⟩) l.length cap) r up u hr hu (fun y hy => hg y (List.mem_cons_of_mem _ hy))
    have hgn := hg _ (List.mem_cons_self)
    have hb : b < w.heap.size := World.block_lt_of_cell? w _ c0
    have hi0 : decide ((i : Int) < 0) = false := by simp
    have HI : Hid _ := ih
    clear ih
    go_enter Try.func49, Try.ntmps49
    repeat (first | go_values | go_skip | go_guarded | go_step | go_upon)
    go_at_call 49
    refine (HI.out _ (hv.kept ((But.refl _ _ _).alloc _))).mono ?_
    rintro e w1 ⟨⟨⟨ux, uy, ut, uf⟩, ub, rfl, h1, h2⟩, k1⟩
    have Lr := (Loc.new w [.int .i64 0, .int .i64 0, .int .i64 0, .bool false] 24).kept k1
    have kz : Kept w w1 := ((But.refl _ _ w).alloc _).trans k1
    have p0 := Lr.cell 0 rfl
    have p1 := Lr.cell 1 rfl
    have p2 := Lr.cell 2 rfl
    have p3 := Lr.cell 3 rfl
    have z0 := Lr.frozen 0
    have z1 := Lr.frozen 1
    have z2 := Lr.frozen 2
    have z3 := Lr.frozen 3
    have hlw := Lr.lt
    have HK : Hid (Kept w w1) := kz
    have HL : Hid (Loc w1 w.heap.size _) := Lr
    clear k1 kz Lr
    have hrev : (rows (((i : Int), (nm, up, X, Y, t, f)) :: r)).reverse = (rows r).reverse ++ [(nm, up, X, Y, t, f)] := by simp [rows]
    have HV : Hid _ := hrev
    clear hrev
    dsimp only
    cases ub with
    | false =>
      have HN : Hid _ := h2 rfl
      clear h1 h2
      repeat (first | go_values | go_skip | go_guarded | go_step | go_upon)
      refine bodyPost_ret (v := .tuple #[sv s0, .bool false]) (by simp [results, Try.results49, go_sem, s0, *]) rfl ?_
      refine ⟨⟨s0, false, rfl, (fun h => by cases h), fun _ => ?_⟩, ?_⟩
      · rw [HV.out, standM_snoc, HN.out]
        rfl
      · have kk := HK.out
        (repeat (first | with_reducible exact kk | with_reducible apply But.alloc | (with_reducible refine But.setNew ?_ (by simp) _)))
    | true =>
      have hu := h1 rfl
      have hgu : GoodS (ux, uy, ut, uf) := standM_good _ _ _ (by decide) hu
      have HN : Hid _ := hu
      clear h1 h2 hu
      obtain ⟨b', o', cap1', e', d0, d1, d2, d3, d4, d5⟩ := node_get (hv.kept HK.out) hi
      cases e'
      dsimp only at d0 d1 d2 d3 d4 d5
      have hb1 : b < w1.heap.size := World.block_lt_of_cell? w1 _ d0
      clear c0 c1 c2 c3 c4 c5
      obtain ⟨⟨jx, jy, jt, jf⟩, hJ⟩ : ∃ j, joinM (ux, uy, ut, uf) (X, Y, t, f) = j := ⟨_, rfl⟩
      have HJ : Hid (joinM (ux, uy, ut, uf) (X, Y, t, f) = (jx, jy, jt, jf)) := hJ
      have hS : ∀ u, Calls Try.prog 50 #[.agg #[.int .i64 ux, .int .i64 uy, .int .i64 ut, .bool uf], .agg #[.int .i64 X, .int .i64 Y, .int .i64 t, .bool f]] u fun e w' => e = .returned (.agg #[.int .i64 jx, .int .i64 jy, .int .i64 jt, .bool jf]) ∧ ∃ o1 o2 o3 o4, w' = (((u.alloc o1).alloc o2).alloc o3).alloc o4 := fun u => by
        have := specJoin _ _ u hgu hgn
        rw [show spotN (nm, up, X, Y, t, f) = (X, Y, t, f) from rfl, hJ] at this
        exact this
      have HS : Hid _ := hS
      clear hS hJ
      have hb3 : b < w1.heap.size + 1 := by omega
      have hb4 : b < w1.heap.size + 1 + 1 := by omega
      have hb5 : b < w1.heap.size + 1 + 1 + 1 := by omega
      have hb6 : b < w1.heap.size + 1 + 1 + 1 + 1 := by omega
      have hb7 : b < w1.heap.size + 1 + 1 + 1 + 1 + 1 := by omega
      have hb8 : b < w1.heap.size + 1 + 1 + 1 + 1 + 1 + 1 := by omega
      have hb9 : b < w1.heap.size + 1 + 1 + 1 + 1 + 1 + 1 + 1 := by omega
      have hb10 : b < w1.heap.size + 1 + 1 + 1 + 1 + 1 + 1 + 1 + 1 := by omega
      repeat (first | go_values | go_skip | go_guarded | go_step | go_upon)
      go_region_held3 (fun w' => w'.cell? ⟨w1.heap.size, 0, none⟩ = some (.int .i64 ux) ∧ w'.cell? ⟨w1.heap.size, 1, none⟩ = some (.int .i64 uy) ∧ w'.cell? ⟨w1.heap.size, 2, none⟩ = some (.int .i64 ut) ∧ w'.cell? ⟨w1.heap.size, 3, none⟩ = some (.bool uf) ∧ w'.cell? ⟨b, o + i * 6, none⟩ = some (.string nm) ∧ w'.cell? ⟨b, o + i * 6 + 1, none⟩ = some (.int .i64 up) ∧ w'.cell? ⟨b, o + i * 6 + 2, none⟩ = some (.int .i64 X) ∧ w'.cell? ⟨b, o + i * 6 + 3, none⟩ = some (.int .i64 Y) ∧ w'.cell? ⟨b, o + i * 6 + 4, none⟩ = some (.int .i64 t) ∧ w'.cell? ⟨b, o + i * 6 + 5, none⟩ = some (.bool f)) (simp [go_sem, *])
        (first | (go_at_call 54; refine (l4Spot (nm, up, X, Y, t, f) _).mono ?_; rintro e w' ⟨rfl, o1, o2, kk, rfl⟩)
               | (go_at_call 50; refine (HS.out _).mono ?_; rintro e w' ⟨rfl, o1, o2, o3, o4, rfl⟩))
      · refine forgetX (fun w' => w'.cell? ⟨w1.heap.size + 1 + 1 + 1 + 1 + 1 + 1 + 1, 0, none⟩ = some (.int .i64 jx) ∧ w'.cell? ⟨w1.heap.size + 1 + 1 + 1 + 1 + 1 + 1 + 1, 1, none⟩ = some (.int .i64 jy) ∧ w'.cell? ⟨w1.heap.size + 1 + 1 + 1 + 1 + 1 + 1 + 1, 2, none⟩ = some (.int .i64 jt) ∧ w'.cell? ⟨w1.heap.size + 1 + 1 + 1 + 1 + 1 + 1 + 1, 3, none⟩ = some (.bool jf) ∧ w1.heap.size < w1.heap.size + 1 + 1 + 1 + 1 + 1 + 1 + 1 ∧ w1.heap.size + 1 + 1 + 1 + 1 + 1 + 1 + 1 < w'.heap.size ∧ Kept w1 w') ⟨by simp [go_sem, *], by simp [go_sem, *], by simp [go_sem, *], by simp [go_sem, *], by simp +arith, by simp +arith, by (repeat (first | with_reducible exact But.refl _ _ _ | with_reducible apply But.drewN | with_reducible apply But.drew | with_reducible apply But.alloc | (with_reducible refine But.setNew ?_ (by simp; try omega) _)))⟩ ?_
        rintro W1 ⟨r0, r1, r2, r3, hlt', hgl, hkW⟩
        generalize w1.heap.size + 1 + 1 + 1 + 1 + 1 + 1 + 1 = g1 at r0 r1 r2 r3 hlt' hgl ⊢
        have Lr := HL.out.kept hkW
        have p0 := Lr.cell 0 rfl
        have p1 := Lr.cell 1 rfl
        have p2 := Lr.cell 2 rfl
        have p3 := Lr.cell 3 rfl
        have z0 := Lr.frozen 0
        have z1 := Lr.frozen 1
        have z2 := Lr.frozen 2
        have z3 := Lr.frozen 3
        have hlw := Lr.lt
        clear Lr
        have hne : w.heap.size ≠ g1 := by omega
        have hne' : g1 ≠ w.heap.size := by omega
        repeat (first | go_values | go_skip | go_guarded | go_step | go_upon)
        go_region_held3 (fun w' => w'.cell? ⟨g1, 0, none⟩ = some (.int .i64 jx) ∧ w'.cell? ⟨g1, 1, none⟩ = some (.int .i64 jy) ∧ w'.cell? ⟨g1, 2, none⟩ = some (.int .i64 jt) ∧ w'.cell? ⟨g1, 3, none⟩ = some (.bool jf)) (simp [go_sem, *])
          (first | (go_at_call 41; refine (sgood _ _ _ _ _).mono ?_; rintro e w' ⟨rfl, rfl⟩))
        repeat (first | go_values | go_skip | go_guarded | go_step | go_upon)
        refine bodyPost_ret (v := .tuple #[sv (jx, jy, jt, jf), .bool (goodS (jx, jy, jt, jf))]) (by simp [results, Try.results49, go_sem, *]) rfl ?_
        refine ⟨⟨(jx, jy, jt, jf), goodS (jx, jy, jt, jf), rfl, fun h => ?_, fun h => ?_⟩, ?_⟩
        · have hj := (goodS_iff _).1 h
          have ha : joinA (ux, uy, ut, uf) (X, Y, t, f) = ((jx, jy, jt, jf), true) := by rw [← HJ.out]; exact if_pos ⟨hgu, hgn, by rw [HJ.out]; exact hj⟩
          rw [HV.out, standM_snoc, HN.out]
          simp [spotN, ha]
        · have hj : ¬ GoodS (jx, jy, jt, jf) := fun hh => by rw [(goodS_iff _).2 hh] at h; cases h
          have ha : joinA (ux, uy, ut, uf) (X, Y, t, f) = (s0, false) := if_neg (fun hh => hj (by rw [← HJ.out]; exact hh.2.2))
          rw [HV.out, standM_snoc, HN.out]
          simp [spotN, ha]
        · have kk := HK.out.trans hkW
          (repeat (first | with_reducible exact kk | with_reducible apply But.drewN | with_reducible apply But.drew | with_reducible apply But.alloc | (with_reducible refine But.setNew ?_ (by simp) _)))
      · refine forgetX (fun w' => w'.cell? ⟨w1.heap.size + 1 + 1 + 1, 0, none⟩ = some (.int .i64 jx) ∧ w'.cell? ⟨w1.heap.size + 1 + 1 + 1, 1, none⟩ = some (.int .i64 jy) ∧ w'.cell? ⟨w1.heap.size + 1 + 1 + 1, 2, none⟩ = some (.int .i64 jt) ∧ w'.cell? ⟨w1.heap.size + 1 + 1 + 1, 3, none⟩ = some (.bool jf) ∧ w1.heap.size < w1.heap.size + 1 + 1 + 1 ∧ w1.heap.size + 1 + 1 + 1 < w'.heap.size ∧ Kept w1 w') ⟨by simp [go_sem, *], by simp [go_sem, *], by simp [go_sem, *], by simp [go_sem, *], by simp +arith, by simp +arith, by (repeat (first | with_reducible exact But.refl _ _ _ | with_reducible apply But.drewN | with_reducible apply But.drew | with_reducible apply But.alloc | (with_reducible refine But.setNew ?_ (by simp; try omega) _)))⟩ ?_
        rintro W1 ⟨r0, r1, r2, r3, hlt', hgl, hkW⟩
        generalize w1.heap.size + 1 + 1 + 1 = g1 at r0 r1 r2 r3 hlt' hgl ⊢
        have Lr := HL.out.kept hkW
        have p0 := Lr.cell 0 rfl
        have p1 := Lr.cell 1 rfl
        have p2 := Lr.cell 2 rfl
        have p3 := Lr.cell 3 rfl
        have z0 := Lr.frozen 0
        have z1 := Lr.frozen 1
        have z2 := Lr.frozen 2
        have z3 := Lr.frozen 3
        have hlw := Lr.lt
        clear Lr
        have hne : w.heap.size ≠ g1 := by omega
        have hne' : g1 ≠ w.heap.size := by omega
        repeat (first | go_values | go_skip | go_guarded | go_step | go_upon)
        go_region_held3 (fun w' => w'.cell? ⟨g1, 0, none⟩ = some (.int .i64 jx) ∧ w'.cell? ⟨g1, 1, none⟩ = some (.int .i64 jy) ∧ w'.cell? ⟨g1, 2, none⟩ = some (.int .i64 jt) ∧ w'.cell? ⟨g1, 3, none⟩ = some (.bool jf)) (simp [go_sem, *])
          (first | (go_at_call 41; refine (sgood _ _ _ _ _).mono ?_; rintro e w' ⟨rfl, rfl⟩))
        repeat (first | go_values | go_skip | go_guarded | go_step | go_upon)
        refine bodyPost_ret (v := .tuple #[sv (jx, jy, jt, jf), .bool (goodS (jx, jy, jt, jf))]) (by simp [results, Try.results49, go_sem, *]) rfl ?_
        refine ⟨⟨(jx, jy, jt, jf), goodS (jx, jy, jt, jf), rfl, fun h => ?_, fun h => ?_⟩, ?_⟩
        · have hj := (goodS_iff _).1 h
          have ha : joinA (ux, uy, ut, uf) (X, Y, t, f) = ((jx, jy, jt, jf), true) := by rw [← HJ.out]; exact if_pos ⟨hgu, hgn, by rw [HJ.out]; exact hj⟩
          rw [HV.out, standM_snoc, HN.out]
          simp [spotN, ha]
        · have hj : ¬ GoodS (jx, jy, jt, jf) := fun hh => by rw [(goodS_iff _).2 hh] at h; cases h
          have ha : joinA (ux, uy, ut, uf) (X, Y, t, f) = (s0, false) := if_neg (fun hh => hj (by rw [← HJ.out]; exact hh.2.2))
          rw [HV.out, standM_snoc, HN.out]
          simp [spotN, ha]
        · have kk := HK.out.trans hkW
          (repeat (first | with_reducible exact kk | with_reducible apply But.drewN | with_reducible apply But.drew | with_reducible apply But.alloc | (with_reducible refine But.setNew ?_ (by simp) _)))
      · refine forgetX (fun w' => w'.cell? ⟨w1.heap.size + 1, 0, none⟩ = some (.int .i64 jx) ∧ w'.cell? ⟨w1.heap.size + 1, 1, none⟩ = some (.int .i64 jy) ∧ w'.cell? ⟨w1.heap.size + 1, 2, none⟩ = some (.int .i64 jt) ∧ w'.cell? ⟨w1.heap.size + 1, 3, none⟩ = some (.bool jf) ∧ w1.heap.size < w1.heap.size + 1 ∧ w1.heap.size + 1 < w'.heap.size ∧ Kept w1 w') ⟨by simp [go_sem, *], by simp [go_sem, *], by simp [go_sem, *], by simp [go_sem, *], by simp +arith, by simp +arith, by (repeat (first | with_reducible exact But.refl _ _ _ | with_reducible apply But.drewN | with_reducible apply But.drew | with_reducible apply But.alloc | (with_reducible refine But.setNew ?_ (by simp; try omega) _)))⟩ ?_
        rintro W1 ⟨r0, r1, r2, r3, hlt', hgl, hkW⟩
        generalize w1.heap.size + 1 = g1 at r0 r1 r2 r3 hlt' hgl ⊢
        have Lr := HL.out.kept hkW
        have p0 := Lr.cell 0 rfl
        have p1 := Lr.cell 1 rfl
        have p2 := Lr.cell 2 rfl
        have p3 := Lr.cell 3 rfl
        have z0 := Lr.frozen 0
        have z1 := Lr.frozen 1
        have z2 := Lr.frozen 2
        have z3 := Lr.frozen 3
        have hlw := Lr.lt
        clear Lr
        have hne : w.heap.size ≠ g1 := by omega
        have hne' : g1 ≠ w.heap.size := by omega
        repeat (first | go_values | go_skip | go_guarded | go_step | go_upon)
        go_region_held3 (fun w' => w'.cell? ⟨g1, 0, none⟩ = some (.int .i64 jx) ∧ w'.cell? ⟨g1, 1, none⟩ = some (.int .i64 jy) ∧ w'.cell? ⟨g1, 2, none⟩ = some (.int .i64 jt) ∧ w'.cell? ⟨g1, 3, none⟩ = some (.bool jf)) (simp [go_sem, *])
          (first | (go_at_call 41; refine (sgood _ _ _ _ _).mono ?_; rintro e w' ⟨rfl, rfl⟩))
        repeat (first | go_values | go_skip | go_guarded | go_step | go_upon)
        refine bodyPost_ret (v := .tuple #[sv (jx, jy, jt, jf), .bool (goodS (jx, jy, jt, jf))]) (by simp [results, Try.results49, go_sem, *]) rfl ?_
        refine ⟨⟨(jx, jy, jt, jf), goodS (jx, jy, jt, jf), rfl, fun h => ?_, fun h => ?_⟩, ?_⟩
        · have hj := (goodS_iff _).1 h
          have ha : joinA (ux, uy, ut, uf) (X, Y, t, f) = ((jx, jy, jt, jf), true) := by rw [← HJ.out]; exact if_pos ⟨hgu, hgn, by rw [HJ.out]; exact hj⟩
          rw [HV.out, standM_snoc, HN.out]
          simp [spotN, ha]
        · have hj : ¬ GoodS (jx, jy, jt, jf) := fun hh => by rw [(goodS_iff _).2 hh] at h; cases h
          have ha : joinA (ux, uy, ut, uf) (X, Y, t, f) = (s0, false) := if_neg (fun hh => hj (by rw [← HJ.out]; exact hh.2.2))
          rw [HV.out, standM_snoc, HN.out]
          simp [spotN, ha]
        · have kk := HK.out.trans hkW
          (repeat (first | with_reducible exact kk | with_reducible apply But.drewN | with_reducible apply But.drew | with_reducible apply But.alloc | (with_reducible refine But.setNew ?_ (by simp) _)))
end Go.Proofs.Ytcljppnakmeldaa
