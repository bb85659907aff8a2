/-
  How a node stands in the whole scene, in the program.
-/
import Derived.Test.YtcljppnakmeldaaDown
import Derived.Test.YtcljppnakmeldaaGood
import Derived.Test.YtcljppnakmeldaaBack
namespace Go.Proofs.Ytcljppnakmeldaa
open Go.ChangeShapes Go.WideShapes Go.ChangeAt Go.RowKit

/-- The join of these spots, one behind the other, where all are good. -/
def standM : SpotD → List NodeD → Option SpotD
  | s, [] => some s
  | s, n :: r => if (joinA s (spotN n)).2 then standM (joinA s (spotN n)).1 r else none
theorem standM_snoc : ∀ (l : List NodeD) (s : SpotD) (n : NodeD), standM s (l ++ [n]) = (standM s l).bind fun u => if (joinA u (spotN n)).2 then some (joinA u (spotN n)).1 else none
  | [], s, n => by simp [standM]
  | m :: l, s, n => by
    simp only [List.cons_append, standM]
    split
    · exact standM_snoc l _ n
    · rfl
def standA (o : Option SpotD) : Value := match o with
  | some s => .tuple #[sv s, .bool true]
  | none => .tuple #[sv s0, .bool false]

theorem RowAt.but {w w' : World} {v : Value} {n : Nat} {xs : List Value} {lo hi : Nat} (h : RowAt w v n xs) (k : But lo hi w w') (hb : ∀ g, v.ownBlock = some g → g < lo ∨ hi ≤ g) : RowAt w' v n xs := by
  obtain ⟨ao, cap, rfl, hc⟩ := h
  refine ⟨ao, cap, rfl, fun j x hx => ?_⟩
  obtain ⟨b, o, rfl, h1⟩ := hc j x hx
  exact ⟨b, o, rfl, k.cell h1 (hb b rfl)⟩
theorem forget {P : Program} {C : Code} {Q : Exit → Act → World → Prop} {a : Act} {W : World} (F : World → Prop) (hF : F W) (h : ∀ W', F W' → Code.wp P C Q a W') : Code.wp P C Q a W := h W hF
theorem forgetX {K : Act → World → Prop} {Q : Exit → Act → World → Prop} {a : Act} {W : World} (F : World → Prop) (hF : F W) (h : ∀ W', F W' → Exit.then K Q Exit.normal a W') : Exit.then K Q Exit.normal a W := h W hF
theorem implJoinX (ax ay at' : Int) (af : Bool) (bx bY bt : Int) (bf : Bool) (j : SpotD × Bool) (hj : joinA (ax, ay, at', af) (bx, bY, bt, bf) = j) (w : World) : Calls Try.prog 15 #[.agg #[.int .i64 ax, .int .i64 ay, .int .i64 at', .bool af], .agg #[.int .i64 bx, .int .i64 bY, .int .i64 bt, .bool bf]] w fun e w' => e = .returned (.tuple #[sv j.1, .bool j.2]) ∧ Kept w w' := by
  rw [← hj]
  exact implJoin _ _ w

set_option maxRecDepth 100000 in
set_option maxHeartbeats 8000000 in
theorem standing (l : List NodeD) (v : Value) (a : Int) (xs : List UpE) (hch : Chain l a xs) (w : World) (hv : NodeAt w v l) (hlen : xs.length ≤ 1048576) :
    Calls Try.prog 51 #[v, .int .i64 a] w fun e w' => e = .returned (standA (standM s0 (rows xs).reverse)) ∧ Kept w w' := by
  obtain ⟨ao, cap, hsl⟩ := row_nil hv
  subst hsl
  go_enter Try.func51, Try.ntmps51
  go_wp2_with fail
  go_at_call 70
  refine (downTo l _ a xs hch _ (hv.kept (((But.refl _ _ _).alloc _).alloc _)) hlen).mono ?_
  rintro e w1 ⟨v1, rfl, hat, hfr, k1⟩
  have Lr1 := ((Loc.new w [.int .i64 0, .int .i64 0, .int .i64 0, .bool false] 24).alloc (.cells #[.int .i64 0, .int .i64 0, .int .i64 0, .bool false] 24)).kept k1
  have Ls1 := (Loc.new (w.alloc (.cells #[.int .i64 0, .int .i64 0, .int .i64 0, .bool false] 24)) [.int .i64 0, .int .i64 0, .int .i64 0, .bool false] 24).kept k1
  simp only [World.size_alloc] at Ls1 hfr
  have kz : Kept w w1 := (((But.refl _ _ w).alloc _).alloc _).trans k1
  have hRl : (rows xs).reverse.length ≤ 1048576 := by simp [rows]; exact hlen
  obtain ⟨R, hR⟩ : ∃ R, (rows xs).reverse = R := ⟨_, rfl⟩
  rw [hR] at hat hRl
  have HR : Hid ((rows xs).reverse = R) := hR
  clear hR
  obtain ⟨ao1, cap1, hsl⟩ := row_nil hat
  subst hsl
  dsimp only
  clear k1
  go_wp2_with fail
  go_loopw [8, 9, 10, 15] (fun _ _ _ i wr => ∃ (k : Nat) (s : SpotD), k ≤ R.length ∧ i = .int .i64 k ∧ standM s (R.drop k) = standM s0 R ∧ Loc wr w.heap.size [.int .i64 0, .int .i64 0, .int .i64 0, .bool false] ∧ Loc wr (w.heap.size + 1) [.int .i64 s.1, .int .i64 s.2.1, .int .i64 s.2.2.1, .bool s.2.2.2] ∧ But w.heap.size (w.heap.size + 2) w1 wr ∧ Kept w wr) (fun _ _ _ i _ => R.length - (intOf i).toNat)
  case atStart => exact ⟨0, s0, by omega, rfl, rfl, Lr1, Ls1, But.refl _ _ _, kz⟩
  case round =>
    obtain ⟨k, ⟨sx, sy, st, sf⟩, hk, rfl, hm, hLr, hLs, hB1, hKw⟩ := hrel
    dsimp only at hLs
    clear Lr1 Ls1 kz
    by_cases hlt : k < R.length
    · obtain ⟨⟨nm, up, x, y, t, f⟩, hp⟩ : ∃ p, R[k]? = some p := ⟨_, List.getElem?_eq_getElem hlt⟩
      obtain ⟨b, o, cap2, e, c0, c1, c2, c3, c4, c5⟩ := node_get (RowAt.but hat hB1 (fun g hg => .inr (hfr g hg))) hp
      cases e
      dsimp only at c0 c1 c2 c3 c4 c5
      have hdr : R.drop k = (nm, up, x, y, t, f) :: R.drop (k + 1) := by
        rw [List.drop_eq_getElem_cons hlt]
        congr 1
        exact Option.some.inj ((List.getElem?_eq_getElem hlt).symm.trans hp)
      obtain ⟨⟨⟨jx, jy, jt, jf⟩, jb⟩, hJ⟩ : ∃ j, joinA (sx, sy, st, sf) (x, y, t, f) = j := ⟨_, rfl⟩
      have s0' := hLs.cell 0 rfl
      have s1' := hLs.cell 1 rfl
      have s2' := hLs.cell 2 rfl
      have s3' := hLs.cell 3 rfl
      have hw1 := hLs.lt
      have hw0 : w.heap.size < wr.heap.size := by omega
      have HJ : Hid (joinA (sx, sy, st, sf) (x, y, t, f) = ((jx, jy, jt, jf), jb)) := hJ
      have HM : Hid (standM (sx, sy, st, sf) (R.drop k) = standM s0 R ∧ R.drop k = (nm, up, x, y, t, f) :: R.drop (k + 1)) := ⟨hm, hdr⟩
      have HL : Hid (Loc wr w.heap.size [.int .i64 0, .int .i64 0, .int .i64 0, .bool false] ∧ Loc wr (w.heap.size + 1) [.int .i64 sx, .int .i64 sy, .int .i64 st, .bool sf]) := ⟨hLr, hLs⟩
      have HM2 : Hid (But w.heap.size (w.heap.size + 2) w1 wr ∧ Kept w wr) := ⟨hB1, hKw⟩
      clear hm hLr hLs hB1 hKw hdr hJ hp hat hch hv hfr
      repeat (first | go_values | go_skip | go_guarded | go_step | go_upon)
      clear c0 c1 c2 c3 c4 c5
      go_region_held3 (fun w' => w'.cell? ⟨w.heap.size + 1, 0, none⟩ = some (.int .i64 sx) ∧ w'.cell? ⟨w.heap.size + 1, 1, none⟩ = some (.int .i64 sy) ∧ w'.cell? ⟨w.heap.size + 1, 2, none⟩ = some (.int .i64 st) ∧ w'.cell? ⟨w.heap.size + 1, 3, none⟩ = some (.bool sf) ∧ w'.cell? ⟨wr.heap.size, 0, none⟩ = some (.string nm) ∧ w'.cell? ⟨wr.heap.size, 1, none⟩ = some (.int .i64 up) ∧ w'.cell? ⟨wr.heap.size, 2, none⟩ = some (.int .i64 x) ∧ w'.cell? ⟨wr.heap.size, 3, none⟩ = some (.int .i64 y) ∧ w'.cell? ⟨wr.heap.size, 4, none⟩ = some (.int .i64 t) ∧ w'.cell? ⟨wr.heap.size, 5, none⟩ = some (.bool f)) (simp [go_sem, *])
        (first | (go_at_call 57; refine (ownSpotK (nm, up, x, y, t, f) _).mono ?_; rintro e w0 ⟨rfl, k0⟩; have hc0 := k0.cell_eq; have hf0 := k0.frozen_eq; have hz0 := k0.size; (try simp at hz0); have n0 : w.heap.size < w0.heap.size := (by omega); have n1 : w.heap.size + 1 < w0.heap.size := (by omega); have n2 : wr.heap.size < w0.heap.size := (by omega); have kw0 : Kept wr w0 := (But.trans (by (repeat (first | with_reducible exact But.refl _ _ _ | with_reducible apply But.drewN | with_reducible apply But.drew | with_reducible apply But.alloc | (with_reducible refine But.setNew ?_ (by simp; try omega) _)))) k0); (try have n3 : wr.heap.size + 1 < w0.heap.size := (by omega)))
               | (go_at_call 15; refine (implJoinX _ _ _ _ _ _ _ _ _ HJ.out _).mono ?_; rintro e w2 ⟨rfl, k2⟩; have hc2 := k2.cell_eq; have hf2 := k2.frozen_eq; have hz2 := k2.size; (try simp at hz2); have m0 : w.heap.size < w2.heap.size := (by omega); have m1 : w.heap.size + 1 < w2.heap.size := (by omega); have m2 : wr.heap.size < w2.heap.size := (by omega); have kw1 : Kept wr w2 := (But.trans (by (repeat (first | with_reducible exact kw0 | with_reducible apply But.drewN | with_reducible apply But.drew | with_reducible apply But.alloc | (with_reducible refine But.setNew ?_ (by simp; try omega) _)))) k2); (try have m3 : wr.heap.size + 1 < w2.heap.size := (by omega)); (try have m4 : w0.heap.size < w2.heap.size := (by omega)); (try have ya0 : (w2.cell? ⟨w0.heap.size, 0, none⟩).isSome = true := (by first | (simp [go_sem, *]; done) | fail)); (try have ya1 : (w2.cell? ⟨w0.heap.size, 1, none⟩).isSome = true := (by first | (simp [go_sem, *]; done) | fail)); (try have ya2 : (w2.cell? ⟨w0.heap.size, 2, none⟩).isSome = true := (by first | (simp [go_sem, *]; done) | fail)); (try have ya3 : (w2.cell? ⟨w0.heap.size, 3, none⟩).isSome = true := (by first | (simp [go_sem, *]; done) | fail)); (try have yb0 : (w2.cell? ⟨wr.heap.size + 1, 0, none⟩).isSome = true := (by first | (simp [go_sem, *]; done) | fail)); (try have yb1 : (w2.cell? ⟨wr.heap.size + 1, 1, none⟩).isSome = true := (by first | (simp [go_sem, *]; done) | fail)); (try have yb2 : (w2.cell? ⟨wr.heap.size + 1, 2, none⟩).isSome = true := (by first | (simp [go_sem, *]; done) | fail)); (try have yb3 : (w2.cell? ⟨wr.heap.size + 1, 3, none⟩).isSome = true := (by first | (simp [go_sem, *]; done) | fail))))
      · refine forgetX (fun w' => w'.cell? ⟨w.heap.size + 1, 0, none⟩ = some (.int .i64 sx) ∧ w'.cell? ⟨w.heap.size + 1, 1, none⟩ = some (.int .i64 sy) ∧ w'.cell? ⟨w.heap.size + 1, 2, none⟩ = some (.int .i64 st) ∧ w'.cell? ⟨w.heap.size + 1, 3, none⟩ = some (.bool sf) ∧ w'.cell? ⟨w2.heap.size, 0, none⟩ = some (.int .i64 jx) ∧ w'.cell? ⟨w2.heap.size, 1, none⟩ = some (.int .i64 jy) ∧ w'.cell? ⟨w2.heap.size, 2, none⟩ = some (.int .i64 jt) ∧ w'.cell? ⟨w2.heap.size, 3, none⟩ = some (.bool jf) ∧ wr.heap.size < w2.heap.size ∧ w2.heap.size < w'.heap.size ∧ Kept wr w') ⟨by simp [go_sem, *], by simp [go_sem, *], by simp [go_sem, *], by simp [go_sem, *], by simp [go_sem, *], by simp [go_sem, *], by simp [go_sem, *], by simp [go_sem, *], m2, by simp, by (repeat (first | with_reducible exact kw1 | with_reducible apply But.drewN | with_reducible apply But.drew | with_reducible apply But.alloc | (with_reducible refine But.setNew ?_ (by simp; try omega) _)))⟩ ?_
        try clear n3
        try clear m3
        try clear m4
        clear hc0 hf0 hz0 n0 n1 n2 kw0 k0 hc2 hf2 hz2 m0 m1 m2 kw1 k2
        rintro W1 ⟨s0', s1', s2', s3', r0, r1, r2, r3, hlt', hgl, hkW⟩
        generalize w2.heap.size = g1 at r0 r1 r2 r3 hlt' hgl ⊢
        have Lr := HL.out.1.kept hkW
        have Ls := HL.out.2.kept hkW
        have p0 := Lr.cell 0 rfl
        have p1 := Lr.cell 1 rfl
        have p2 := Lr.cell 2 rfl
        have p3 := Lr.cell 3 rfl
        have z0 := Lr.frozen 0
        have z1 := Lr.frozen 1
        have z2 := Lr.frozen 2
        have z3 := Lr.frozen 3
        have y0 := Ls.frozen 0
        have y1 := Ls.frozen 1
        have y2 := Ls.frozen 2
        have y3 := Ls.frozen 3
        cases jb with
        | false =>
          repeat (first | go_values | go_skip | go_guarded | go_step | go_upon)
          refine bodyPost_ret (v := .tuple #[sv s0, .bool false]) (by simp [results, Try.results51, go_sem, s0, *]) rfl ?_
          refine ⟨?_, ?_⟩
          · rw [HR.out, ← HM.out.1, HM.out.2]
            simp [standM, HJ.out, standA, spotN]
          · have kk := HM2.out.2.trans hkW
            (repeat (first | with_reducible exact kk | (with_reducible refine But.setNew ?_ (by simp) _)))
        | true =>
          repeat (first | go_values | go_skip | go_guarded | go_step | go_upon)
          have Ls' := (((Ls.set 0 (.int .i64 jx)).set 1 (.int .i64 jy)).set 2 (.int .i64 jt)).set 3 (.bool jf)
          have Lr' := (((Lr.other (b' := w.heap.size + 1) (j := 0) (by omega) (.int .i64 jx)).other (b' := w.heap.size + 1) (j := 1) (by omega) (.int .i64 jy)).other (b' := w.heap.size + 1) (j := 2) (by omega) (.int .i64 jt)).other (b' := w.heap.size + 1) (j := 3) (by omega) (.bool jf)
          have hB : But w.heap.size (w.heap.size + 2) w1 ((((W1.setCell ⟨w.heap.size + 1, 0, none⟩ (.int .i64 jx)).setCell ⟨w.heap.size + 1, 1, none⟩ (.int .i64 jy)).setCell ⟨w.heap.size + 1, 2, none⟩ (.int .i64 jt)).setCell ⟨w.heap.size + 1, 3, none⟩ (.bool jf)) :=
            ((((HM2.out.1.transK hkW).setCell (by simp) (by simp) _).setCell (by simp) (by simp) _).setCell (by simp) (by simp) _).setCell (by simp) (by simp) _
          have hKw : Kept w ((((W1.setCell ⟨w.heap.size + 1, 0, none⟩ (.int .i64 jx)).setCell ⟨w.heap.size + 1, 1, none⟩ (.int .i64 jy)).setCell ⟨w.heap.size + 1, 2, none⟩ (.int .i64 jt)).setCell ⟨w.heap.size + 1, 3, none⟩ (.bool jf)) :=
            ((((HM2.out.2.trans hkW).setNew (by simp) _).setNew (by simp) _).setNew (by simp) _).setNew (by simp) _
          refine ⟨⟨k + 1, (jx, jy, jt, jf), hlt, by go_num, ?_, Lr', Ls', hB, hKw⟩, by simp [intOf]; omega⟩
          rw [← HM.out.1, HM.out.2]
          simp [standM, HJ.out, spotN]
      · refine forgetX (fun w' => w'.cell? ⟨w.heap.size + 1, 0, none⟩ = some (.int .i64 sx) ∧ w'.cell? ⟨w.heap.size + 1, 1, none⟩ = some (.int .i64 sy) ∧ w'.cell? ⟨w.heap.size + 1, 2, none⟩ = some (.int .i64 st) ∧ w'.cell? ⟨w.heap.size + 1, 3, none⟩ = some (.bool sf) ∧ w'.cell? ⟨w0.heap.size, 0, none⟩ = some (.int .i64 jx) ∧ w'.cell? ⟨w0.heap.size, 1, none⟩ = some (.int .i64 jy) ∧ w'.cell? ⟨w0.heap.size, 2, none⟩ = some (.int .i64 jt) ∧ w'.cell? ⟨w0.heap.size, 3, none⟩ = some (.bool jf) ∧ wr.heap.size < w0.heap.size ∧ w0.heap.size < w'.heap.size ∧ Kept wr w') ⟨by simp [go_sem, *], by simp [go_sem, *], by simp [go_sem, *], by simp [go_sem, *], by simp [go_sem, *], by simp [go_sem, *], by simp [go_sem, *], by simp [go_sem, *], n2, by simp; omega, by (repeat (first | with_reducible exact kw1 | with_reducible apply But.drewN | with_reducible apply But.drew | with_reducible apply But.alloc | (with_reducible refine But.setNew ?_ (by simp; try omega) _)))⟩ ?_
        try clear n3
        try clear m3
        try clear m4
        clear hc0 hf0 hz0 n0 n1 n2 kw0 k0 hc2 hf2 hz2 m0 m1 m2 kw1 k2
        rintro W1 ⟨s0', s1', s2', s3', r0, r1, r2, r3, hlt', hgl, hkW⟩
        generalize w0.heap.size = g1 at r0 r1 r2 r3 hlt' hgl ⊢
        have Lr := HL.out.1.kept hkW
        have Ls := HL.out.2.kept hkW
        have p0 := Lr.cell 0 rfl
        have p1 := Lr.cell 1 rfl
        have p2 := Lr.cell 2 rfl
        have p3 := Lr.cell 3 rfl
        have z0 := Lr.frozen 0
        have z1 := Lr.frozen 1
        have z2 := Lr.frozen 2
        have z3 := Lr.frozen 3
        have y0 := Ls.frozen 0
        have y1 := Ls.frozen 1
        have y2 := Ls.frozen 2
        have y3 := Ls.frozen 3
        cases jb with
        | false =>
          repeat (first | go_values | go_skip | go_guarded | go_step | go_upon)
          refine bodyPost_ret (v := .tuple #[sv s0, .bool false]) (by simp [results, Try.results51, go_sem, s0, *]) rfl ?_
          refine ⟨?_, ?_⟩
          · rw [HR.out, ← HM.out.1, HM.out.2]
            simp [standM, HJ.out, standA, spotN]
          · have kk := HM2.out.2.trans hkW
            (repeat (first | with_reducible exact kk | (with_reducible refine But.setNew ?_ (by simp) _)))
        | true =>
          repeat (first | go_values | go_skip | go_guarded | go_step | go_upon)
          have Ls' := (((Ls.set 0 (.int .i64 jx)).set 1 (.int .i64 jy)).set 2 (.int .i64 jt)).set 3 (.bool jf)
          have Lr' := (((Lr.other (b' := w.heap.size + 1) (j := 0) (by omega) (.int .i64 jx)).other (b' := w.heap.size + 1) (j := 1) (by omega) (.int .i64 jy)).other (b' := w.heap.size + 1) (j := 2) (by omega) (.int .i64 jt)).other (b' := w.heap.size + 1) (j := 3) (by omega) (.bool jf)
          have hB : But w.heap.size (w.heap.size + 2) w1 ((((W1.setCell ⟨w.heap.size + 1, 0, none⟩ (.int .i64 jx)).setCell ⟨w.heap.size + 1, 1, none⟩ (.int .i64 jy)).setCell ⟨w.heap.size + 1, 2, none⟩ (.int .i64 jt)).setCell ⟨w.heap.size + 1, 3, none⟩ (.bool jf)) :=
            ((((HM2.out.1.transK hkW).setCell (by simp) (by simp) _).setCell (by simp) (by simp) _).setCell (by simp) (by simp) _).setCell (by simp) (by simp) _
          have hKw : Kept w ((((W1.setCell ⟨w.heap.size + 1, 0, none⟩ (.int .i64 jx)).setCell ⟨w.heap.size + 1, 1, none⟩ (.int .i64 jy)).setCell ⟨w.heap.size + 1, 2, none⟩ (.int .i64 jt)).setCell ⟨w.heap.size + 1, 3, none⟩ (.bool jf)) :=
            ((((HM2.out.2.trans hkW).setNew (by simp) _).setNew (by simp) _).setNew (by simp) _).setNew (by simp) _
          refine ⟨⟨k + 1, (jx, jy, jt, jf), hlt, by go_num, ?_, Lr', Ls', hB, hKw⟩, by simp [intOf]; omega⟩
          rw [← HM.out.1, HM.out.2]
          simp [standM, HJ.out, spotN]
      · refine forgetX (fun w' => w'.cell? ⟨w.heap.size + 1, 0, none⟩ = some (.int .i64 sx) ∧ w'.cell? ⟨w.heap.size + 1, 1, none⟩ = some (.int .i64 sy) ∧ w'.cell? ⟨w.heap.size + 1, 2, none⟩ = some (.int .i64 st) ∧ w'.cell? ⟨w.heap.size + 1, 3, none⟩ = some (.bool sf) ∧ w'.cell? ⟨wr.heap.size + 1, 0, none⟩ = some (.int .i64 jx) ∧ w'.cell? ⟨wr.heap.size + 1, 1, none⟩ = some (.int .i64 jy) ∧ w'.cell? ⟨wr.heap.size + 1, 2, none⟩ = some (.int .i64 jt) ∧ w'.cell? ⟨wr.heap.size + 1, 3, none⟩ = some (.bool jf) ∧ wr.heap.size < wr.heap.size + 1 ∧ wr.heap.size + 1 < w'.heap.size ∧ Kept wr w') ⟨by simp [go_sem, *], by simp [go_sem, *], by simp [go_sem, *], by simp [go_sem, *], by simp [go_sem, *], by simp [go_sem, *], by simp [go_sem, *], by simp [go_sem, *], by simp +arith, by simp; omega, by (repeat (first | with_reducible exact kw1 | with_reducible apply But.drewN | with_reducible apply But.drew | with_reducible apply But.alloc | (with_reducible refine But.setNew ?_ (by simp; try omega) _)))⟩ ?_
        try clear n3
        try clear m3
        try clear m4
        clear hc0 hf0 hz0 n0 n1 n2 kw0 k0 hc2 hf2 hz2 m0 m1 m2 kw1 k2
        rintro W1 ⟨s0', s1', s2', s3', r0, r1, r2, r3, hlt', hgl, hkW⟩
        generalize wr.heap.size + 1 = g1 at r0 r1 r2 r3 hlt' hgl ⊢
        have Lr := HL.out.1.kept hkW
        have Ls := HL.out.2.kept hkW
        have p0 := Lr.cell 0 rfl
        have p1 := Lr.cell 1 rfl
        have p2 := Lr.cell 2 rfl
        have p3 := Lr.cell 3 rfl
        have z0 := Lr.frozen 0
        have z1 := Lr.frozen 1
        have z2 := Lr.frozen 2
        have z3 := Lr.frozen 3
        have y0 := Ls.frozen 0
        have y1 := Ls.frozen 1
        have y2 := Ls.frozen 2
        have y3 := Ls.frozen 3
        cases jb with
        | false =>
          repeat (first | go_values | go_skip | go_guarded | go_step | go_upon)
          refine bodyPost_ret (v := .tuple #[sv s0, .bool false]) (by simp [results, Try.results51, go_sem, s0, *]) rfl ?_
          refine ⟨?_, ?_⟩
          · rw [HR.out, ← HM.out.1, HM.out.2]
            simp [standM, HJ.out, standA, spotN]
          · have kk := HM2.out.2.trans hkW
            (repeat (first | with_reducible exact kk | (with_reducible refine But.setNew ?_ (by simp) _)))
        | true =>
          repeat (first | go_values | go_skip | go_guarded | go_step | go_upon)
          have Ls' := (((Ls.set 0 (.int .i64 jx)).set 1 (.int .i64 jy)).set 2 (.int .i64 jt)).set 3 (.bool jf)
          have Lr' := (((Lr.other (b' := w.heap.size + 1) (j := 0) (by omega) (.int .i64 jx)).other (b' := w.heap.size + 1) (j := 1) (by omega) (.int .i64 jy)).other (b' := w.heap.size + 1) (j := 2) (by omega) (.int .i64 jt)).other (b' := w.heap.size + 1) (j := 3) (by omega) (.bool jf)
          have hB : But w.heap.size (w.heap.size + 2) w1 ((((W1.setCell ⟨w.heap.size + 1, 0, none⟩ (.int .i64 jx)).setCell ⟨w.heap.size + 1, 1, none⟩ (.int .i64 jy)).setCell ⟨w.heap.size + 1, 2, none⟩ (.int .i64 jt)).setCell ⟨w.heap.size + 1, 3, none⟩ (.bool jf)) :=
            ((((HM2.out.1.transK hkW).setCell (by simp) (by simp) _).setCell (by simp) (by simp) _).setCell (by simp) (by simp) _).setCell (by simp) (by simp) _
          have hKw : Kept w ((((W1.setCell ⟨w.heap.size + 1, 0, none⟩ (.int .i64 jx)).setCell ⟨w.heap.size + 1, 1, none⟩ (.int .i64 jy)).setCell ⟨w.heap.size + 1, 2, none⟩ (.int .i64 jt)).setCell ⟨w.heap.size + 1, 3, none⟩ (.bool jf)) :=
            ((((HM2.out.2.trans hkW).setNew (by simp) _).setNew (by simp) _).setNew (by simp) _).setNew (by simp) _
          refine ⟨⟨k + 1, (jx, jy, jt, jf), hlt, by go_num, ?_, Lr', Ls', hB, hKw⟩, by simp [intOf]; omega⟩
          rw [← HM.out.1, HM.out.2]
          simp [standM, HJ.out, spotN]
    · have hke : k = R.length := by omega
      subst hke
      have s0' := hLs.cell 0 rfl
      have s1' := hLs.cell 1 rfl
      have s2' := hLs.cell 2 rfl
      have s3' := hLs.cell 3 rfl
      have p0 := hLr.cell 0 rfl
      have p1 := hLr.cell 1 rfl
      have p2 := hLr.cell 2 rfl
      have p3 := hLr.cell 3 rfl
      have z0 := hLr.frozen 0
      have z1 := hLr.frozen 1
      have z2 := hLr.frozen 2
      have z3 := hLr.frozen 3
      have HM : Hid _ := hm
      have HK : Hid (Kept w wr) := hKw
      clear hm hKw
      repeat (first | go_values | go_skip | go_guarded | go_step | go_upon)
      refine bodyPost_ret (v := .tuple #[sv (sx, sy, st, sf), .bool true]) (by simp [results, Try.results51, go_sem, *]) rfl ?_
      refine ⟨?_, ?_⟩
      · rw [HR.out, ← HM.out]
        simp [standM, standA]
      · have kk := HK.out
        (repeat (first | with_reducible exact kk | (with_reducible refine But.setNew ?_ (by simp) _)))
end Go.Proofs.Ytcljppnakmeldaa
