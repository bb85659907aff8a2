/-
  What the program's StepCloud answers.
-/
import Derived.Test.YtpeiblodefaajaaDoorBorn12
import Derived.Maps.AppendAt
namespace Go.Proofs.YtpeiblodefaajaaDoor
open Go.ChangeShapes Go.WideShapes Go.ChangeAt Go.RowKit

set_option maxRecDepth 100000
set_option linter.unusedVariables false
theorem cloud_zero (w : World) (lo hi : Nat) : CloudO w lo hi (.agg #[.int .i64 0, .int .i64 0, .slice none 0 0]) c0 := ⟨_, rfl, spark_nil _ _ _⟩

/-- append onto a row of its own, as one step of a region that draws, with where it lies then. -/
theorem step_append_at {P : Program} {ops : Array Oper} {o : Oper} {a : Act} {w : World} {K : Act → World → Prop} {Q : Exit → Act → World → Prop} {E : Prop}
    (hg : o.guard = none) (s x : Operand) (t : TypeId) (hop : o.op = Op.call { callee := Callee.builtin Builtin.append, args := #[s, x], argTypes := #[t, t] })
    (base : Nat) (e : TypeId) (i : TypeInfo) (z : Value) (size bytes : Nat) (ht : P.underlying t = some (.slice e)) (hi : P.info? e = some i) (hz : i.zero = some z)
    (hsize : i.size = size) (hby : i.bytes = bytes) (hzs : z.cells.size = size) (hsz : 0 < size)
    (v : Value) (n : Nat) (xs : List Value) (hs : a.eval s = v) (hown : w.ownsRow base e size v n xs)
    (ad : Addr) (m c : Nat) (news : List Value) (hx : a.eval x = .slice (some ad) m c) (hl : news.length = m * size) (hnews : ∀ j u, news[j]? = some u → w.cell? (ad.add j) = some u) (h1 : ∀ u ∈ news, u.oneCell' = true)
    (h63 : n + m ≤ maxLen) (hbytes : (n + m) * bytes ≤ 140737488355328) (hbase : base ≤ w.heap.size)
    (h : ∀ v' w', w'.ownsRow base e size v' (n + m) (xs ++ news) → w.grownBy w' v.ownBlock → (v'.ownBlock = v.ownBlock ∨ v'.ownBlock = some w.heap.size) → K (a.put o.dst v') w') :
    if Region.wanted o (yielded ops a.tmps) = true then Oper.wp P o a w K Q else E := by
  have hw : Region.wanted o (yielded ops a.tmps) = true := by simp [Region.wanted, hg]
  rw [if_pos hw]
  obtain ⟨v', w', hr, h2, h3, -, h5⟩ := run_append_own_at (P := P) w base t o.type e i z size bytes ht hi hz hsize hby hzs hsz v n xs hown ad m c news hl hnews h1 h63 hbytes hbase
  unfold Oper.wp execOp
  simp only [hop, resolve, invoke, builtin, Sem.run_bind, Sem.run_pure, Result.andThen_ok, List.map_toArray, List.map_cons, List.map_nil, hs, hx, hr]
  exact h v' w' h2 h3 h5
theorem SparkO.apart {w w' : World} {lo hi g : Nat} {v : Value} {l : List SparkD} {cs : List Value} (h : SparkO w lo hi v l) (L : Loc w g cs) (hc : cs.length % 5 ≠ 0) (k : But g (g + 1) w w') : SparkO w' lo hi v l := by
  refine ⟨own_but h.1 k (fun b e => ?_), h.2⟩
  rcases h.1.2 with ⟨hv, _⟩ | ⟨g', cap', cur, hv, _, hg', _, _, hsz, _⟩
  · rw [hv] at e; simp [Value.ownBlock] at e
  · rw [hv] at e
    simp [Value.ownBlock] at e
    subst e
    obtain ⟨t, ht⟩ := L
    by_cases hne : g' = g
    · subst hne
      rw [hg'] at ht
      cases ht
      exfalso
      simp at hsz
      omega
    · omega
theorem own_len {W : World} {lo hi n : Nat} {v : Value} {l : List SparkD} (h : l.length = n) (ho : SparkO W lo hi v l) : W.ownsRow lo 66 5 v n (l.flatMap sparkC) := by subst h; exact ho.1
theorem SparkO.not_block {w : World} {lo hi g : Nat} {v : Value} {l : List SparkD} {cs : List Value} (h : SparkO w lo hi v l) (L : Loc w g cs) (hc : cs.length % 5 ≠ 0) : v.ownBlock ≠ some g := by
  intro e
  rcases h.1.2 with ⟨hv, _⟩ | ⟨g', cap', cur, hv, _, hg', _, _, hsz, _⟩
  · rw [hv] at e; simp [Value.ownBlock] at e
  · rw [hv] at e
    simp [Value.ownBlock] at e
    subst e
    obtain ⟨t, ht⟩ := L
    rw [hg'] at ht
    cases ht
    simp at hsz
    omega
theorem wp_cutS {P : Program} {C : Code} {Q : Exit → Act → World → Prop} {a : Act} {w : World} {A : Nat → Nat → Nat → Act} (F : Nat → Nat → Nat → World → Prop)
    (h : C.wp P (fun x a' w' => x = .normal ∧ ∃ g G cap, a' = A g G cap ∧ F g G cap w') a w) (hq : ∀ g G cap w', F g G cap w' → Q .normal (A g G cap) w') : C.wp P Q a w :=
  wp_mono h fun e a' w' ⟨he, g, G, cap, ha, hF⟩ => by subst he; subst ha; exact hq g G cap w' hF

set_option maxHeartbeats 8000000 in
theorem istep (x y ev bu li sv fa sd st : Int) (ps : List SparkD) (ao : Option Addr) (cap : Nat) (w : World) (hT : Tab w) (hv : SparkAt w (.slice ao ps.length cap) ps) (hn : ps.length ≤ 1048576) :
    Calls Tryd.prog 18 #[.agg #[.int .i64 x, .int .i64 y, .int .i64 ev, .int .i64 bu, .int .i64 li, .int .i64 sv, .int .i64 fa], .agg #[.int .i64 sd, .int .i64 st, .slice ao ps.length cap]] w fun r w' => ∃ v', r = .returned (.tuple #[v', .bool (stepA (x, y, ev, bu, li, sv, fa) (sd, st, ps)).2]) ∧ CloudO w' w.heap.size w'.heap.size v' (stepA (x, y, ev, bu, li, sv, fa) (sd, st, ps)).1 ∧ Kept w w' := by
  have h00 := hT.size
  obtain ⟨W0, hW0⟩ : ∃ W, W = ((w.alloc (.cells #[.int .i64 x, .int .i64 y, .int .i64 ev, .int .i64 bu, .int .i64 li, .int .i64 sv, .int .i64 fa] 24)).alloc (.cells #[.int .i64 sd, .int .i64 st, .slice ao ps.length cap] 27)).alloc (.cells #[.int .i64 0, .int .i64 0, .slice none 0 0] 27) := ⟨_, rfl⟩
  have K0 : Kept w W0 := by rw [hW0]; exact (((But.refl _ _ _).alloc _).alloc _).alloc _
  have Le : Loc W0 w.heap.size [.int .i64 x, .int .i64 y, .int .i64 ev, .int .i64 bu, .int .i64 li, .int .i64 sv, .int .i64 fa] := by rw [hW0]; exact ((Loc.new w _ 24).alloc _).alloc _
  have Lc : Loc W0 (w.heap.size + 1) [.int .i64 sd, .int .i64 st, .slice ao ps.length cap] := by rw [hW0]; have := (Loc.new (w.alloc (.cells #[.int .i64 x, .int .i64 y, .int .i64 ev, .int .i64 bu, .int .i64 li, .int .i64 sv, .int .i64 fa] 24)) [.int .i64 sd, .int .i64 st, .slice ao ps.length cap] 27).alloc (.cells #[.int .i64 0, .int .i64 0, .slice none 0 0] 27); simpa using this
  have Lr : Loc W0 (w.heap.size + 1 + 1) [.int .i64 0, .int .i64 0, .slice none 0 0] := by rw [hW0]; have := Loc.new ((w.alloc (.cells #[.int .i64 x, .int .i64 y, .int .i64 ev, .int .i64 bu, .int .i64 li, .int .i64 sv, .int .i64 fa] 24)).alloc (.cells #[.int .i64 sd, .int .i64 st, .slice ao ps.length cap] 27)) [.int .i64 0, .int .i64 0, .slice none 0 0] 27; simpa using this
  have s0 : W0.heap.size = w.heap.size + 1 + 1 + 1 := by rw [hW0]; simp
  have HW0 : Hid (W0 = _) := hW0
  have HS0 : Hid (W0.heap.size = w.heap.size + 1 + 1 + 1) := s0
  clear hW0 s0
  obtain ⟨N, hN⟩ : ∃ N, (laterL fa ps).length = N := ⟨_, rfl⟩
  by_cases hE : EP (x, y, ev, bu, li, sv, fa)
  · have dE : decide (EmitP x y ev bu li sv fa) = true := decide_eq_true hE
    by_cases hC : CloudP (sd, st, ps)
    · have dC : decide (CloudP (sd, st, ps)) = true := decide_eq_true hC
      by_cases hM : st = 200
      · rw [stepA_no (fun h => h.2.2 hM)]
        have dM : (st == 200) = true := by simpa using hM
        have HM : Hid _ := hM
        clear hM
        have e0 := Le.cell 0 rfl
        have e1 := Le.cell 1 rfl
        have e2 := Le.cell 2 rfl
        have e3 := Le.cell 3 rfl
        have e4 := Le.cell 4 rfl
        have e5 := Le.cell 5 rfl
        have e6 := Le.cell 6 rfl
        go_enter Tryd.func18, Tryd.ntmps18
        repeat (first | rw [← HW0.out] | go_values | go_skip | go_guarded | go_step | go_upon)
        go_at_call 26
        refine (igoodE _ _ _ _ _ _ _ _).mono ?_
        rintro e u1 ⟨rfl, k1⟩
        rw [dE]
        have Le := Le.kept k1
        have Lc := Lc.kept k1
        have Lr := Lr.kept k1
        have K1 := K0.trans k1
        have s1 := k1.size
        clear k1 K0 e0 e1 e2 e3 e4 e5 e6
        have c0 := Lc.cell 0 rfl
        have c1 := Lc.cell 1 rfl
        have c2 := Lc.cell 2 rfl
        dsimp only
        repeat (first | go_values | go_skip | go_guarded | go_step | go_upon)
        go_at_call 27
        refine (igoodC _ _ _ _ _ _ (hv.kept K1) (by omega)).mono ?_
        rintro e u2 ⟨rfl, k2⟩
        rw [dC]
        have Le := Le.kept k2
        have Lc := Lc.kept k2
        have Lr := Lr.kept k2
        have K2 := K1.trans k2
        have s2 := k2.size
        clear k2 K1 c0 c1 c2
        have c0 := Lc.cell 0 rfl
        have c1 := Lc.cell 1 rfl
        have c2 := Lc.cell 2 rfl
        have r0 := Lr.cell 0 rfl
        have r1 := Lr.cell 1 rfl
        have r2 := Lr.cell 2 rfl
        have z0 := Lr.frozen 0
        have z1 := Lr.frozen 1
        have z2 := Lr.frozen 2
        dsimp only
        repeat (first | go_values | go_skip | go_guarded | go_step | go_upon)
        refine bodyPost_ret (v := .tuple #[.agg #[.int .i64 0, .int .i64 0, .slice none 0 0], .bool false]) (by simp [results, Tryd.results18, go_sem, *]) rfl ?_
        exact ⟨_, rfl, cloud_zero _ _ _, ((K2.setNew (by simp +arith) _).setNew (by simp +arith) _).setNew (by simp +arith) _⟩

      · have dM : (st == 200) = false := by simpa using hM
        have e0 := Le.cell 0 rfl
        have e1 := Le.cell 1 rfl
        have e2 := Le.cell 2 rfl
        have e3 := Le.cell 3 rfl
        have e4 := Le.cell 4 rfl
        have e5 := Le.cell 5 rfl
        have e6 := Le.cell 6 rfl
        go_enter Tryd.func18, Tryd.ntmps18
        repeat (first | rw [← HW0.out] | go_values | go_skip | go_guarded | go_step | go_upon)
        go_at_call 26
        refine (igoodE _ _ _ _ _ _ _ _).mono ?_
        rintro e u1 ⟨rfl, k1⟩
        rw [dE]
        have Le := Le.kept k1
        have Lc := Lc.kept k1
        have Lr := Lr.kept k1
        have K1 := K0.trans k1
        have s1 := k1.size
        clear k1 K0 e0 e1 e2 e3 e4 e5 e6
        have c0 := Lc.cell 0 rfl
        have c1 := Lc.cell 1 rfl
        have c2 := Lc.cell 2 rfl
        dsimp only
        repeat (first | go_values | go_skip | go_guarded | go_step | go_upon)
        go_at_call 27
        refine (igoodC _ _ _ _ _ _ (hv.kept K1) (by omega)).mono ?_
        rintro e u2 ⟨rfl, k2⟩
        rw [dC]
        have Le := Le.kept k2
        have Lc := Lc.kept k2
        have Lr := Lr.kept k2
        have K2 := K1.trans k2
        have s2 := k2.size
        clear k2 K1 c0 c1 c2
        have c0 := Lc.cell 0 rfl
        have c1 := Lc.cell 1 rfl
        have c2 := Lc.cell 2 rfl
        dsimp only
        repeat (first | go_values | go_skip | go_guarded | go_step | go_upon)

        have h60 := hC.2.2.1
        have hsp := hC.2.2.2
        have hfa : -1000000 ≤ fa ∧ fa ≤ 1000000 := hE.2.2.1
        have hst := hC.2.1
        dsimp only at h60 hsp hst
        have e6 := Le.cell 6 rfl
        have cl := Lc.lt
        have el := Le.lt
        have hL : (laterL fa ps).length = N := hN
        have hwst : IntKind.i64.wrap (st + 1) = st + 1 := by rw [IntWalk.i64_in _ (by omega)]
        apply wp_cutS (F := fun g G cap' W' => Loc W' g [.int .i64 sd, .int .i64 (st + 1), .slice (some ⟨G, 0, none⟩) N cap'] ∧ SparkO W' G (G + 1) (.slice (some ⟨G, 0, none⟩) N cap') (laterL fa ps) ∧ Kept u2 W' ∧ u2.heap.size ≤ g ∧ u2.heap.size ≤ G ∧ g ≠ G ∧ g < W'.heap.size ∧ G < W'.heap.size)
        · go_region_held3 (fun w' => w'.cell? ⟨w.heap.size + 1, 0, none⟩ = some (.int .i64 sd) ∧ w'.cell? ⟨w.heap.size + 1, 1, none⟩ = some (.int .i64 st) ∧ w'.cell? ⟨w.heap.size + 1, 2, none⟩ = some (.slice ao ps.length cap) ∧ w'.cell? ⟨w.heap.size, 6, none⟩ = some (.int .i64 fa)) (simp [go_sem, *])
            (first | (go_at_call 45; refine (isparksLater ps fa _ _ (hv.kept (But.trans K2 (by (repeat (first | with_reducible exact But.refl _ _ _ | with_reducible apply But.drewN | with_reducible apply But.drew | with_reducible apply But.alloc | (with_reducible refine But.setNew ?_ (by simp; try omega) _)))))) h60 hsp hfa).mono ?_; rintro e y1 ⟨cap3, rfl, o3, k3, l3⟩; have hc3 := k3.cell_eq; have hf3 := k3.frozen_eq; have hz3 := k3.size; (try simp at hz3); have kw : Kept u2 y1 := (But.trans (by (repeat (first | with_reducible exact But.refl _ _ _ | with_reducible apply But.drewN | with_reducible apply But.drew | with_reducible apply But.alloc | (with_reducible refine But.setNew ?_ (by simp; try omega) _)))) k3); have ca := Kept.cell kw c0; have cb := Kept.cell kw c1; have cc := Kept.cell kw c2; have ce := Kept.cell kw e6; have n1 : u2.heap.size < y1.heap.size := (by simp at l3; omega); have n2 : w.heap.size + 1 < y1.heap.size := (by omega); have n3 : w.heap.size < y1.heap.size := (by omega); (try have ya : (y1.cell? ⟨u2.heap.size, 0, none⟩).isSome = true := (by first | (simp [go_sem, *]; done) | fail)); (try have yb : (y1.cell? ⟨u2.heap.size, 1, none⟩).isSome = true := (by first | (simp [go_sem, *]; done) | fail)); (try have yc : (y1.cell? ⟨u2.heap.size, 2, none⟩).isSome = true := (by first | (simp [go_sem, *]; done) | fail)); (try have za : y1.frozen? ⟨u2.heap.size, 0, none⟩ = false := (by first | (simp [go_sem, *]; done) | fail)); (try have zb : y1.frozen? ⟨u2.heap.size, 1, none⟩ = false := (by first | (simp [go_sem, *]; done) | fail)); (try have zc : y1.frozen? ⟨u2.heap.size, 2, none⟩ = false := (by first | (simp [go_sem, *]; done) | fail)); rw [hL] at o3 ⊢))
          · obtain ⟨g0, hg0⟩ : ∃ G, G = y1.heap.size := ⟨_, rfl⟩
            obtain ⟨G0, hG0⟩ : ∃ G, G = u2.heap.size := ⟨_, rfl⟩
            rw [← hg0, ← hG0]
            refine ⟨rfl, g0, G0, cap3, rfl, ?_⟩
            subst hg0 hG0
            refine ⟨Loc.new y1 _ 27, SparkO.kept o3 ((But.refl _ _ _).alloc _), kw.alloc _, by omega, Nat.le_refl _, by omega, by simp, by simp; omega⟩
          · have L1 : Loc y1 u2.heap.size [.int .i64 0, .int .i64 0, .slice none 0 0] := ((Loc.new u2 [.int .i64 0, .int .i64 0, .slice none 0 0] 27).kept ((But.refl _ _ _).drew)).kept k3
            have B1 := (((But.refl u2.heap.size (u2.heap.size + 1) y1).setCell (p := ⟨u2.heap.size, 0, none⟩) (by simp) (by simp) (.int .i64 sd)).setCell (p := ⟨u2.heap.size, 1, none⟩) (by simp) (by simp) (.int .i64 (st + 1))).setCell (p := ⟨u2.heap.size, 2, none⟩) (by simp) (by simp) (.slice (some ⟨u2.heap.size + 1, 0, none⟩) N cap3)
            have o4 : SparkO y1 (u2.heap.size + 1) (u2.heap.size + 1 + 1) (.slice (some ⟨u2.heap.size + 1, 0, none⟩) N cap3) (laterL fa ps) := by simpa using o3
            obtain ⟨g0, hg0⟩ : ∃ G, G = u2.heap.size := ⟨_, rfl⟩
            obtain ⟨G0, hG0⟩ : ∃ G, G = u2.heap.size + 1 := ⟨_, rfl⟩
            rw [← hG0, ← hg0]
            refine ⟨rfl, g0, G0, cap3, rfl, ?_⟩
            subst hG0 hg0
            simp at l3
            refine ⟨((L1.set 0 _).set 1 _).set 2 _, o4.but B1 (by omega), But.onto kw B1 (Nat.le_refl _), Nat.le_refl _, by omega, by omega, by simp; omega, by simp; omega⟩
        rintro g G cap3 u3 ⟨Lt, o3, k3, hg1, hG1, hgG, hg2, hG2⟩
        have Le := Le.kept k3
        have Lc := Lc.kept k3
        have Lr := Lr.kept k3
        have K3 := K2.trans k3
        clear k3 e6 c0 c1 c2 cl el K2
        have c1 := Lc.cell 1 rfl
        have e2 := Le.cell 2 rfl
        have hev : 1 ≤ ev ∧ ev ≤ 200 := hE.2.2.2.1
        have dev : (ev == 0) = false := beq_eq_false_iff_ne.2 (by omega)
        by_cases hD : st % ev = 0
        · have dD : (st % ev == 0) = true := by simpa using hD
          have HD : Hid (st % ev = 0) := hD
          clear hD
          repeat (first | go_values | go_skip | go_guarded | go_step | go_upon)
          go_at_call 37
          refine (ifromL g _).mono ?_
          rintro e u4 ⟨rfl, Lb, k4⟩
          have Le := Le.kept k4
          have Lr := Lr.kept k4
          have Lt := Lt.kept k4
          have o4 := o3.kept k4
          have K4 := K3.trans k4
          have hT4 := hT.kept K4
          have hs4 := k4.size
          have hbl := Lb.lt
          clear k4 K3 c1 e2 o3 Lc
          have e3 := Le.cell 3 rfl
          have t2 := Lt.cell 2 rfl
          have hbu : 0 ≤ bu ∧ bu ≤ 20 := hE.2.2.2.2.1
          have hNb : N ≤ 60 := by have := laterL_len fa ps; omega
          obtain ⟨M, hMd⟩ : ∃ M, min bu.toNat (60 - N) = M := ⟨_, rfl⟩
          have hMm : (if (60 : Int) - (N : Int) < bu then 60 - (N : Int) else bu) = (M : Int) := by split <;> omega
          have HMB : Hid (manyB (x, y, ev, bu, li, sv, fa) (sd, st, ps) = M) := by
            show manyB (x, y, ev, bu, li, sv, fa) (sd, st, ps) = M
            rw [← hMd, ← hL]
            exact if_pos HD.out
          have hMN : N + M ≤ 60 := by omega
          have hM20 : M ≤ 20 := by omega
          dsimp only
          repeat (first | go_values | go_skip | go_guarded | go_step | go_upon)
          clear hMm hMd e3 t2
          have hsd := hC.1
          dsimp only at hsd
          have HL : Hid ((laterL fa ps).length = N) := hL
          have HLT : Hid _ := Lt
          have HO4 : Hid (SparkO u4 u2.heap.size u4.heap.size (.slice (some ⟨G, 0, none⟩) N cap3) (laterL fa ps)) := (o4.mono (by omega) (Nat.le_refl _)).low
          have hs0 := HS0.out
          have HEL : Hid (w.heap.size + 1 + 1 < u2.heap.size) := by show w.heap.size + 1 + 1 < u2.heap.size; omega
          clear hL hN o4 hs0
          go_loopw [48] (fun i wr => ∃ (k : Nat) (aq : Option Addr) (cq : Nat), k ≤ M ∧ i = .int .i64 k ∧ Loc wr g [.int .i64 (seedN sd k), .int .i64 (st + 1), .slice aq (N + k) cq] ∧ SparkO wr u2.heap.size wr.heap.size (.slice aq (N + k) cq) (laterL fa ps ++ bornL (x, y, ev, bu, li, sv, fa) sd k) ∧ Loc wr u3.heap.size [.pointer (some ⟨g, 0, none⟩)] ∧ Loc wr w.heap.size [.int .i64 x, .int .i64 y, .int .i64 ev, .int .i64 bu, .int .i64 li, .int .i64 sv, .int .i64 fa] ∧ Loc wr (w.heap.size + 1 + 1) [.int .i64 0, .int .i64 0, .slice none 0 0] ∧ Kept w wr) (fun i _ => M - (intOf i).toNat)
          case atStart => exact ⟨0, _, _, by omega, rfl, Lt, by simpa [bornL] using HO4.out, Lb, Le, Lr, K4⟩
          case round =>
            clear HLT HO4 Lt Lb Le Lr K4 hT4 hs4
            obtain ⟨k, aq, cq, hk, rfl, Lt, oq, Lb, Le, Lr, KQ⟩ := hrel
            have hTq := hT.kept KQ
            by_cases hlt : k < M
            · obtain ⟨B, hB⟩ : ∃ B, bornS (x, y, ev, bu, li, sv, fa) (seedN sd k) = B := ⟨_, rfl⟩
              have hsn := seedN_bd hsd k
              obtain ⟨i0, hi0, hz0, hz1, hz2⟩ := info_parts info_spark
              have t2 := Lt.cell 2 rfl
              have e0 := Le.cell 0 rfl
              have e1 := Le.cell 1 rfl
              have e2 := Le.cell 2 rfl
              have e3 := Le.cell 3 rfl
              have e4 := Le.cell 4 rfl
              have e5 := Le.cell 5 rfl
              have e6 := Le.cell 6 rfl
              have hxl := Lb.lt
              have hgl := Lt.lt
              have hel := Le.lt
              have HBN : Hid (bornS (x, y, ev, bu, li, sv, fa) (seedN sd k) = B) := hB
              have HLL : Hid ((laterL fa ps ++ bornL (x, y, ev, bu, li, sv, fa) sd k).length = N + k) := by
                show (laterL fa ps ++ bornL (x, y, ev, bu, li, sv, fa) sd k).length = N + k
                rw [List.length_append, HL.out, bornL_len]
              have HOQ : Hid (SparkO wr u2.heap.size wr.heap.size (.slice aq (N + k) cq) (laterL fa ps ++ bornL (x, y, ev, bu, li, sv, fa) sd k)) := oq
              have HKQ : Hid (Kept w wr) := KQ
              have hu2 := HEL.out
              have hwz : u2.heap.size ≤ wr.heap.size := by omega
              clear hB KQ oq
              repeat (first | go_values | go_skip | go_guarded | go_step | go_upon)
              go_region_law (first
                | (go_simp
                   go_at_call 46
                   refine (inew x y ev bu li sv fa u3.heap.size g (seedN sd k) [.int .i64 (st + 1), .slice aq (N + k) cq] _ hE hsn.1 hsn.2 (hTq.kept (by (repeat (first | with_reducible exact But.refl _ _ _ | with_reducible apply But.drewN | with_reducible apply But.drew)))) (by omega) (by omega) (Lb.kept (by (repeat (first | with_reducible exact But.refl _ _ _ | with_reducible apply But.drewN | with_reducible apply But.drew)))) (Lt.kept (by (repeat (first | with_reducible exact But.refl _ _ _ | with_reducible apply But.drewN | with_reducible apply But.drew))))).mono ?_
                   rintro e w9 ⟨rfl, L9, b9⟩
                   rw [HBN.out]
                   simp only [sparkC]
                   have b9 : But g (g + 1) wr w9 := (But.trans (by (repeat (first | with_reducible exact But.refl _ _ _ | with_reducible apply But.drewN | with_reducible apply But.drew))) b9)
                   have HL9 : Hid (Loc w9 g [.int .i64 (coinN (coinN (seedN sd k))), .int .i64 (st + 1), .slice aq (N + k) cq]) := L9
                   have HB9 : Hid (But g (g + 1) wr w9) := b9
                   have HO9 : Hid (SparkO w9 u2.heap.size wr.heap.size (.slice aq (N + k) cq) (laterL fa ps ++ bornL (x, y, ev, bu, li, sv, fa) sd k)) := (HOQ.out.apart Lt (by simp) b9)
                   have q2 := L9.cell 2 rfl
                   have q9 := b9.size
                   have g9 := L9.lt
                   clear L9 b9)
                | (refine step_append_at rfl (.tmp 51) (.tmp 55) 25 rfl u2.heap.size 66 i0 (.agg #[.int .i64 0, .int .i64 0, .int .i64 0, .int .i64 0, .int .i64 0]) 5 40 Tryd.underlying25 hi0 hz0 hz1 hz2 rfl (by decide) (.slice aq (N + k) cq) (N + k) ((laterL fa ps ++ bornL (x, y, ev, bu, li, sv, fa) sd k).flatMap sparkC) (by simp [Act.eval]) (own_len HLL.out (SparkO.kept HO9.out ((But.refl _ _ w9).alloc (.cells (sparkC B).toArray 66)))) ⟨w9.heap.size, 0, none⟩ 1 1 (sparkC B) (by simp [Act.eval]) rfl (news1 (Loc.new w9 (sparkC B) 66)) (one_spark _) (by unfold maxLen; omega) (by omega) (by simp; omega) ?_
                   intro v3 w3 hown hgrow hob
                   obtain ⟨ao3, cp3, hf3, _⟩ := own_form hown
                   subst hf3
                   have o9 : SparkO (w9.alloc (.cells (sparkC B).toArray 66)) u2.heap.size wr.heap.size (.slice aq (N + k) cq) (laterL fa ps ++ bornL (x, y, ev, bu, li, sv, fa) sd k) := HO9.out.kept ((But.refl _ _ w9).alloc _)
                   have l9 := HL9.out.alloc (.cells (sparkC B).toArray 66)
                   have HT3 : Hid (SparkO w3 u2.heap.size w3.heap.size (.slice ao3 (N + k + 1) cp3) (laterL fa ps ++ bornL (x, y, ev, bu, li, sv, fa) sd k ++ [B])) := (app_spark o9 HLL.out hown hgrow).1
                   have L3 : Loc w3 g [.int .i64 (coinN (coinN (seedN sd k))), .int .i64 (st + 1), .slice aq (N + k) cq] := l9.grown hgrow (o9.not_block l9 (by simp))
                   have lb9 := (Lb.but HB9.out (by omega)).alloc (.cells (sparkC B).toArray 66)
                   have HLb3 : Hid (Loc w3 u3.heap.size [.pointer (some ⟨g, 0, none⟩)]) := lb9.grown hgrow (o9.not_block lb9 (by simp))
                   have le9 := (Le.but HB9.out (by omega)).alloc (.cells (sparkC B).toArray 66)
                   have HLe3 : Hid (Loc w3 w.heap.size [.int .i64 x, .int .i64 y, .int .i64 ev, .int .i64 bu, .int .i64 li, .int .i64 sv, .int .i64 fa]) := le9.grown hgrow (o9.not_block le9 (by simp))
                   have lr9 := (Lr.but HB9.out (by omega)).alloc (.cells (sparkC B).toArray 66)
                   have HLr3 : Hid (Loc w3 (w.heap.size + 1 + 1) [.int .i64 0, .int .i64 0, .slice none 0 0]) := lr9.grown hgrow (o9.not_block lr9 (by simp))
                   have HK3 : Hid (Kept w w3) := ((HKQ.out.onto HB9.out (by omega)).alloc _).grown hgrow (by intro y hy; have := own_lt o9.1 hy; omega)
                   have HL3 : Hid (Loc w3 g [.int .i64 (coinN (coinN (seedN sd k))), .int .i64 (st + 1), .slice aq (N + k) cq]) := L3
                   have x2 := L3.cell 2 rfl
                   have y2 := L3.frozen 2
                   clear o9 l9 lb9 le9 lr9 L3 hown hgrow hob q2))
              all_goals
                repeat (first | go_values | go_skip | go_guarded | go_step | go_upon)
                have B3 := (But.refl g (g + 1) w3).setCell (p := ⟨g, 2, none⟩) (by simp) (by simp) (.slice ao3 (N + k + 1) cp3)
                refine ⟨⟨k + 1, ao3, cp3, hlt, by go_num, HL3.out.set 2 _, ?_, HLb3.out.other (by omega) _, HLe3.out.other (by omega) _, HLr3.out.other (by omega) _, HK3.out.setNew (by simp; omega) _⟩, by simp [intOf]; omega⟩
                rw [bornL_succ, HBN.out, ← List.append_assoc]
                exact (HT3.out.apart HL3.out (by simp) B3).low
            · have hke : k = M := by omega
              subst hke
              have HLL : Hid ((laterL fa ps ++ bornL (x, y, ev, bu, li, sv, fa) sd k).length = N + k) := by
                show (laterL fa ps ++ bornL (x, y, ev, bu, li, sv, fa) sd k).length = N + k
                rw [List.length_append, HL.out, bornL_len]
              have HNC : Hid (newC (x, y, ev, bu, li, sv, fa) (sd, st, ps) = (seedN sd k, st + 1, laterL fa ps ++ bornL (x, y, ev, bu, li, sv, fa) sd k)) := by
                show newC (x, y, ev, bu, li, sv, fa) (sd, st, ps) = (seedN sd k, st + 1, laterL fa ps ++ bornL (x, y, ev, bu, li, sv, fa) sd k)
                unfold newC
                rw [HMB.out]
              have hu2 := HEL.out
              clear Lb Le hTq
              have t0 := Lt.cell 0 rfl
              have t1 := Lt.cell 1 rfl
              have t2 := Lt.cell 2 rfl
              repeat (first | go_values | go_skip | go_guarded | go_step | go_upon)
              go_at_call 27
              have hgc := igoodC (seedN sd k) (st + 1) (laterL fa ps ++ bornL (x, y, ev, bu, li, sv, fa) sd k) aq cq wr (by rw [HLL.out]; exact oq.at) (by rw [HLL.out]; omega)
              rw [HLL.out] at hgc
              refine hgc.mono ?_
              rintro e v1 ⟨rfl, kv⟩
              clear hgc t0 t1 t2
              have Lt := Lt.kept kv
              have Lr := Lr.kept kv
              have oq := oq.kept kv
              have KV := KQ.trans kv
              have rl := Lr.lt
              have HKV : Hid (Kept w v1) := KV
              have HO : Hid (SparkO v1 u2.heap.size v1.heap.size (.slice aq (N + k) cq) (laterL fa ps ++ bornL (x, y, ev, bu, li, sv, fa) sd k)) := (oq.mono (by omega) (Nat.le_refl _)).low
              clear KV kv oq KQ
              have r0 := Lr.cell 0 rfl
              have r1 := Lr.cell 1 rfl
              have r2 := Lr.cell 2 rfl
              have z0 := Lr.frozen 0
              have z1 := Lr.frozen 1
              have z2 := Lr.frozen 2
              have t0 := Lt.cell 0 rfl
              have t1 := Lt.cell 1 rfl
              have t2 := Lt.cell 2 rfl
              by_cases hF : CloudP (newC (x, y, ev, bu, li, sv, fa) (sd, st, ps))
              · have HA : Hid (stepA (x, y, ev, bu, li, sv, fa) (sd, st, ps) = ((seedN sd k, st + 1, laterL fa ps ++ bornL (x, y, ev, bu, li, sv, fa) sd k), true)) := (stepA_yes ⟨hE, hC, hM⟩ hF).trans (by rw [HNC.out])
                rw [HNC.out] at hF
                rw [decide_eq_true hF]
                dsimp only
                clear hE hC hM hF hsp hst hfa h60
                repeat (first | go_values | go_skip | go_guarded | go_step | go_upon)
                refine bodyPost_ret (v := .tuple #[.agg #[.int .i64 (seedN sd k), .int .i64 (st + 1), .slice aq (N + k) cq], .bool true]) (by simp [results, Tryd.results18, go_sem, *]) rfl ?_
                rw [HA.out]
                have hs0 := HS0.out
                have BB := (((But.refl (w.heap.size + 1 + 1) (w.heap.size + 1 + 1 + 1) v1).setCell (p := ⟨w.heap.size + 1 + 1, 0, none⟩) (by simp) (by simp) (.int .i64 (seedN sd k))).setCell (p := ⟨w.heap.size + 1 + 1, 1, none⟩) (by simp) (by simp) (.int .i64 (st + 1))).setCell (p := ⟨w.heap.size + 1 + 1, 2, none⟩) (by simp) (by simp) (.slice aq (N + k) cq)
                exact ⟨_, rfl, ⟨_, rfl, ((HO.out.but BB (by omega)).mono (by omega) BB.size).low⟩, HKV.out.onto BB (by omega)⟩
              · have HA : Hid (stepA (x, y, ev, bu, li, sv, fa) (sd, st, ps) = (c0, false)) := stepA_bad hF
                rw [HNC.out] at hF
                rw [decide_eq_false hF]
                dsimp only
                clear hE hC hM hF hsp hst hfa h60
                repeat (first | go_values | go_skip | go_guarded | go_step | go_upon)
                refine bodyPost_ret (v := .tuple #[.agg #[.int .i64 0, .int .i64 0, .slice none 0 0], .bool false]) (by simp [results, Tryd.results18, go_sem, *]) rfl ?_
                rw [HA.out]
                exact ⟨_, rfl, cloud_zero _ _ _, ((HKV.out.setNew (by simp +arith) _).setNew (by simp +arith) _).setNew (by simp +arith) _⟩

        · have dD : (st % ev == 0) = false := by simpa using hD
          have HNC : Hid (newC (x, y, ev, bu, li, sv, fa) (sd, st, ps) = (sd, st + 1, laterL fa ps)) := by
            show newC (x, y, ev, bu, li, sv, fa) (sd, st, ps) = (sd, st + 1, laterL fa ps)
            have : manyB (x, y, ev, bu, li, sv, fa) (sd, st, ps) = 0 := if_neg hD
            simp [newC, this, seedN, bornL]
          have HLL : Hid ((laterL fa ps).length = N) := hL
          have hNb : N ≤ 60 := by have := laterL_len fa ps; omega
          have hrl := Lr.lt
          clear hL hN hD
          have t0 := Lt.cell 0 rfl
          have t1 := Lt.cell 1 rfl
          have t2 := Lt.cell 2 rfl
          repeat (first | go_values | go_skip | go_guarded | go_step | go_upon)
          go_at_call 27
          have hgc := igoodC (sd) (st + 1) (laterL fa ps) (some ⟨G, 0, none⟩) cap3 u3 (by rw [HLL.out]; exact o3.at) (by rw [HLL.out]; omega)
          rw [HLL.out] at hgc
          refine hgc.mono ?_
          rintro e v1 ⟨rfl, kv⟩
          clear hgc t0 t1 t2
          have Lt := Lt.kept kv
          have Lr := Lr.kept kv
          have o3 := o3.kept kv
          have KV := K3.trans kv
          have rl := Lr.lt
          have HKV : Hid (Kept w v1) := KV
          have HO : Hid (SparkO v1 u2.heap.size v1.heap.size (.slice (some ⟨G, 0, none⟩) (N) cap3) (laterL fa ps)) := (o3.mono (by omega) (Nat.le_refl _)).low
          clear KV kv o3 K3
          have r0 := Lr.cell 0 rfl
          have r1 := Lr.cell 1 rfl
          have r2 := Lr.cell 2 rfl
          have z0 := Lr.frozen 0
          have z1 := Lr.frozen 1
          have z2 := Lr.frozen 2
          have t0 := Lt.cell 0 rfl
          have t1 := Lt.cell 1 rfl
          have t2 := Lt.cell 2 rfl
          by_cases hF : CloudP (newC (x, y, ev, bu, li, sv, fa) (sd, st, ps))
          · have HA : Hid (stepA (x, y, ev, bu, li, sv, fa) (sd, st, ps) = ((sd, st + 1, laterL fa ps), true)) := (stepA_yes ⟨hE, hC, hM⟩ hF).trans (by rw [HNC.out])
            rw [HNC.out] at hF
            rw [decide_eq_true hF]
            dsimp only
            clear hE hC hM hF hsp hst hfa h60
            repeat (first | go_values | go_skip | go_guarded | go_step | go_upon)
            refine bodyPost_ret (v := .tuple #[.agg #[.int .i64 (sd), .int .i64 (st + 1), .slice (some ⟨G, 0, none⟩) (N) cap3], .bool true]) (by simp [results, Tryd.results18, go_sem, *]) rfl ?_
            rw [HA.out]
            have hs0 := HS0.out
            have BB := (((But.refl (w.heap.size + 1 + 1) (w.heap.size + 1 + 1 + 1) v1).setCell (p := ⟨w.heap.size + 1 + 1, 0, none⟩) (by simp) (by simp) (.int .i64 (sd))).setCell (p := ⟨w.heap.size + 1 + 1, 1, none⟩) (by simp) (by simp) (.int .i64 (st + 1))).setCell (p := ⟨w.heap.size + 1 + 1, 2, none⟩) (by simp) (by simp) (.slice (some ⟨G, 0, none⟩) (N) cap3)
            exact ⟨_, rfl, ⟨_, rfl, ((HO.out.but BB (by omega)).mono (by omega) BB.size).low⟩, HKV.out.onto BB (by omega)⟩
          · have HA : Hid (stepA (x, y, ev, bu, li, sv, fa) (sd, st, ps) = (c0, false)) := stepA_bad hF
            rw [HNC.out] at hF
            rw [decide_eq_false hF]
            dsimp only
            clear hE hC hM hF hsp hst hfa h60
            repeat (first | go_values | go_skip | go_guarded | go_step | go_upon)
            refine bodyPost_ret (v := .tuple #[.agg #[.int .i64 0, .int .i64 0, .slice none 0 0], .bool false]) (by simp [results, Tryd.results18, go_sem, *]) rfl ?_
            rw [HA.out]
            exact ⟨_, rfl, cloud_zero _ _ _, ((HKV.out.setNew (by simp +arith) _).setNew (by simp +arith) _).setNew (by simp +arith) _⟩

    · rw [stepA_no (fun h => hC h.2.1)]
      have dC : decide (CloudP (sd, st, ps)) = false := decide_eq_false hC
      have e0 := Le.cell 0 rfl
      have e1 := Le.cell 1 rfl
      have e2 := Le.cell 2 rfl
      have e3 := Le.cell 3 rfl
      have e4 := Le.cell 4 rfl
      have e5 := Le.cell 5 rfl
      have e6 := Le.cell 6 rfl
      go_enter Tryd.func18, Tryd.ntmps18
      repeat (first | rw [← HW0.out] | go_values | go_skip | go_guarded | go_step | go_upon)
      go_at_call 26
      refine (igoodE _ _ _ _ _ _ _ _).mono ?_
      rintro e u1 ⟨rfl, k1⟩
      rw [dE]
      have Le := Le.kept k1
      have Lc := Lc.kept k1
      have Lr := Lr.kept k1
      have K1 := K0.trans k1
      have s1 := k1.size
      clear k1 K0 e0 e1 e2 e3 e4 e5 e6
      have c0 := Lc.cell 0 rfl
      have c1 := Lc.cell 1 rfl
      have c2 := Lc.cell 2 rfl
      dsimp only
      repeat (first | go_values | go_skip | go_guarded | go_step | go_upon)
      go_at_call 27
      refine (igoodC _ _ _ _ _ _ (hv.kept K1) (by omega)).mono ?_
      rintro e u2 ⟨rfl, k2⟩
      rw [dC]
      have Le := Le.kept k2
      have Lc := Lc.kept k2
      have Lr := Lr.kept k2
      have K2 := K1.trans k2
      have s2 := k2.size
      clear k2 K1 c0 c1 c2
      have c0 := Lc.cell 0 rfl
      have c1 := Lc.cell 1 rfl
      have c2 := Lc.cell 2 rfl
      have r0 := Lr.cell 0 rfl
      have r1 := Lr.cell 1 rfl
      have r2 := Lr.cell 2 rfl
      have z0 := Lr.frozen 0
      have z1 := Lr.frozen 1
      have z2 := Lr.frozen 2
      dsimp only
      repeat (first | go_values | go_skip | go_guarded | go_step | go_upon)
      refine bodyPost_ret (v := .tuple #[.agg #[.int .i64 0, .int .i64 0, .slice none 0 0], .bool false]) (by simp [results, Tryd.results18, go_sem, *]) rfl ?_
      exact ⟨_, rfl, cloud_zero _ _ _, ((K2.setNew (by simp +arith) _).setNew (by simp +arith) _).setNew (by simp +arith) _⟩

  · rw [stepA_no (fun h => hE h.1)]
    have dE : decide (EmitP x y ev bu li sv fa) = false := decide_eq_false hE
    have e0 := Le.cell 0 rfl
    have e1 := Le.cell 1 rfl
    have e2 := Le.cell 2 rfl
    have e3 := Le.cell 3 rfl
    have e4 := Le.cell 4 rfl
    have e5 := Le.cell 5 rfl
    have e6 := Le.cell 6 rfl
    go_enter Tryd.func18, Tryd.ntmps18
    repeat (first | rw [← HW0.out] | go_values | go_skip | go_guarded | go_step | go_upon)
    go_at_call 26
    refine (igoodE _ _ _ _ _ _ _ _).mono ?_
    rintro e u1 ⟨rfl, k1⟩
    rw [dE]
    have Le := Le.kept k1
    have Lc := Lc.kept k1
    have Lr := Lr.kept k1
    have K1 := K0.trans k1
    have s1 := k1.size
    clear k1 K0 e0 e1 e2 e3 e4 e5 e6
    have c0 := Lc.cell 0 rfl
    have c1 := Lc.cell 1 rfl
    have c2 := Lc.cell 2 rfl
    have r0 := Lr.cell 0 rfl
    have r1 := Lr.cell 1 rfl
    have r2 := Lr.cell 2 rfl
    have z0 := Lr.frozen 0
    have z1 := Lr.frozen 1
    have z2 := Lr.frozen 2
    dsimp only
    repeat (first | go_values | go_skip | go_guarded | go_step | go_upon)
    refine bodyPost_ret (v := .tuple #[.agg #[.int .i64 0, .int .i64 0, .slice none 0 0], .bool false]) (by simp [results, Tryd.results18, go_sem, *]) rfl ?_
    exact ⟨_, rfl, cloud_zero _ _ _, ((K1.setNew (by simp +arith) _).setNew (by simp +arith) _).setNew (by simp +arith) _⟩


end Go.Proofs.YtpeiblodefaajaaDoor
