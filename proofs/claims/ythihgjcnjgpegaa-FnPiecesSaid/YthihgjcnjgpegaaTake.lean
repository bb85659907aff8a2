/-
  The first timer taken out of a heap.
-/
import Derived.Test.YthihgjcnjgpegaaTake0
import Derived.BigRegion
namespace Go.Proofs.Ythihgjcnjgpegaa
open Go.ChangeShapes Go.WideShapes Go.ChangeAt Go.RowKit

set_option maxRecDepth 100000
set_option maxHeartbeats 8000000 in
theorem takeT (B : Nat) (uv fv iv : Value) (ps : List TimerD) (w : World) (hL : Loc w B [uv, .func (.func 38) #[] #[], iv, fv]) (ho : TimerO w (B + 1) w.heap.size iv ps) (hn : ps.length ≤ 1000) (h0 : 0 < ps.length) (hh : Heap (atT ps) ps.length) :
    Calls Try.prog 66 #[.pointer (some ⟨B, 1, none⟩)] w fun e w' => e = .returned (.agg (timerC (atT ps 0)).toArray) ∧ ∃ (ps' : List TimerD) (iv' : Value), Loc w' B [uv, .func (.func 38) #[] #[], iv', fv] ∧ TimerO w' (B + 1) w'.heap.size iv' ps' ∧ (atT ps 0 :: ps').Perm ps ∧ Heap (atT ps') ps'.length ∧ Touch B iv w w' ∧ iv'.ownBlock = iv.ownBlock := by
  obtain ⟨g, cap, hfm⟩ := own_some ho.1 h0
  subst hfm
  have hBl := hL.lt
  have hgB : B + 1 ≤ g := (own_lt ho.1 (g := g) rfl).1
  have hgw : g < w.heap.size := ho.2 g rfl
  obtain ⟨M, hN⟩ : ∃ M, ps.length = M + 1 := ⟨ps.length - 1, by omega⟩
  rw [hN] at hn h0 hh hL ho
  rw [hN]
  have b2 := hL.cell 2 rfl
  go_enter Try.func66, Try.ntmps66
  repeat (first | go_values | go_skip | go_guarded | go_step | go_upon)
  obtain ⟨W, hW⟩ : ∃ W, W = w.alloc (.cells #[.int .i64 0, .int .i64 0, .int .i64 0, .int .i64 0] 46) := ⟨_, rfl⟩
  have hKW : Kept w W := by rw [hW]; exact (But.refl _ _ _).alloc _
  have LR : Loc W w.heap.size [.int .i64 0, .int .i64 0, .int .i64 0, .int .i64 0] := by rw [hW]; exact Loc.new w _ 46
  have HWS : Hid (W.heap.size = w.heap.size + 1) := by show W.heap.size = _; rw [hW]; simp
  rw [← hW]
  clear hW
  have LB := hL.kept hKW
  have oW : TimerO W (B + 1) w.heap.size (.slice (some ⟨g, 0, none⟩) (M + 1) cap) ps := TimerO.kept ho hKW
  have g0 := atT_some (l := ps) (i := 0) (by omega)
  have gl := atT_some (l := ps) (i := M) (by omega)
  obtain ⟨⟨xa, xb, xc, xd⟩, hx⟩ : ∃ t, atT ps 0 = t := ⟨_, rfl⟩
  obtain ⟨⟨ya, yb, yc, yd⟩, hy⟩ : ∃ t, atT ps M = t := ⟨_, rfl⟩
  rw [hx] at g0
  rw [hy] at gl
  obtain ⟨c0, c1, c2, c3, -⟩ := oW.cells g0
  simp only [Nat.zero_mul, Nat.zero_add] at c0 c1 c2 c3
  have b2 := LB.cell 2 rfl
  have hBW := LB.lt
  have hgW : g < W.heap.size := by have := HWS.out; omega
  have hN0 : (0 : Int) < (M : Int) + 1 := by omega
  apply wp_cut0 (F := fun W' => Kept W W' ∧ Loc W' W.heap.size (timerC (xa, xb, xc, xd)) ∧ W'.heap.size = W.heap.size + 1)
  · go_big_region
    all_goals
      refine ⟨rfl, ?_, (Loc.new W (timerC (xa, xb, xc, xd)) 46).kept ((But.refl _ _ _).drew), by simp⟩
      (repeat (first | with_reducible exact But.refl _ _ _ | with_reducible apply But.drewN | with_reducible apply But.drew | with_reducible apply But.alloc))
  · rintro w1 ⟨k1, LF, sz1⟩
    have LB1 := LB.kept k1
    have LR1 := LR.kept k1
    have o1 := TimerO.kept oW k1
    have HSZ1 : Hid _ := sz1
    clear c0 c1 c2 c3 b2 LB LR oW hBW hgW sz1
    have b2 := LB1.cell 2 rfl
    have hBw := LB1.lt
    obtain ⟨c0, c1, c2, c3, cz⟩ := o1.cells g0
    obtain ⟨d0, d1, d2, d3, -⟩ := o1.cells gl
    have z0 := cz 0
    have z1 := cz 1
    have z2 := cz 2
    have z3 := cz 3
    obtain ⟨e1, e2, e3, o2⟩ := o1.store hN.symm g0 (ya, yb, yc, yd)
    simp only [Nat.zero_mul, Nat.zero_add] at c0 c1 c2 c3 e1 e2 e3 o2
    dsimp only at d0 d1 d2 d3
    have hgw1 : g < w1.heap.size := World.block_lt_of_cell? _ _ c0
    have hMM : (M : Int) < (M : Int) + 1 := by omega
    have HO2 : Hid (TimerO _ _ _ _ _) := o2
    clear o2 cz
    repeat (first | go_values | go_skip | go_guarded | go_step | go_upon)
    apply wp_cut0 (F := fun W' => W' = ((((w1.setCell ⟨g, 0, none⟩ (.int .i64 ya)).setCell ⟨g, 1, none⟩ (.int .i64 yb)).setCell ⟨g, 2, none⟩ (.int .i64 yc)).setCell ⟨g, 3, none⟩ (.int .i64 yd)).drew)
    · go_big_region
      all_goals exact ⟨rfl, by with_reducible rfl⟩
    · intro w2 hw2
      have o2 : TimerO w2 (B + 1) w.heap.size (.slice (some ⟨g, 0, none⟩) (M + 1) cap) (ps.set 0 (ya, yb, yc, yd)) ∧ But g (g + 1) w1 w2 := by
        rw [hw2]
        exact ⟨TimerO.kept HO2.out ((But.refl _ _ _).drew), (((((But.refl _ _ _).setCell (by simp) (by simp) _).setCell (by simp) (by simp) _).setCell (by simp) (by simp) _).setCell (by simp) (by simp) _).drew⟩
      clear hw2 HO2 c0 c1 c2 c3 d0 d1 d2 d3 z0 z1 z2 z3 e1 e2 e3 b2
      obtain ⟨o2, b12⟩ := o2
      have hgs := HWS.out
      have LB2 := LB1.but b12 (by omega)
      have LR2 := LR1.but b12 (by omega)
      have LF2 := LF.but b12 (by omega)
      have s12 := b12.size
      have b2 := LB2.cell 2 rfl
      have bf2 := LB2.frozen 2
      have hBw2 := LB2.lt
      have hMc : M ≤ cap := by
        have := own_cap ho.1
        omega
      have hMi : (M : Int) ≤ (cap : Int) := by omega
      have HGS : Hid _ := hgs
      clear hgs
      go_wp2_with fail
      have B2 : But B (B + 1) w2 (w2.setCell ⟨B, 2, none⟩ (.slice (some ⟨g, 0, none⟩) M cap)) := (But.refl _ _ _).setCell (by simp) (by simp) _
      have o3 : TimerO (w2.setCell ⟨B, 2, none⟩ (.slice (some ⟨g, 0, none⟩) M cap)) (B + 1) w.heap.size (.slice (some ⟨g, 0, none⟩) M cap) (cutF ps) := by
        have := (TimerO.but o2 B2 (by omega)).take (by simpa using hN) (m := M) (by omega)
        unfold cutF
        rw [hN, Nat.add_sub_cancel, hy]
        exact this
      have L3 := LB2.set 2 (.slice (some ⟨g, 0, none⟩) M cap)
      simp only [List.set] at L3
      have T3 : Touch B (.slice (some ⟨g, 0, none⟩) (M + 1) cap) w (w2.setCell ⟨B, 2, none⟩ (.slice (some ⟨g, 0, none⟩) M cap)) := ((Touch.of (hKW.trans k1)).row (.inl rfl) b12).setB _ _
      have hgs2 := HGS.out
      have R3 := LR2.but B2 (by omega)
      have F3 := LF2.but B2 (by omega)
      have sz3 : W.heap.size < (w2.setCell ⟨B, 2, none⟩ (.slice (some ⟨g, 0, none⟩) M cap)).heap.size := F3.lt
      have hcl : (cutF ps).length = M := by rw [cutF_len, hN]; rfl
      have hdn : DownTo (atT (cutF ps)) M 0 := by
        have := cutF_down (ps := ps) (by rw [hN]; exact hh)
        rw [hN] at this
        exact this
      clear b2 bf2 LB2 LR2 LF2 o2 b12 o1 LB1 LR1 LF
      go_loopw [5, 6] (fun at' _ wr => ∃ (k : Nat) (qs : List TimerD), at' = .int .i64 (k : Int) ∧ qs.length = M ∧ (k < M ∨ M = 0 ∧ k = 0) ∧ qs.Perm (cutF ps) ∧ DownTo (atT qs) M k ∧ TimerO wr (B + 1) w.heap.size (.slice (some ⟨g, 0, none⟩) M cap) qs ∧ Loc wr B [uv, .func (.func 38) #[] #[], .slice (some ⟨g, 0, none⟩) M cap, fv] ∧ Loc wr w.heap.size [.int .i64 0, .int .i64 0, .int .i64 0, .int .i64 0] ∧ Loc wr W.heap.size (timerC (xa, xb, xc, xd)) ∧ Touch B (.slice (some ⟨g, 0, none⟩) (M + 1) cap) w wr) (fun at' _ _ => M - (intOf at').toNat)
      case atStart => exact ⟨0, cutF ps, rfl, hcl, by omega, List.Perm.refl _, hdn, o3, L3, R3, F3, T3⟩
      case round =>
        obtain ⟨k, qs, rfl, hql, hkM, hqp, hdo, ho', hL', hR', hF', hT'⟩ := hrel
        clear o3 L3 R3 F3 T3 sz3 hdn B2 hcl hgs2
        have hkb : k ≤ 1000 := by omega
        have hsz' := hF'.lt
        have hwW := HGS.out
        repeat (first | go_values | go_skip | go_guarded | go_step | go_upon)
        have LV : Loc (wr.alloc (.cells #[.int .i64 (2 * (k : Int) + 1), .int .i64 (2 * (k : Int) + 2)] 3)) wr.heap.size [.int .i64 ((2 * k + 1 : Nat) : Int), .int .i64 ((2 * k + 2 : Nat) : Int)] := by
          rw [show ((2 * k + 1 : Nat) : Int) = 2 * (k : Int) + 1 by omega, show ((2 * k + 2 : Nat) : Int) = 2 * (k : Int) + 2 by omega]
          exact Loc.new wr _ 3
        go_at_call 80
        refine (firstOf B (B + 1) w.heap.size k (2 * k + 1) (2 * k + 2) wr.heap.size uv fv _ qs _ (hL'.alloc _) (TimerO.kept ho' ((But.refl _ _ _).alloc _)) LV (by omega)).mono ?_
        rintro e w6 ⟨rfl, k6⟩
        have j6 : Kept wr w6 := ((But.refl _ _ wr).alloc _).trans k6
        obtain ⟨p, hp⟩ : ∃ p, stepF qs (stepF qs k (2 * k + 1)) (2 * k + 2) = p := ⟨_, rfl⟩
        have hp' : pick3 qs k = p := hp
        rw [hp]
        have hspec := pick3_spec qs k
        rw [hp', hql] at hspec
        have L6 := hL'.kept j6
        have R6 := hR'.kept j6
        have F6 := hF'.kept j6
        have o6 := TimerO.kept ho' j6
        have T6 := hT'.kept j6
        clear hL' hR' hF' ho' hT' LV k6 hp hp'
        have hBw6 := L6.lt
        have hFw6 := F6.lt
        have hRw6 := R6.lt
        rcases hspec with ⟨hpk, hch⟩ | ⟨hpk, hpM, hpp, hpl, hch⟩
        · subst hpk
          have f0 := F6.cell 0 rfl
          have f1 := F6.cell 1 rfl
          have f2 := F6.cell 2 rfl
          have f3 := F6.cell 3 rfl
          have r0 := R6.cell 0 rfl
          have r1 := R6.cell 1 rfl
          have r2 := R6.cell 2 rfl
          have r3 := R6.cell 3 rfl
          have rf0 := R6.frozen 0
          have rf1 := R6.frozen 1
          have rf2 := R6.frozen 2
          have rf3 := R6.frozen 3
          have HQ : Hid (qs.length = M ∧ qs.Perm (cutF ps) ∧ DownTo (atT qs) M p ∧ ∀ i, 0 < i → i < M → (i - 1) / 2 = p → LeT (atT qs p) (atT qs i)) := ⟨hql, hqp, hdo, hch⟩
          have HX : Hid (atT ps 0 = (xa, xb, xc, xd)) := hx
          dsimp only at f0 f1 f2 f3
          clear hch hx hwW
          dsimp only
          repeat (first | go_values | go_skip | go_guarded | go_step | go_upon)
          have hwW := HGS.out
          have BR : But w.heap.size (w.heap.size + 1) w6 ((((w6.setCell ⟨w.heap.size, 0, none⟩ (.int .i64 xa)).setCell ⟨w.heap.size, 1, none⟩ (.int .i64 xb)).setCell ⟨w.heap.size, 2, none⟩ (.int .i64 xc)).setCell ⟨w.heap.size, 3, none⟩ (.int .i64 xd)) := ((((But.refl _ _ _).setCell (by simp) (by simp) _).setCell (by simp) (by simp) _).setCell (by simp) (by simp) _).setCell (by simp) (by simp) _
          refine bodyPost_ret (v := .agg #[.int .i64 xa, .int .i64 xb, .int .i64 xc, .int .i64 xd]) (by simp [results, Try.results66, go_sem, r0, r1, r2, r3]) rfl ?_
          obtain ⟨h1, h2, h3, h4⟩ := HQ.out
          rw [HX.out]
          refine ⟨rfl, qs, _, L6.but BR (by omega), (TimerO.but o6 BR (by omega)).low, ?_, ?_, ?_, rfl⟩
          · rw [← HX.out]
            exact (h2.cons _).trans (cutF_perm (by omega))
          · rw [h1]
            exact down_done h3 h4
          · exact ⟨BR.os.trans T6.os, BR.out.trans T6.out, Nat.le_trans T6.size BR.size, fun b hb h1 h2 => (BR.block b (Nat.lt_of_lt_of_le hb T6.size) (by omega)).trans (T6.block b hb h1 h2)⟩
        · have gk := atT_some (l := qs) (i := k) (by omega)
          have gp := atT_some (l := qs) (i := p) (by omega)
          obtain ⟨⟨uA, uB, uC, uD⟩, hu⟩ : ∃ t, atT qs k = t := ⟨_, rfl⟩
          obtain ⟨⟨vA, vB, vC, vD⟩, hvv⟩ : ∃ t, atT qs p = t := ⟨_, rfl⟩
          rw [hu] at gk
          rw [hvv] at gp
          have b2 := L6.cell 2 rfl
          obtain ⟨c0, c1, c2, c3, cz⟩ := o6.cells gk
          obtain ⟨d0, d1, d2, d3, -⟩ := o6.cells gp
          have z0 := cz (k * 4)
          have z1 := cz (k * 4 + 1)
          have z2 := cz (k * 4 + 2)
          have z3 := cz (k * 4 + 3)
          obtain ⟨e1, e2, e3, o7⟩ := o6.store hql.symm gk (vA, vB, vC, vD)
          have h8 : (qs.set k (vA, vB, vC, vD))[p]? = some (vA, vB, vC, vD) := by rw [List.getElem?_set_ne (by omega)]; exact gp
          obtain ⟨f0, f1, f2, f3, fz⟩ := o7.cells h8
          have y0 := fz (p * 4)
          have y1 := fz (p * 4 + 1)
          have y2 := fz (p * 4 + 2)
          have y3 := fz (p * 4 + 3)
          obtain ⟨r1, r2, r3, o8⟩ := o7.store (by simpa using hql.symm) h8 (uA, uB, uC, uD)
          have HO8 : Hid (TimerO _ _ _ _ _) := o8
          have HLC : Hid (Loc w6 B [uv, .func (.func 38) #[] #[], .slice (some ⟨g, 0, none⟩) M cap, fv] ∧ Loc w6 w.heap.size [.int .i64 0, .int .i64 0, .int .i64 0, .int .i64 0] ∧ Loc w6 W.heap.size (timerC (xa, xb, xc, xd)) ∧ Touch B (.slice (some ⟨g, 0, none⟩) (M + 1) cap) w w6) := ⟨L6, R6, F6, T6⟩
          have HQ : Hid (qs.Perm (cutF ps) ∧ DownTo (atT qs) M k ∧ LeT (atT qs p) (atT qs k) ∧ (∀ i, 0 < i → i < M → (i - 1) / 2 = k → LeT (atT qs p) (atT qs i)) ∧ atT qs k = (uA, uB, uC, uD) ∧ atT qs p = (vA, vB, vC, vD)) := ⟨hqp, hdo, hpl, hch, hu, hvv⟩
          have hne : B ≠ g := by omega
          have hgw6 : g < w6.heap.size := World.block_lt_of_cell? _ _ c0
          have hkM2 : (k : Int) < (M : Int) := by omega
          have hpM2 : (p : Int) < (M : Int) := by omega
          have hpk2 : ((p : Int) == (k : Int)) = false := by simp; omega
          dsimp only at c0 c1 c2 c3 d0 d1 d2 d3 e1 e2 e3 f0 f1 f2 f3 r1 r2 r3
          clear cz fz o6 o7 o8 L6 R6 F6 T6 hqp hdo hpl hch hu hvv h8 hx hy g0 gl hwW
          dsimp only
          repeat (first | go_values | go_skip | go_guarded | go_step | go_upon)
          apply wp_cut0 (F := fun W' => W' = ((((((((w6.setCell ⟨g, k * 4, none⟩ (.int .i64 vA)).setCell ⟨g, k * 4 + 1, none⟩ (.int .i64 vB)).setCell ⟨g, k * 4 + 2, none⟩ (.int .i64 vC)).setCell ⟨g, k * 4 + 3, none⟩ (.int .i64 vD)).setCell ⟨g, p * 4, none⟩ (.int .i64 uA)).setCell ⟨g, p * 4 + 1, none⟩ (.int .i64 uB)).setCell ⟨g, p * 4 + 2, none⟩ (.int .i64 uC)).setCell ⟨g, p * 4 + 3, none⟩ (.int .i64 uD)).drew)
          · go_big_region
            all_goals exact ⟨rfl, by with_reducible rfl⟩
          · intro w7 hw7
            have o8 : TimerO w7 (B + 1) w.heap.size (.slice (some ⟨g, 0, none⟩) M cap) ((qs.set k (vA, vB, vC, vD)).set p (uA, uB, uC, uD)) ∧ But g (g + 1) w6 w7 := by
              rw [hw7]
              have bx : But g (g + 1) w6 ((((((((w6.setCell ⟨g, k * 4, none⟩ (.int .i64 vA)).setCell ⟨g, k * 4 + 1, none⟩ (.int .i64 vB)).setCell ⟨g, k * 4 + 2, none⟩ (.int .i64 vC)).setCell ⟨g, k * 4 + 3, none⟩ (.int .i64 vD)).setCell ⟨g, p * 4, none⟩ (.int .i64 uA)).setCell ⟨g, p * 4 + 1, none⟩ (.int .i64 uB)).setCell ⟨g, p * 4 + 2, none⟩ (.int .i64 uC)).setCell ⟨g, p * 4 + 3, none⟩ (.int .i64 uD)) := ((((((((But.refl _ _ _).setCell (by simp) (by simp) _).setCell (by simp) (by simp) _).setCell (by simp) (by simp) _).setCell (by simp) (by simp) _).setCell (by simp) (by simp) _).setCell (by simp) (by simp) _).setCell (by simp) (by simp) _).setCell (by simp) (by simp) _
              exact ⟨TimerO.kept HO8.out ((But.refl _ _ _).drew), bx.drew⟩
            have HO9 : Hid _ := o8
            clear hw7 c0 c1 c2 c3 d0 d1 d2 d3 e1 e2 e3 f0 f1 f2 f3 r1 r2 r3 z0 z1 z2 z3 y0 y1 y2 y3 b2 o8 HO8
            repeat (first | go_values | go_skip | go_guarded | go_step | go_upon)
            have hwW := HGS.out
            obtain ⟨o9, b9⟩ := HO9.out
            obtain ⟨L6, R6, F6, T6⟩ := HLC.out
            obtain ⟨q1, q2, q3, q4, q5, q6⟩ := HQ.out
            have hsw : (qs.set k (vA, vB, vC, vD)).set p (uA, uB, uC, uD) = (qs.set k (atT qs p)).set p (atT qs k) := by rw [q5, q6]
            refine ⟨⟨p, (qs.set k (vA, vB, vC, vD)).set p (uA, uB, uC, uD), rfl, by simpa using hql, by omega, ?_, ?_, o9, L6.but b9 (by omega), R6.but b9 (by omega), F6.but b9 (by omega), T6.row (.inl rfl) b9⟩, by simp [intOf]; omega⟩
            · rw [hsw]
              exact (swap_perm (by omega) (by omega)).trans q1
            · rw [hsw, atT_swap (by omega) (by omega)]
              exact down_step q2 (by omega) hpM hpp q3 q4

end Go.Proofs.Ythihgjcnjgpegaa
