/-
  A timer put into a heap.
-/
import Derived.Test.YthihgjcnjgpegaaPut0
import Derived.BigRegion
namespace Go.Proofs.Ythihgjcnjgpegaa
open Go.ChangeShapes Go.WideShapes Go.ChangeAt Go.RowKit

set_option maxHeartbeats 8000000 in
theorem putT (B : Nat) (uv fv iv : Value) (ps : List TimerD) (a b c d : Int) (w : World) (hL : Loc w B [uv, .func (.func 38) #[] #[], iv, fv]) (ho : TimerO w (B + 1) w.heap.size iv ps) (hn : ps.length ≤ 1000) (hh : Heap (atT ps) ps.length) :
    Calls Try.prog 39 #[.pointer (some ⟨B, 1, none⟩), .agg #[.int .i64 a, .int .i64 b, .int .i64 c, .int .i64 d]] w fun e w' => e = .returned (.tuple #[]) ∧ ∃ (ps' : List TimerD) (iv' : Value), Loc w' B [uv, .func (.func 38) #[] #[], iv', fv] ∧ TimerO w' (B + 1) w'.heap.size iv' ps' ∧ ps'.Perm ((a, b, c, d) :: ps) ∧ Heap (atT ps') ps'.length ∧ Touch B iv w w' ∧ (iv'.ownBlock = iv.ownBlock ∨ ∀ g, iv'.ownBlock = some g → w.heap.size ≤ g) := by
  obtain ⟨ao, cap, hfm⟩ := ho.form
  subst hfm
  obtain ⟨i0, hi0, hz0, hz1, hz2⟩ := info_parts info46
  have hBl := hL.lt
  go_enter Try.func39, Try.ntmps39
  repeat (first | go_values | go_skip | go_guarded | go_step | go_upon)
  obtain ⟨W, hW⟩ : ∃ W, W = w.alloc (.cells #[.int .i64 a, .int .i64 b, .int .i64 c, .int .i64 d] 46) := ⟨_, rfl⟩
  have hKW : Kept w W := by rw [hW]; exact (But.refl _ _ _).alloc _
  have LI : Loc W w.heap.size (timerC (a, b, c, d)) := by rw [hW]; exact Loc.new w _ 46
  have hWs : W.heap.size = w.heap.size + 1 := by rw [hW]; simp
  rw [← hW]
  clear hW
  have LB := hL.kept hKW
  have oW : TimerO W (B + 1) w.heap.size (.slice ao ps.length cap) ps := TimerO.kept ho hKW
  have b1 := LB.cell 1 rfl
  have b2 := LB.cell 2 rfl
  have bf2 := LB.frozen 2
  have x0 := LI.cell 0 rfl
  have x1 := LI.cell 1 rfl
  have x2 := LI.cell 2 rfl
  have x3 := LI.cell 3 rfl
  have hBW : B < W.heap.size := by omega
  have hIW : w.heap.size < W.heap.size := by omega
  have HWS : Hid _ := hWs
  clear hWs
  apply wp_cut2 (F := fun ao3 cap3 W' => Loc W' B [uv, .func (.func 38) #[] #[], .slice ao3 (ps.length + 1) cap3, fv] ∧ TimerO W' (B + 1) W'.heap.size (.slice ao3 (ps.length + 1) cap3) (ps ++ [(a, b, c, d)]) ∧ Touch B (.slice ao ps.length cap) w W' ∧ ((Value.slice ao3 (ps.length + 1) cap3).ownBlock = (Value.slice ao ps.length cap).ownBlock ∨ ∀ g, (Value.slice ao3 (ps.length + 1) cap3).ownBlock = some g → w.heap.size ≤ g))
  · go_region_law (refine step_append_at rfl (.tmp 10) (.tmp 12) 23 rfl (B + 1) 46 i0 (.agg #[.int .i64 0, .int .i64 0, .int .i64 0, .int .i64 0]) 4 32 Try.underlying23 hi0 hz0 hz1 hz2 rfl (by decide) (.slice ao ps.length cap) ps.length (ps.flatMap timerC) (by simp [Act.eval]) (own_ks oW (((But.refl _ _ W).drew).alloc _)) ⟨W.heap.size, 0, none⟩ 1 1 (timerC (a, b, c, d)) (by simp [Act.eval]) rfl (news4 (Loc.new W.drew (timerC (a, b, c, d)) 46)) (one4 _) (by unfold maxLen; omega) (by omega) (by simp; omega) ?_
                   intro v3 w3 hown hgrow hob
                   obtain ⟨hT3, hLoc3, -⟩ := app_timer (TimerO.kept oW (((But.refl _ _ W).drew).alloc (.cells (timerC (a, b, c, d)).toArray 46))) rfl hown hgrow
                   obtain ⟨ao3, cap3, hf3⟩ := hT3.form
                   have hl3 : (ps ++ [(a, b, c, d)]).length = ps.length + 1 := (by simp)
                   rw [hl3] at hf3
                   subst hf3
                   have LB3 := hLoc3 _ _ (LB.kept (((But.refl _ _ W).drew).alloc (.cells (timerC (a, b, c, d)).toArray 46))) (.inl (by omega))
                   have HTO : Hid (Touch B (.slice ao ps.length cap) w w3) := (Touch.of (hKW.trans (((But.refl _ _ W).drew).alloc (.cells (timerC (a, b, c, d)).toArray 46)))).grown (.inl rfl) hgrow
                   have HOB : Hid _ := hob
                   have b1 := LB3.cell 1 rfl
                   have b2 := LB3.cell 2 rfl
                   have bf2 := LB3.frozen 2
                   have HT3 : Hid (TimerO _ _ _ _ _) := hT3
                   have HL3 : Hid (Loc _ _ _) := LB3
                   clear hown hgrow hT3 hLoc3 hob LB3 hl3)
    all_goals
      refine ⟨ao3, cap3, rfl, Loc.set HL3.out 2 _, (TimerO.but (lo' := B) (hi' := B + 1) HT3.out ((But.refl _ _ _).setCell (by simp) (by simp) _) (by omega)).low, HTO.out.setB _ _, ?_⟩
      rcases HOB.out with h | h
      · exact .inl h
      · refine .inr fun g hg => ?_
        rw [h] at hg
        cases hg
        simp
        omega
  · rintro ao1 cap1 w1 ⟨L1, o1, T1, ob1⟩
    clear b1 b2 bf2 x0 x1 x2 x3 LB LI oW hBW hIW
    have b2 := L1.cell 2 rfl
    obtain ⟨ls, hls⟩ : ∃ ls, ps ++ [(a, b, c, d)] = ls := ⟨_, rfl⟩
    obtain ⟨m, hm⟩ : ∃ m, ps.length = m := ⟨_, rfl⟩
    rw [hm] at L1 o1 T1 ob1 b2 hn hh ⊢
    rw [hls] at o1
    have hlen : ls.length = m + 1 := by rw [← hls, ← hm]; simp
    have o1' : TimerO w1 (B + 1) w1.heap.size (.slice ao1 (m + 1) cap1) ls := o1
    obtain ⟨g, cap9, hfs⟩ := own_some (n := m + 1) (by have := o1'.1; rw [hlen] at this; exact this) (by omega)
    cases hfs
    have hgB : B + 1 ≤ g := (own_lt o1'.1 (g := g) rfl).1
    have hgw1 : g < w1.heap.size := o1'.2 g rfl
    have hg' : (Value.slice ao m cap).ownBlock = some g ∨ w.heap.size ≤ g := by
      rcases ob1 with h | h
      · exact .inl (h.symm.trans rfl)
      · exact .inr (h g rfl)
    have hUp : UpTo (atT ls) (m + 1) m := by
      constructor
      · intro i h0 hi hne
        have e1 : ∀ x, x < m → atT ls x = atT ps x := fun x hx => by
          unfold atT
          rw [← hls, List.getElem?_append_left (by omega)]
        rw [e1 _ (by omega), e1 _ (by omega)]
        exact hh i h0 (by omega)
      · intro i h0 hi hp hk
        omega
    have HP0 : Hid (ls.Perm ((a, b, c, d) :: ps)) := by
      show ls.Perm _
      rw [← hls]
      exact List.perm_append_comm
    have HOB1 : Hid _ := ob1
    clear ob1 hls o1 hh HWS hKW ho hL hz0 hz1 hz2 hi0
    go_wp2_with fail
    clear b2
    go_loopw [4, 5] (fun at' _ wr => ∃ (k : Nat) (qs : List TimerD), k < m + 1 ∧ at' = .int .i64 (k : Int) ∧ qs.length = m + 1 ∧ qs.Perm ls ∧ UpTo (atT qs) (m + 1) k ∧ TimerO wr (B + 1) wr.heap.size (.slice (some ⟨g, 0, none⟩) (m + 1) cap1) qs ∧ Loc wr B [uv, .func (.func 38) #[] #[], .slice (some ⟨g, 0, none⟩) (m + 1) cap1, fv] ∧ Touch B (.slice ao m cap) w wr ∧ g < wr.heap.size) (fun at' _ _ => (intOf at').toNat)
    case atStart => exact ⟨m, ls, by omega, rfl, hlen, List.Perm.refl _, hUp, o1', L1, T1, hgw1⟩
    case round =>
      obtain ⟨k, qs, hk, rfl, hql, hqp, hup, ho, hL, hT, hgw⟩ := hrel
      have b1 := hL.cell 1 rfl
      have b2 := hL.cell 2 rfl
      have hBw := hL.lt
      by_cases hk0 : 0 < k
      · obtain ⟨p, hp⟩ : ∃ p, (k - 1) / 2 = p := ⟨_, rfl⟩
        have gk := atT_some (l := qs) (i := k) (by omega)
        have gp := atT_some (l := qs) (i := p) (by omega)
        obtain ⟨⟨xa, xb, xc, xd⟩, hx⟩ : ∃ t, atT qs k = t := ⟨_, rfl⟩
        obtain ⟨⟨ya, yb, yc, yd⟩, hy⟩ : ∃ t, atT qs p = t := ⟨_, rfl⟩
        rw [hx] at gk
        rw [hy] at gp
        obtain ⟨c0, c1, c2, c3, cz⟩ := ho.cells gk
        obtain ⟨d0, d1, d2, d3, -⟩ := ho.cells gp
        dsimp only at c0 c1 c2 c3 d0 d1 d2 d3
        have hdiv : ((k : Int) - 1).tdiv 2 = (p : Int) := by rw [Int.tdiv_eq_ediv_of_nonneg (by omega)]; omega
        have hkn : (k : Int) < (m : Int) + 1 := by omega
        have hpn : (p : Int) < (m : Int) + 1 := by omega
        have hd1 : decide (0 < (k : Int)) = true := by simp; omega
        have HQ : Hid (qs.length = m + 1 ∧ qs.Perm ls ∧ UpTo (atT qs) (m + 1) k ∧ atT qs k = (xa, xb, xc, xd) ∧ atT qs p = (ya, yb, yc, yd) ∧ qs[k]? = some (xa, xb, xc, xd) ∧ qs[p]? = some (ya, yb, yc, yd)) := ⟨hql, hqp, hup, hx, hy, gk, gp⟩
        have HO : Hid (TimerO _ _ _ _ _) := ho
        have HL : Hid (Loc _ _ _) := hL
        have HT : Hid (Touch _ _ _ _) := hT
        clear hql hqp hup hx hy gk gp ho hL hT cz
        cases q : aheadB (xa, xb, xc, xd) (ya, yb, yc, yd) with
        | false =>
          repeat (first | go_values | go_skip | go_guarded | go_step | go_upon)
          refine wp_region_kept (by kernel_rfl) (by kernel_rfl) ?_
          have hcc := KW.cell_eq wr
          repeat (go_big_quiet_step (first | (go_at_call 38; with_reducible exact kw_call (calls_bool q (firesAhead xa xb xc xd ya yb yc yd _)))))
          refine wpQuiet_nil ?_
          rintro w5 ⟨⟨w6, k5⟩, rfl⟩
          clear hcc
          repeat (first | go_values | go_skip | go_guarded | go_step | go_upon)
          refine bodyPost_ret (v := .tuple #[]) (by simp [results, Try.results39, go_sem]) rfl ?_
          obtain ⟨h1, h2, h3, h4, h5, h6, h7⟩ := HQ.out
          rw [hm]
          refine ⟨rfl, qs, _, HL.out.kept k5, (TimerO.kept HO.out k5).low, h2.trans HP0.out, ?_, HT.out.kept k5, HOB1.out⟩
          rw [h1]
          refine up_done h3 (.inr ?_)
          rw [hp, h4, h5]
          exact ahead_no q
        | true =>
          repeat (first | go_values | go_skip | go_guarded | go_step | go_upon)
          refine wp_region_kept (by kernel_rfl) (by kernel_rfl) ?_
          have hcc := KW.cell_eq wr
          repeat (go_big_quiet_step (first | (go_at_call 38; with_reducible exact kw_call (calls_bool q (firesAhead xa xb xc xd ya yb yc yd _)))))
          refine wpQuiet_nil ?_
          rintro w5 ⟨⟨w6, k5⟩, rfl⟩
          clear hcc
          have L5 := HL.out.kept k5
          have hBw := L5.lt
          have b2 := L5.cell 2 rfl
          have o5 := TimerO.kept HO.out k5
          have T5 := HT.out.kept k5
          obtain ⟨h1, h2, h3, h4, h5, h6, h7⟩ := HQ.out
          obtain ⟨c0, c1, c2, c3, cz⟩ := o5.cells h6
          obtain ⟨d0, d1, d2, d3, -⟩ := o5.cells h7
          have z0 := cz (k * 4)
          have z1 := cz (k * 4 + 1)
          have z2 := cz (k * 4 + 2)
          have z3 := cz (k * 4 + 3)
          obtain ⟨e1, e2, e3, o6⟩ := o5.store h1.symm h6 (ya, yb, yc, yd)
          have h8 : (qs.set k (ya, yb, yc, yd))[p]? = some (ya, yb, yc, yd) := by rw [List.getElem?_set_ne (by omega)]; exact h7
          obtain ⟨f0, f1, f2, f3, fz⟩ := o6.cells h8
          have y0 := fz (p * 4)
          have y1 := fz (p * 4 + 1)
          have y2 := fz (p * 4 + 2)
          have y3 := fz (p * 4 + 3)
          obtain ⟨r1, r2, r3, o7⟩ := o6.store (by simpa using h1.symm) h8 (xa, xb, xc, xd)
          have HO7 : Hid (TimerO _ _ _ _ _) := o7
          have HL5 : Hid (Loc _ _ _) := L5
          have HT5 : Hid (Touch _ _ _ _) := T5
          have HQ2 : Hid _ := HQ.out
          dsimp only at c0 c1 c2 c3 d0 d1 d2 d3 e1 e2 e3 f0 f1 f2 f3 r1 r2 r3
          clear cz fz o5 o6 o7 L5 T5 h1 h2 h3 h4 h5 h6 h7 h8
          repeat (first | go_values | go_skip | go_guarded | go_step | go_upon)
          have hne : B ≠ g := by omega
          apply wp_cut0 (F := fun W' => W' = ((((((((w5.setCell ⟨g, k * 4, none⟩ (.int .i64 ya)).setCell ⟨g, k * 4 + 1, none⟩ (.int .i64 yb)).setCell ⟨g, k * 4 + 2, none⟩ (.int .i64 yc)).setCell ⟨g, k * 4 + 3, none⟩ (.int .i64 yd)).setCell ⟨g, p * 4, none⟩ (.int .i64 xa)).setCell ⟨g, p * 4 + 1, none⟩ (.int .i64 xb)).setCell ⟨g, p * 4 + 2, none⟩ (.int .i64 xc)).setCell ⟨g, p * 4 + 3, none⟩ (.int .i64 xd)).drew)
          · go_big_region
            all_goals exact ⟨rfl, by with_reducible rfl⟩
          · intro w7 hw7
            obtain ⟨h1, h2, h3, h4, h5, h6, h7⟩ := HQ2.out
            have ho7 : TimerO w7 (B + 1) wr.heap.size (.slice (some ⟨g, 0, none⟩) (m + 1) cap1) ((qs.set k (ya, yb, yc, yd)).set p (xa, xb, xc, xd)) ∧ But g (g + 1) w5 w7 := by
              rw [hw7]
              have bx : But g (g + 1) w5 ((((((((w5.setCell ⟨g, k * 4, none⟩ (.int .i64 ya)).setCell ⟨g, k * 4 + 1, none⟩ (.int .i64 yb)).setCell ⟨g, k * 4 + 2, none⟩ (.int .i64 yc)).setCell ⟨g, k * 4 + 3, none⟩ (.int .i64 yd)).setCell ⟨g, p * 4, none⟩ (.int .i64 xa)).setCell ⟨g, p * 4 + 1, none⟩ (.int .i64 xb)).setCell ⟨g, p * 4 + 2, none⟩ (.int .i64 xc)).setCell ⟨g, p * 4 + 3, none⟩ (.int .i64 xd)) := ((((((((But.refl _ _ _).setCell (by simp) (by simp) _).setCell (by simp) (by simp) _).setCell (by simp) (by simp) _).setCell (by simp) (by simp) _).setCell (by simp) (by simp) _).setCell (by simp) (by simp) _).setCell (by simp) (by simp) _).setCell (by simp) (by simp) _
              exact ⟨TimerO.kept HO7.out ((But.refl _ _ _).drew), bx.drew⟩
            clear hw7 c0 c1 c2 c3 d0 d1 d2 d3 e1 e2 e3 f0 f1 f2 f3 r1 r2 r3 z0 z1 z2 z3 y0 y1 y2 y3 b2
            have HO8 : Hid _ := ho7
            have HQ3 : Hid _ := HQ2.out
            clear ho7 h1 h2 h3 h4 h5 h6 h7
            repeat (first | go_values | go_skip | go_guarded | go_step | go_upon)
            obtain ⟨h1, h2, h3, h4, h5, h6, h7⟩ := HQ3.out
            obtain ⟨o8, b8⟩ := HO8.out
            have hpk : p < k := by omega
            have hsw : (qs.set k (ya, yb, yc, yd)).set p (xa, xb, xc, xd) = (qs.set k (atT qs p)).set p (atT qs k) := by rw [h4, h5]
            refine ⟨⟨p, (qs.set k (ya, yb, yc, yd)).set p (xa, xb, xc, xd), by omega, rfl, by simpa using h1, ?_, ?_, o8.low, Loc.but HL5.out b8 (by omega), HT5.out.row hg' b8, ?_⟩, by simp [intOf]; omega⟩
            · rw [hsw]
              exact (swap_perm (by omega) (by omega)).trans h2
            · rw [hsw, atT_swap (by omega) (by omega)]
              have := up_step h3 hk0 hk (by rw [hp, h4, h5]; exact ahead_yes q)
              rw [hp] at this
              exact this
            · have := b8.size
              have := k5.size
              omega
      · have hk00 : k = 0 := by omega
        subst hk00
        go_wp2
        go_end0
        rw [hm]
        refine ⟨rfl, qs, _, hL, ho, hqp.trans HP0.out, ?_, hT, HOB1.out⟩
        rw [hql]
        exact up_done hup (.inl rfl)

end Go.Proofs.Ythihgjcnjgpegaa
