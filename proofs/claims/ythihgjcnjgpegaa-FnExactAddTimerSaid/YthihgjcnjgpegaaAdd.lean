/-
  What the program's AddTimer answers.
-/
import Derived.Test.YthihgjcnjgpegaaPut
import Derived.Test.YthihgjcnjgpegaaGood
import Derived.Test.YthihgjcnjgpegaaIns
namespace Go.Proofs.Ythihgjcnjgpegaa
open Go.ChangeShapes Go.WideShapes Go.ChangeAt Go.RowKit

theorem own_other {w w' : World} {base lo hi : Nat} {e : TypeId} {size : Nat} {v : Value} {n : Nat} {xs : List Value} (h : w.ownsRow base e size v n xs) (k : But lo hi w w') (hne : ∀ g, v.ownBlock = some g → g < lo ∨ hi ≤ g) : w'.ownsRow base e size v n xs := by
  refine ⟨h.1, ?_⟩
  rcases h.2 with h0 | ⟨g, cap, cur, rfl, h1, h2, h3⟩
  · exact .inl h0
  · exact .inr ⟨g, cap, cur, rfl, h1, (k.block g (Array.getElem?_eq_some_iff.1 h2).1 (hne g rfl)).trans h2, h3⟩

set_option maxRecDepth 100000
set_option maxHeartbeats 8000000 in
theorem implAdd (c : ClockD) (ta tb tc td : Int) (v : Value) (w : World) (hv : ClockAt w v c) :
    Calls Try.prog 22 #[v, .agg #[.int .i64 ta, .int .i64 tb, .int .i64 tc, .int .i64 td]] w fun e w' => ∃ v', e = .returned (.tuple #[v', .bool (addA c (ta, tb, tc, td)).2]) ∧ ClockO w' w.heap.size w'.heap.size v' (addA c (ta, tb, tc, td)).1 ∧ Kept w w' := by
  obtain ⟨ao, cap, hfm⟩ := hv.form
  subst hfm
  have hr := hv.row
  obtain ⟨now, l⟩ := c
  dsimp only at *
  cases hg : goodC (now, l) with
  | false =>
    rw [show addA (now, l) (ta, tb, tc, td) = ((0, []), false) by simp [addA, hg]]
    go_enter Try.func22, Try.ntmps22
    repeat (first | go_values | go_skip | go_guarded | go_step | go_upon)
    go_at_call 18
    refine (implGood (now, l) _ _ (hv.kept ((((But.refl _ _ _).alloc _).alloc _).alloc _))).mono ?_
    rintro e w1 ⟨rfl, k1⟩
    rw [hg]
    have K1 : Kept w w1 := ((((But.refl _ _ _).alloc _).alloc _).alloc _).trans k1
    have L0 := (Loc.alloc (Loc.alloc (Loc.new w [.int .i64 now, .slice ao l.length cap] 25) (.cells #[.int .i64 ta, .int .i64 tb, .int .i64 tc, .int .i64 td] 46)) (.cells #[.int .i64 0, .slice none 0 0] 25)).kept k1
    have LT := (Loc.alloc (Loc.new (w.alloc (.cells #[.int .i64 now, .slice ao l.length cap] 25)) [.int .i64 ta, .int .i64 tb, .int .i64 tc, .int .i64 td] 46) (.cells #[.int .i64 0, .slice none 0 0] 25)).kept k1
    have L1 := (Loc.new ((w.alloc (.cells #[.int .i64 now, .slice ao l.length cap] 25)).alloc (.cells #[.int .i64 ta, .int .i64 tb, .int .i64 tc, .int .i64 td] 46)) [.int .i64 0, .slice none 0 0] 25).kept k1
    simp only [World.size_alloc] at L1 LT
    have hw1 := L1.lt
    have hw0 := L0.lt
    have s0 := L0.cell 0 rfl
    have s1 := L0.cell 1 rfl
    have t0 := LT.cell 0 rfl
    have t1 := LT.cell 1 rfl
    have t2 := LT.cell 2 rfl
    have t3 := LT.cell 3 rfl
    have hwt := LT.lt
    have r0 := L1.cell 0 rfl
    have r1 := L1.cell 1 rfl
    have rf0 := L1.frozen 0
    have rf1 := L1.frozen 1
    clear k1
    dsimp only
    repeat (first | go_values | go_skip | go_guarded | go_step | go_upon)
    have B : But (w.heap.size + 1 + 1) (w.heap.size + 1 + 1 + 1) w1 ((w1.setCell ⟨w.heap.size + 1 + 1, 0, none⟩ (.int .i64 0)).setCell ⟨w.heap.size + 1 + 1, 1, none⟩ (.slice none 0 0)) := ((But.refl _ _ _).setCell (by simp) (by simp) _).setCell (by simp) (by simp) _
    refine bodyPost_ret (v := .tuple #[.agg #[.int .i64 0, .slice none 0 0], .bool false]) (by simp [results, Try.results22, go_sem, r0, r1]) rfl ?_
    exact ⟨_, rfl, zero_clock _ _ _, K1.onto B (by omega)⟩
  | true =>
    have hlen : l.length ≤ 20 := good_len hg
    have hri : Rising l := good_rising hg
    go_enter Try.func22, Try.ntmps22
    repeat (first | go_values | go_skip | go_guarded | go_step | go_upon)
    go_at_call 18
    refine (implGood (now, l) _ _ (hv.kept ((((But.refl _ _ _).alloc _).alloc _).alloc _))).mono ?_
    rintro e w1 ⟨rfl, k1⟩
    rw [hg]
    have K1 : Kept w w1 := ((((But.refl _ _ _).alloc _).alloc _).alloc _).trans k1
    have L0 := (Loc.alloc (Loc.alloc (Loc.new w [.int .i64 now, .slice ao l.length cap] 25) (.cells #[.int .i64 ta, .int .i64 tb, .int .i64 tc, .int .i64 td] 46)) (.cells #[.int .i64 0, .slice none 0 0] 25)).kept k1
    have LT := (Loc.alloc (Loc.new (w.alloc (.cells #[.int .i64 now, .slice ao l.length cap] 25)) [.int .i64 ta, .int .i64 tb, .int .i64 tc, .int .i64 td] 46) (.cells #[.int .i64 0, .slice none 0 0] 25)).kept k1
    have L1 := (Loc.new ((w.alloc (.cells #[.int .i64 now, .slice ao l.length cap] 25)).alloc (.cells #[.int .i64 ta, .int .i64 tb, .int .i64 tc, .int .i64 td] 46)) [.int .i64 0, .slice none 0 0] 25).kept k1
    simp only [World.size_alloc] at L1 LT
    have hw1 := L1.lt
    have hw0 := L0.lt
    have s0 := L0.cell 0 rfl
    have s1 := L0.cell 1 rfl
    have t0 := LT.cell 0 rfl
    have t1 := LT.cell 1 rfl
    have t2 := LT.cell 2 rfl
    have t3 := LT.cell 3 rfl
    have hwt := LT.lt
    have r0 := L1.cell 0 rfl
    have r1 := L1.cell 1 rfl
    have rf0 := L1.frozen 0
    have rf1 := L1.frozen 1
    clear k1
    dsimp only
    repeat (first | go_values | go_skip | go_guarded | go_step | go_upon)
    go_at_call 52
    refine (copyClock (now, l) _ _ (hv.kept K1) (by dsimp only; omega)).mono ?_
    rintro e w2 ⟨v2, rfl, o2, k2⟩
    obtain ⟨ao2, cap2, hfm⟩ := o2.form
    subst hfm
    have hT : TimerO w2 w1.heap.size w2.heap.size (.slice ao2 l.length cap2) l := o2.row
    have K2 := K1.trans k2
    have s2 := k2.size
    have L0 := L0.kept k2
    have LT := LT.kept k2
    have L1 := L1.kept k2
    have s0 := L0.cell 0 rfl
    have s1 := L0.cell 1 rfl
    have t0 := LT.cell 0 rfl
    have hwt := LT.lt
    have hw0 := L0.lt
    clear t1 t2 t3 r0 r1 rf0 rf1 k2 o2
    dsimp only
    repeat (first | go_values | go_skip | go_guarded | go_step | go_upon)
    go_at_call 53
    refine (findTimer l ta _ _ (hr.kept (K2.alloc _)) hri (by omega)).mono ?_
    rintro e w3 ⟨i, rfl, hpos, k3⟩
    have j3 : Kept w2 w3 := ((But.refl _ _ w2).alloc _).trans k3
    have LQ := (Loc.new w2 [.int .i64 now, .slice ao2 l.length cap2] 25).kept k3
    have K3 := K2.trans j3
    have s3 := k3.size
    simp only [World.size_alloc] at s3
    have LT := LT.kept j3
    have L1 := L1.kept j3
    have hT := TimerO.kept hT j3
    have t0 := LT.cell 0 rfl
    have t1 := LT.cell 1 rfl
    have t2 := LT.cell 2 rfl
    have t3 := LT.cell 3 rfl
    have q0 := LQ.cell 0 rfl
    have q1 := LQ.cell 1 rfl
    have qf1 := LQ.frozen 1
    have hql := LQ.lt
    have hwt := LT.lt
    have HLQ : Hid (Loc _ _ _) := LQ
    have HL1 : Hid (Loc _ _ _) := L1
    have HK3 : Hid (Kept w w3) := K3
    clear k3 j3 s0 s1 L0 LQ L1 K3 K1 K2 hw0
    cases hh : hasId l ta i with
    | true =>
      obtain ⟨hadd, hil⟩ := add_has (t := (ta, tb, tc, td)) hpos hri hh
      obtain ⟨g, cap4, hfs⟩ := own_some hT.1 (by omega)
      cases hfs
      have hgb := hT.2 g rfl
      have hga := (own_lt hT.1 (g := g) rfl).1
      obtain ⟨p, hp⟩ : ∃ p, l[i]? = some p := ⟨_, List.getElem?_eq_getElem hil⟩
      obtain ⟨d0, d1, d2, d3, dz⟩ := hT.cells hp
      have dz0 := dz (i * 4)
      have dz1 := dz (i * 4 + 1)
      have dz2 := dz (i * 4 + 2)
      have dz3 := dz (i * 4 + 3)
      obtain ⟨e1, e2, e3, hst⟩ := hT.store rfl hp (ta, tb, tc, td)
      have HST : Hid (TimerO _ _ _ _ _) := hst
      have HADD : Hid _ := hadd
      clear hst dz hadd hT
      dsimp only
      repeat (first | go_values | go_skip | go_guarded | go_step | go_upon)
      have BX : But g (g + 1) w3 ((((w3.setCell ⟨g, i * 4, none⟩ (.int .i64 ta)).setCell ⟨g, i * 4 + 1, none⟩ (.int .i64 tb)).setCell ⟨g, i * 4 + 2, none⟩ (.int .i64 tc)).setCell ⟨g, i * 4 + 3, none⟩ (.int .i64 td)) :=
        ((((But.refl _ _ _).setCell (by simp) (by simp) _).setCell (by simp) (by simp) _).setCell (by simp) (by simp) _).setCell (by simp) (by simp) _
      have hTX := HST.out
      have KX := HK3.out.onto BX (by omega)
      have LQ := Loc.but HLQ.out BX (by omega)
      have L1 := Loc.but HL1.out BX (by omega)
      clear e1 e2 e3 d0 d1 d2 d3 dz0 dz1 dz2 dz3 q0 q1 qf1 t0 t1 t2 t3
      go_at_call 18
      refine (implGood (now, (l.set i (ta, tb, tc, td))) _ _ ⟨_, by dsimp only, hTX.at⟩).mono ?_
      rintro e w9 ⟨rfl, k9⟩
      have LR := L1.kept k9
      have LQ := LQ.kept k9
      have hT9 := TimerO.kept hTX k9
      have kw := KX.trans k9
      have r0 := LR.cell 0 rfl
      have r1 := LR.cell 1 rfl
      have rf0 := LR.frozen 0
      have rf1 := LR.frozen 1
      have o0 := LQ.cell 0 rfl
      have o1 := LQ.cell 1 rfl
      have hrl := LR.lt
      have HT9 : Hid (TimerO _ _ _ _ _) := hT9
      have HKW : Hid (Kept w w9) := kw
      clear k9 kw LR LQ hT9 hTX KX L1
      cases hg9 : goodC (now, (l.set i (ta, tb, tc, td))) with
      | false =>
        dsimp only
        repeat (first | go_values | go_skip | go_guarded | go_step | go_upon)
        have B : But (w.heap.size + 1 + 1) (w.heap.size + 1 + 1 + 1) w9 ((w9.setCell ⟨w.heap.size + 1 + 1, 0, none⟩ (.int .i64 0)).setCell ⟨w.heap.size + 1 + 1, 1, none⟩ (.slice none 0 0)) := ((But.refl _ _ _).setCell (by simp) (by simp) _).setCell (by simp) (by simp) _
        refine bodyPost_ret (v := .tuple #[.agg #[.int .i64 0, .slice none 0 0], .bool false]) (by simp [results, Try.results22, go_sem, r0, r1]) rfl ?_
        rw [addA_no HADD.out hg9]
        exact ⟨_, rfl, zero_clock _ _ _, HKW.out.onto B (by omega)⟩
      | true =>
        dsimp only
        repeat (first | go_values | go_skip | go_guarded | go_step | go_upon)
        have B : But (w.heap.size + 1 + 1) (w.heap.size + 1 + 1 + 1) w9 ((w9.setCell ⟨w.heap.size + 1 + 1, 0, none⟩ (.int .i64 now)).setCell ⟨w.heap.size + 1 + 1, 1, none⟩ (.slice (some ⟨g, 0, none⟩) l.length cap2)) := ((But.refl _ _ _).setCell (by simp) (by simp) _).setCell (by simp) (by simp) _
        refine bodyPost_ret (v := .tuple #[.agg #[.int .i64 now, .slice (some ⟨g, 0, none⟩) l.length cap2], .bool true]) (by simp [results, Try.results22, go_sem, r0, r1]) rfl ?_
        rw [addA_yes HADD.out hg hg9]
        refine ⟨_, rfl, ⟨_, rfl, ?_⟩, HKW.out.onto B (by omega)⟩
        exact ((TimerO.but HT9.out B (by omega)).mono (lo' := w.heap.size) (by omega) (Nat.le_refl _)).low
    | false =>
      have hadd := add_new (t := (ta, tb, tc, td)) hpos hri hh
      have hil : i ≤ l.length := hpos.1
      have HADD : Hid _ := hadd
      clear hadd
      dsimp only
      repeat (first | go_values | go_skip | go_guarded | go_step | go_upon)
      have LN := Loc.new w3 (timerC (ta, tb, tc, td)) 46
      have k4 : Kept w3 (w3.alloc (.cells (timerC (ta, tb, tc, td)).toArray 46)) := (But.refl _ _ _).alloc _
      have hT4 := TimerO.kept hT k4
      go_at_call 54
      refine (insertP w1.heap.size l.length i _ (l.flatMap timerC) w3.heap.size (ta, tb, tc, td) _ hT4.1 (one_timers l) LN (fun h => by have := hT4.2 _ h; omega) hil (by omega) (by simp; omega)).mono ?_
      rintro e w5 ⟨v5, rfl, hown5, b5, hblk⟩
      have b5 := b5.inner hT4
      have sz5 := b5.size
      simp only [World.size_alloc] at sz5 hblk
      have hl5 : (l.take i ++ [(ta, tb, tc, td)] ++ l.drop i).length = l.length + 1 := by
        simp only [List.length_append, List.length_take, List.length_drop, List.length_cons, List.length_nil]; omega
      have hfl : (l.take i ++ [(ta, tb, tc, td)] ++ l.drop i).flatMap timerC = (l.flatMap timerC).take (i * 4) ++ timerC (ta, tb, tc, td) ++ (l.flatMap timerC).drop (i * 4) := by
        rw [List.flatMap_append, List.flatMap_append, flat_take 4 timerC timerC_len, flat_drop 4 timerC timerC_len]
        simp
      have K5 := (HK3.out.trans k4).onto b5 (by omega)
      have LQ := Loc.but (Loc.kept HLQ.out k4) b5 (by omega)
      have L1 := Loc.but (Loc.kept HL1.out k4) b5 (by omega)
      obtain ⟨ao5, cap5, hf5, _⟩ := own_form hown5
      subst hf5
      have B2 : But w2.heap.size (w2.heap.size + 1) w5 (w5.setCell ⟨w2.heap.size, 1, none⟩ (.slice ao5 (l.length + 1) cap5)) := (But.refl _ _ _).setCell (by simp) (by simp) _
      have hTX : TimerO (w5.setCell ⟨w2.heap.size, 1, none⟩ (.slice ao5 (l.length + 1) cap5)) w1.heap.size (w5.setCell ⟨w2.heap.size, 1, none⟩ (.slice ao5 (l.length + 1) cap5)).heap.size (.slice ao5 (l.length + 1) cap5) (l.take i ++ [(ta, tb, tc, td)] ++ l.drop i) := by
        unfold TimerO
        rw [hl5, hfl]
        have hall : ∀ g, (Value.slice ao5 (l.length + 1) cap5).ownBlock = some g → g < w2.heap.size ∨ g = w3.heap.size + 1 := fun g hg => by
          rcases hblk with h | h
          · rw [h] at hg
            exact .inl (hT4.2 g hg)
          · rw [h] at hg
            cases hg
            exact .inr rfl
        refine RowO.top ?_
        have hkeep := hown5
        refine own_other hkeep B2 (fun g hg => ?_)
        rcases hall g hg with h | h <;> omega
      have KX := K5.onto B2 (by omega)
      have LQ' := LQ.set 1 (.slice ao5 (l.length + 1) cap5)
      have L1 := L1.but B2 (by omega)
      simp only [List.set] at LQ'
      have q0 := LQ.cell 0 rfl
      have q1 := LQ.cell 1 rfl
      have qf1 := LQ.frozen 1
      have hql := LQ.lt
      have HTX : Hid (TimerO _ _ _ _ _) := hTX
      have HLQ2 : Hid (Loc _ _ _) := LQ'
      have HLX : Hid (Loc _ _ _) := L1
      have HKX : Hid (Kept w _) := KX
      clear LN k4 hT4 hown5 b5 hblk hfl hl5 K5 LQ L1 B2 hTX KX LQ' hT t0 t1 t2 t3
      dsimp only
      repeat (first | go_values | go_skip | go_guarded | go_step | go_upon)
      have hTX := HTX.out
      have KX := HKX.out
      have LQ := HLQ2.out
      have L1 := HLX.out
      clear q0 q1 qf1
      go_at_call 18
      refine (implGood (now, (l.take i ++ [(ta, tb, tc, td)] ++ l.drop i)) _ _ ⟨_, by dsimp only, hTX.at⟩).mono ?_
      rintro e w9 ⟨rfl, k9⟩
      have LR := L1.kept k9
      have LQ := LQ.kept k9
      have hT9 := TimerO.kept hTX k9
      have kw := KX.trans k9
      have r0 := LR.cell 0 rfl
      have r1 := LR.cell 1 rfl
      have rf0 := LR.frozen 0
      have rf1 := LR.frozen 1
      have o0 := LQ.cell 0 rfl
      have o1 := LQ.cell 1 rfl
      have hrl := LR.lt
      have HT9 : Hid (TimerO _ _ _ _ _) := hT9
      have HKW : Hid (Kept w w9) := kw
      clear k9 kw LR LQ hT9 hTX KX L1
      cases hg9 : goodC (now, (l.take i ++ [(ta, tb, tc, td)] ++ l.drop i)) with
      | false =>
        dsimp only
        repeat (first | go_values | go_skip | go_guarded | go_step | go_upon)
        have B : But (w.heap.size + 1 + 1) (w.heap.size + 1 + 1 + 1) w9 ((w9.setCell ⟨w.heap.size + 1 + 1, 0, none⟩ (.int .i64 0)).setCell ⟨w.heap.size + 1 + 1, 1, none⟩ (.slice none 0 0)) := ((But.refl _ _ _).setCell (by simp) (by simp) _).setCell (by simp) (by simp) _
        refine bodyPost_ret (v := .tuple #[.agg #[.int .i64 0, .slice none 0 0], .bool false]) (by simp [results, Try.results22, go_sem, r0, r1]) rfl ?_
        rw [addA_no HADD.out hg9]
        exact ⟨_, rfl, zero_clock _ _ _, HKW.out.onto B (by omega)⟩
      | true =>
        dsimp only
        repeat (first | go_values | go_skip | go_guarded | go_step | go_upon)
        have B : But (w.heap.size + 1 + 1) (w.heap.size + 1 + 1 + 1) w9 ((w9.setCell ⟨w.heap.size + 1 + 1, 0, none⟩ (.int .i64 now)).setCell ⟨w.heap.size + 1 + 1, 1, none⟩ (.slice ao5 (l.length + 1) cap5)) := ((But.refl _ _ _).setCell (by simp) (by simp) _).setCell (by simp) (by simp) _
        refine bodyPost_ret (v := .tuple #[.agg #[.int .i64 now, .slice ao5 (l.length + 1) cap5], .bool true]) (by simp [results, Try.results22, go_sem, r0, r1]) rfl ?_
        rw [addA_yes HADD.out hg hg9]
        refine ⟨_, rfl, ⟨_, rfl, ?_⟩, HKW.out.onto B (by omega)⟩
        exact ((TimerO.but HT9.out B (by omega)).mono (lo' := w.heap.size) (by omega) (Nat.le_refl _)).low

end Go.Proofs.Ythihgjcnjgpegaa
