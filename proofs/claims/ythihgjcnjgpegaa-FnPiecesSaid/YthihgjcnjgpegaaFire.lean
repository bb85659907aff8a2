/-
  A timer fires.
-/
import Derived.Test.YthihgjcnjgpegaaPutT
import Derived.Test.YthihgjcnjgpegaaDue
namespace Go.Proofs.Ythihgjcnjgpegaa
open Go.ChangeShapes Go.WideShapes Go.ChangeAt Go.RowKit
theorem info83 : (Try.prog.info? 83).map (fun i => (i.zero, i.size, i.bytes)) = some (some (.agg #[.int .i64 0, .int .i64 0]), 2, 16) := by kernel_rfl

theorem own_far {w w' : World} {base lo hi : Nat} {e : TypeId} {size : Nat} {v : Value} {n : Nat} {xs : List Value} (h : w.ownsRow base e size v n xs) (k : But lo hi w w') (hne : ∀ g, v.ownBlock = some g → g < lo ∨ hi ≤ g) : w'.ownsRow base e size v n xs := by
  refine ⟨h.1, ?_⟩
  rcases h.2 with h0 | ⟨g, cap, cur, rfl, h1, h2, h3⟩
  · exact .inl h0
  · exact .inr ⟨g, cap, cur, rfl, h1, (k.block g (Array.getElem?_eq_some_iff.1 h2).1 (hne g rfl)).trans h2, h3⟩

set_option maxRecDepth 100000
set_option maxHeartbeats 4000000 in
theorem fireT (B : Nat) (u : Int) (iv fv : Value) (ps : List TimerD) (fs : List FiredD) (a b c d : Int) (w : World) (hL : Loc w B [.int .i64 u, .func (.func 38) #[] #[], iv, fv]) (ho : TimerO w (B + 1) w.heap.size iv ps) (hf : FiredO w (B + 1) w.heap.size fv fs) (hn : ps.length ≤ 1000) (hnf : fs.length ≤ 100000) (hh : Heap (atT ps) ps.length) (h1 : 0 ≤ b) (h2 : b ≤ 1000000) (h3 : 0 ≤ c) (h4 : c ≤ 1000000) (h5 : -1000000 ≤ d) (h6 : d ≤ 1000000) :
    Calls Try.prog 42 #[.pointer (some ⟨B, 0, none⟩), .agg #[.int .i64 a, .int .i64 b, .int .i64 c, .int .i64 d]] w fun e w' => e = .returned (.tuple #[]) ∧ ∃ (ps' : List TimerD) (iv' fv' : Value), Loc w' B [.int .i64 u, .func (.func 38) #[] #[], iv', fv'] ∧ TimerO w' (B + 1) w'.heap.size iv' ps' ∧ FiredO w' (B + 1) w'.heap.size fv' (fs ++ [(b, a)]) ∧ ps'.Perm (again (a, b, c, d) ++ ps) ∧ Heap (atT ps') ps'.length ∧ ∀ u0, Kept u0 w → u0.heap.size ≤ B → Kept u0 w' := by
  obtain ⟨ao, cap, hfm⟩ := hf.form
  subst hfm
  obtain ⟨i0, hi0, hz0, hz1, hz2⟩ := info_parts info83
  have hBl := hL.lt
  go_enter Try.func42, Try.ntmps42
  repeat (first | go_values | go_skip | go_guarded | go_step | go_upon)
  obtain ⟨W, hW⟩ : ∃ W, W = w.alloc (.cells #[.int .i64 a, .int .i64 b, .int .i64 c, .int .i64 d] 46) := ⟨_, rfl⟩
  have hKW : Kept w W := by rw [hW]; exact (But.refl _ _ _).alloc _
  have LI : Loc W w.heap.size (timerC (a, b, c, d)) := by rw [hW]; exact Loc.new w _ 46
  have HWS : Hid (W.heap.size = w.heap.size + 1) := by show W.heap.size = _; rw [hW]; simp
  rw [← hW]
  clear hW
  have LB := hL.kept hKW
  have oW : FiredO W (B + 1) w.heap.size (.slice ao fs.length cap) fs := FiredO.kept hf hKW
  have b2 := LB.cell 3 rfl
  have bf2 := LB.frozen 3
  have x0 := LI.cell 0 rfl
  have x1 := LI.cell 1 rfl
  have hBW : B < W.heap.size := by have := HWS.out; omega
  have hIW : w.heap.size < W.heap.size := by have := HWS.out; omega
  dsimp only at x0 x1
  apply wp_cut2 (F := fun ao3 cap3 W' => Loc W' B [.int .i64 u, .func (.func 38) #[] #[], iv, .slice ao3 (fs.length + 1) cap3] ∧ FiredO W' (B + 1) W'.heap.size (.slice ao3 (fs.length + 1) cap3) (fs ++ [(b, a)]) ∧ Touch B (.slice ao fs.length cap) w W' ∧ Loc W' w.heap.size (timerC (a, b, c, d)) ∧ ∀ g, (Value.slice ao3 (fs.length + 1) cap3).ownBlock = some g → g ≠ w.heap.size)
  · go_region_law (refine step_append_at rfl (.tmp 8) (.tmp 14) 28 rfl (B + 1) 83 i0 (.agg #[.int .i64 0, .int .i64 0]) 2 16 Try.underlying28 hi0 hz0 hz1 hz2 rfl (by decide) (.slice ao fs.length cap) fs.length (fs.flatMap firedC) (by simp [Act.eval]) (own_ks oW (((But.refl _ _ W).drew).alloc _)) ⟨W.heap.size, 0, none⟩ 1 1 (firedC (b, a)) (by simp [Act.eval]) rfl (news2 (Loc.new W.drew (firedC (b, a)) 83)) (one2 _) (by unfold maxLen; omega) (by omega) (by simp; omega) ?_
                   intro v3 w3 hown hgrow hob
                   obtain ⟨hT3, hLoc3, -⟩ := app_fired (FiredO.kept oW (((But.refl _ _ W).drew).alloc (.cells (firedC (b, a)).toArray 83))) rfl hown hgrow
                   obtain ⟨ao3, cap3, hf3⟩ := hT3.form
                   have hl3 : (fs ++ [(b, a)]).length = fs.length + 1 := (by simp)
                   rw [hl3] at hf3
                   subst hf3
                   have LB3 := hLoc3 _ _ (LB.kept (((But.refl _ _ W).drew).alloc (.cells (firedC (b, a)).toArray 83))) (.inl (by omega))
                   have LI3 := hLoc3 _ _ (LI.kept (((But.refl _ _ W).drew).alloc (.cells (firedC (b, a)).toArray 83))) (.inr (Nat.le_refl _))
                   have HTO : Hid (Touch B (.slice ao fs.length cap) w w3) := (Touch.of (hKW.trans (((But.refl _ _ W).drew).alloc (.cells (firedC (b, a)).toArray 83)))).grown (.inl rfl) hgrow
                   have b2 := LB3.cell 3 rfl
                   have bf2 := LB3.frozen 3
                   have x0 := LI3.cell 0 rfl
                   have x1 := LI3.cell 1 rfl
                   dsimp only at x0 x1
                   have HOB : Hid _ := hob
                   have HT3 : Hid (FiredO _ _ _ _ _) := hT3
                   have HL3 : Hid (Loc _ _ _) := LB3
                   have HI3 : Hid (Loc _ _ _) := LI3
                   clear hown hgrow hT3 hLoc3 hob LB3 LI3 hl3)
    all_goals
      refine ⟨ao3, cap3, rfl, Loc.set HL3.out 3 _, (FiredO.but (lo' := B) (hi' := B + 1) HT3.out ((But.refl _ _ _).setCell (by simp) (by simp) _) (by omega)).low, HTO.out.setB _ _, Loc.but (lo := B) (hi := B + 1) HI3.out ((But.refl _ _ _).setCell (by simp) (by simp) _) (by omega), fun g hg => ?_⟩
      rcases HOB.out with h | h
      · have := hf.2 g (h.symm.trans hg)
        omega
      · rw [h] at hg
        cases hg
        simp
        omega
  · rintro ao1 cap1 w1 ⟨L1, f1, T1, I1, ne1⟩
    clear b2 bf2 x0 x1 LB LI oW hBW hIW
    have o1 : TimerO w1 (B + 1) w1.heap.size iv ps := (RowO.touch ho T1 (by omega) (ap_types ho hf (by decide))).low
    have x0 := I1.cell 0 rfl
    have x1 := I1.cell 1 rfl
    have x2 := I1.cell 2 rfl
    have x3 := I1.cell 3 rfl
    have xf1 := I1.frozen 1
    have xf3 := I1.frozen 3
    have hIw := I1.lt
    dsimp only at x0 x1 x2 x3
    have HK0 : Hid (∀ u0, Kept u0 w → u0.heap.size ≤ B → Kept u0 w1) := fun u0 hk hu => T1.new hu (fun g hg => by have := (own_lt hf.1 hg).1; omega) hk
    have HF1 : Hid (FiredO _ _ _ _ _) := f1
    have HO1 : Hid (TimerO _ _ _ _ _) := o1
    have HI1 : Hid (Loc _ _ _) := I1
    clear f1 T1 hz0 hz1 hz2 hi0 I1
    by_cases hc : 0 < c
    · have q1 : decide (0 < c) = true := by simpa using hc
      by_cases hd : 1 < d
      · have q2 : decide (1 < d) = true := by simpa using hd
        repeat (first | go_values | go_skip | go_guarded | go_step | go_upon)
        obtain ⟨X, hX⟩ : ∃ X, X = (w1.setCell ⟨w.heap.size, 3, none⟩ (.int .i64 (d - 1))).setCell ⟨w.heap.size, 1, none⟩ (.int .i64 (b + c)) := ⟨_, rfl⟩
        have BX : But w.heap.size (w.heap.size + 1) w1 X := by rw [hX]; exact ((But.refl _ _ _).setCell (by simp) (by simp) _).setCell (by simp) (by simp) _
        have IX : Loc X w.heap.size (timerC (a, b + c, c, d - 1)) := by rw [hX]; exact (HI1.out.set 3 (.int .i64 (d - 1))).set 1 (.int .i64 (b + c))
        rw [← hX]
        clear hX
        have LX := L1.but BX (by omega)
        have oX : TimerO X (B + 1) X.heap.size iv ps := by
          refine ⟨own_far HO1.out.1 BX (fun g hg => ?_), fun g hg => ?_⟩
          · have := ho.2 g hg
            omega
          · have := HO1.out.2 g hg
            have := BX.size
            omega
        have fX : FiredO X (B + 1) X.heap.size (.slice ao1 (fs.length + 1) cap1) (fs ++ [(b, a)]) := by
          refine ⟨own_far HF1.out.1 BX (fun g hg => ?_), fun g hg => ?_⟩
          · have := ne1 g hg
            omega
          · have := HF1.out.2 g hg
            have := BX.size
            omega
        have HKX : Hid (∀ u0, Kept u0 w → u0.heap.size ≤ B → Kept u0 X) := fun u0 hk hu => (HK0.out u0 hk hu).onto BX (by have := hk.size; omega)
        have x0 := IX.cell 0 rfl
        have x1 := IX.cell 1 rfl
        have x2 := IX.cell 2 rfl
        have x3 := IX.cell 3 rfl
        have hIX := IX.lt
        dsimp only at x0 x1 x2 x3
        clear xf1 xf3 hIw
        go_region_with (go_at_call 39; refine (putT B (.int .i64 u) (.slice ao1 (fs.length + 1) cap1) iv ps a (b + c) c (d - 1) _ (LX.kept ((But.refl _ _ X).drew)) ((TimerO.kept oX ((But.refl _ _ X).drew)).low) hn hh).mono ?_; rintro e w9 ⟨rfl, ps', iv', L9, o9, p9, h9, T9, ob9⟩)
        all_goals
          repeat (first | go_values | go_skip | go_guarded | go_step | go_upon)
          go_end0
          have T9' : Touch B iv X w9 := (Touch.of ((But.refl _ _ X).drew)).trans (.inl rfl) T9
          refine ⟨rfl, ps', iv', _, L9, o9, (RowO.touch fX T9' (by omega) (ap_types fX oX (by decide))).low, ?_, h9, fun u0 hk hu => T9'.new hu (fun g hg => by have := (own_lt oX.1 hg).1; omega) (HKX.out u0 hk hu)⟩
          rw [show again (a, b, c, d) = [(a, b + c, c, d - 1)] by simp [again, hc, hd]]
          exact p9
      · have q2 : decide (1 < d) = false := by simpa using hd
        repeat (first | go_values | go_skip | go_guarded | go_step | go_upon)
        go_end0
        refine ⟨rfl, ps, iv, _, L1, HO1.out, HF1.out, ?_, hh, HK0.out⟩
        rw [show again (a, b, c, d) = [] by simp [again, hd]]
        exact List.Perm.refl _
    · have q1 : decide (0 < c) = false := by simpa using hc
      repeat (first | go_values | go_skip | go_guarded | go_step | go_upon)
      go_end0
      refine ⟨rfl, ps, iv, _, L1, HO1.out, HF1.out, ?_, hh, HK0.out⟩
      rw [show again (a, b, c, d) = [] by simp [again, hc]]
      exact List.Perm.refl _

end Go.Proofs.Ythihgjcnjgpegaa
