/-
  What could stand at a place, in the program.
-/
import Derived.Test.YtopakblckajdmaaFit14
import Derived.Test.YtopakblckajdmaaSplit14
import Derived.Deep.RegionHeld3
namespace Go.Proofs.Ytopakblckajdmaa
open Go.ChangeShapes Go.WideShapes Go.ChangeAt Go.RowKit
theorem wp_region_ksp {P : Program} {id : Nat} {Q : Exit → Act → World → Prop} {a : Act} {w : World} {l : List Oper} (m d : Nat) (hm : P.follows .mixedOrders = true) (hB : Region.lexB .any l.toArray = true) (hR : splitB l.toArray m d = true) (hml : m ≤ l.length)
    (h : wpQuiet P l.toArray (fun w' => ∃ x : KW w, w' = x.w) (fun a' => ∀ w', (∃ x : KW w, w' = x.w) → wpList P l.toArray Q (l.drop m) a' w') (l.take m) a) : (Code.region id l.toArray true).wp P Q a w :=
  wp_region_split m d hm hB hR hml ⟨⟨w.drew, (But.refl _ _ w).drew⟩, rfl⟩ h

set_option maxRecDepth 100000
set_option linter.unusedVariables false
set_option maxHeartbeats 4000000 in
theorem itile (fv : Value) (f : FieldD) (s x y m : Int) (w : World) (hf : FieldAt w fv f) (hg : FieldP s f) (hx : -1 ≤ x ∧ x ≤ 6) (hy : -1 ≤ y ∧ y ≤ 6) :
    Calls Try.prog 78 #[fv, .int .i64 x, .int .i64 y, .int .i64 m] w fun e w' => e = .returned (.int .i64 (tileA f x y m)) ∧ Kept w w' := by
  obtain ⟨ao, cap, hfm⟩ := hf.form
  subst hfm
  have hr := (hf.kept ((But.refl _ _ w).alloc (.cells #[.int .i64 f.1, .int .i64 f.2.1, .slice ao f.2.2.length cap] 28))).row
  by_cases h : 0 ≤ x ∧ x < f.1 ∧ 0 ≤ y ∧ y < f.2.1
  · obtain ⟨i, p, hi, hil, hip, htl, -⟩ := tile_in hg h
    rw [htl]
    obtain ⟨g, o, cap1, ee, c0⟩ := num_get hr hip
    cases ee
    obtain ⟨h1, h2, h3, h4⟩ := h
    have d1 : decide (x < 0) = false := by simp; omega
    have d2 : decide (f.1 ≤ x) = false := by simp; omega
    have d3 : decide (y < 0) = false := by simp; omega
    have d4 : decide (f.2.1 ≤ y) = false := by simp; omega
    have hb1 := hg.1
    have hlen : f.2.2.length ≤ 36 := by have := hg.2.2.1; have := mul_in hg.1.1 hg.1.2 hg.2.1.1 hg.2.1.2; omega
    have m1 : 0 ≤ y * f.1 := Int.mul_nonneg h3 (by omega)
    have m2 : y * f.1 ≤ 36 := by omega
    clear hf hg hr hip htl
    go_enter Try.func78, Try.ntmps78
    go_wp2
    go_ret
    exact ⟨rfl, (But.refl _ _ _).alloc _⟩
  · rw [tile_out h]
    clear hf hg hr
    by_cases h1 : x < 0
    · go_enter Try.func78, Try.ntmps78
      go_wp2
      go_ret
      exact ⟨rfl, (But.refl _ _ _).alloc _⟩
    · have d1 : decide (x < 0) = false := by simp; omega
      by_cases h2 : f.1 ≤ x
      · go_enter Try.func78, Try.ntmps78
        go_wp2
        go_ret
        exact ⟨rfl, (But.refl _ _ _).alloc _⟩
      · have d2 : decide (f.1 ≤ x) = false := by simp; omega
        by_cases h3 : y < 0
        · go_enter Try.func78, Try.ntmps78
          go_wp2
          go_ret
          exact ⟨rfl, (But.refl _ _ _).alloc _⟩
        · have d3 : decide (y < 0) = false := by simp; omega
          have d4 : decide (f.2.1 ≤ y) = true := by simp; omega
          go_enter Try.func78, Try.ntmps78
          go_wp2
          go_ret
          exact ⟨rfl, (But.refl _ _ _).alloc _⟩

set_option maxHeartbeats 4000000 in
theorem iahead (fv : Value) (f : FieldD) (s n m : Int) (w : World) (hf : FieldAt w fv f) (hg : FieldP s f) (h0 : 0 ≤ n) (h1 : n < f.2.2.length) :
    Calls Try.prog 65 #[fv, .int .i64 n, .int .i64 m] w fun e w' => e = .returned (.agg #[.int .i64 (tileA f (n % f.1 - 1) (n / f.1) m), .int .i64 (tileA f (n % f.1) (n / f.1 - 1) m)]) ∧ Kept w w' := by
  obtain ⟨x0, x1, y0, y1, xy⟩ := place_xy hg h0 h1
  obtain ⟨x, hx⟩ : ∃ x, n % f.1 = x := ⟨_, rfl⟩
  obtain ⟨y, hy⟩ : ∃ y, n / f.1 = y := ⟨_, rfl⟩
  have hb1 := hg.1
  have hb2 := hg.2.1
  have hlen : f.2.2.length ≤ 36 := by have := hg.2.2.1; have := mul_in hb1.1 hb1.2 hb2.1 hb2.2; omega
  have zw : (f.1 == 0) = false := by simp; omega
  rw [hx] at x0 x1
  rw [hy] at y0 y1
  rw [hx, hy]
  obtain ⟨ao, cap, hfm⟩ := hf.form
  subst hfm
  have K0 : Kept w (w.alloc (.cells #[.int .i64 f.1, .int .i64 f.2.1, .slice ao f.2.2.length cap] 28)) := (But.refl _ _ _).alloc _
  have HG : Hid (FieldP s f) := hg
  clear xy hg
  go_enter Try.func65, Try.ntmps65
  repeat (first | go_values | go_skip | go_guarded | go_step | go_upon)
  obtain ⟨W, hW⟩ : ∃ x, x = (w.alloc (.cells #[.int .i64 f.1, .int .i64 f.2.1, .slice ao f.2.2.length cap] 28)).alloc (.cells #[.int .i64 0, .int .i64 0] 84) := ⟨_, rfl⟩
  have kz : Kept w W := by rw [hW]; exact ((But.refl _ _ _).alloc _).alloc _
  have L0 : Loc W w.heap.size [.int .i64 f.1, .int .i64 f.2.1, .slice ao f.2.2.length cap] := by rw [hW]; exact (Loc.new w [.int .i64 f.1, .int .i64 f.2.1, .slice ao f.2.2.length cap] 28).alloc _
  have L1 : Loc W (w.heap.size + 1) [.int .i64 0, .int .i64 0] := by rw [hW]; have := Loc.new (w.alloc (.cells #[.int .i64 f.1, .int .i64 f.2.1, .slice ao f.2.2.length cap] 28)) [.int .i64 0, .int .i64 0] 84; simpa using this
  rw [← hW]
  clear hW K0
  have v0 := L0.cell 0 rfl
  have v1 := L0.cell 1 rfl
  have v2 := L0.cell 2 rfl
  have vl := L0.lt
  refine wp_region_kept (by kernel_rfl) (by kernel_rfl) ?_
  have hcc := KW.cell_eq W
  repeat (go_big_quiet_step (fail))
  refine wpQuiet_nil ?_
  rintro y9 ⟨⟨w5, k5⟩, h9⟩
  change y9 = w5 at h9
  subst h9
  clear hcc v0 v1 v2 vl
  have L0 := L0.kept k5
  have L1 := L1.kept k5
  have kz := kz.trans k5
  have v0 := L0.cell 0 rfl
  have v1 := L0.cell 1 rfl
  have v2 := L0.cell 2 rfl
  have vl := L0.lt
  have HFA : ∀ z : KW y9, FieldAt z.w (.agg #[.int .i64 f.1, .int .i64 f.2.1, .slice ao f.2.2.length cap]) f := fun z => hf.kept (kz.trans z.k)
  have b1 : -1 ≤ x - 1 ∧ x - 1 ≤ 6 := by omega
  have b2 : -1 ≤ y ∧ y ≤ 6 := by omega
  have b3 : -1 ≤ x ∧ x ≤ 6 := by omega
  have b4 : -1 ≤ y - 1 ∧ y - 1 ≤ 6 := by omega
  clear hf
  repeat (first | go_values | go_skip | go_guarded | go_step | go_upon)
  refine wp_region_ksp 13 5 (by kernel_rfl) (by kernel_rfl) (by kernel_rfl) (by decide) ?_
  have hcc := KW.cell_eq y9
  simp only [List.take_succ_cons, List.take_zero, List.drop_succ_cons, List.drop_zero]
  iterate 6 (go_big_quiet_step (first | (go_at_call 78; exact kw_call (itile _ f s (x - 1) (y) m _ (HFA _) HG.out b1 b2))))
  repeat (go_big_quiet_step (first | (go_at_call 78; exact kw_call (itile _ f s (x) (y - 1) m _ (HFA _) HG.out b3 b4))))
  refine wpQuiet_nil ?_
  rintro y8 ⟨⟨w6, k6⟩, h9⟩
  change y8 = w6 at h9
  subst h9
  clear hcc HFA v0 v1 v2 vl
  have L1 := L1.kept k6
  have v0 := L1.cell 0 rfl
  have v1 := L1.cell 1 rfl
  have f0 := L1.frozen 0
  have f1 := L1.frozen 1
  have kz := kz.trans k6
  repeat (first | go_values | go_skip | go_guarded | go_step | go_upon)
  have B : But w.heap.size (w.heap.size + 2) y8 ((y8.setCell ⟨w.heap.size + 1, 0, none⟩ (.int .i64 (tileA f (x - 1) (y) m))).setCell ⟨w.heap.size + 1, 1, none⟩ (.int .i64 (tileA f (x) (y - 1) m))) :=
    ((But.refl _ _ _).setCell (by simp) (by simp) _).setCell (by simp) (by simp) _
  refine bodyPost_ret (v := .agg #[.int .i64 (tileA f (x - 1) (y) m), .int .i64 (tileA f (x) (y - 1) m)]) (by simp [results, Try.results65, go_sem, v0, v1]) rfl ?_
  exact ⟨rfl, kz.onto B (by omega)⟩

set_option maxHeartbeats 4000000 in
theorem ibehind (fv : Value) (f : FieldD) (s n m : Int) (w : World) (hf : FieldAt w fv f) (hg : FieldP s f) (h0 : 0 ≤ n) (h1 : n < f.2.2.length) :
    Calls Try.prog 66 #[fv, .int .i64 n, .int .i64 m] w fun e w' => e = .returned (.agg #[.int .i64 (tileA f (n % f.1 + 1) (n / f.1) m), .int .i64 (tileA f (n % f.1) (n / f.1 + 1) m)]) ∧ Kept w w' := by
  obtain ⟨x0, x1, y0, y1, xy⟩ := place_xy hg h0 h1
  obtain ⟨x, hx⟩ : ∃ x, n % f.1 = x := ⟨_, rfl⟩
  obtain ⟨y, hy⟩ : ∃ y, n / f.1 = y := ⟨_, rfl⟩
  have hb1 := hg.1
  have hb2 := hg.2.1
  have hlen : f.2.2.length ≤ 36 := by have := hg.2.2.1; have := mul_in hb1.1 hb1.2 hb2.1 hb2.2; omega
  have zw : (f.1 == 0) = false := by simp; omega
  rw [hx] at x0 x1
  rw [hy] at y0 y1
  rw [hx, hy]
  obtain ⟨ao, cap, hfm⟩ := hf.form
  subst hfm
  have K0 : Kept w (w.alloc (.cells #[.int .i64 f.1, .int .i64 f.2.1, .slice ao f.2.2.length cap] 28)) := (But.refl _ _ _).alloc _
  have HG : Hid (FieldP s f) := hg
  clear xy hg
  go_enter Try.func66, Try.ntmps66
  repeat (first | go_values | go_skip | go_guarded | go_step | go_upon)
  obtain ⟨W, hW⟩ : ∃ x, x = (w.alloc (.cells #[.int .i64 f.1, .int .i64 f.2.1, .slice ao f.2.2.length cap] 28)).alloc (.cells #[.int .i64 0, .int .i64 0] 84) := ⟨_, rfl⟩
  have kz : Kept w W := by rw [hW]; exact ((But.refl _ _ _).alloc _).alloc _
  have L0 : Loc W w.heap.size [.int .i64 f.1, .int .i64 f.2.1, .slice ao f.2.2.length cap] := by rw [hW]; exact (Loc.new w [.int .i64 f.1, .int .i64 f.2.1, .slice ao f.2.2.length cap] 28).alloc _
  have L1 : Loc W (w.heap.size + 1) [.int .i64 0, .int .i64 0] := by rw [hW]; have := Loc.new (w.alloc (.cells #[.int .i64 f.1, .int .i64 f.2.1, .slice ao f.2.2.length cap] 28)) [.int .i64 0, .int .i64 0] 84; simpa using this
  rw [← hW]
  clear hW K0
  have v0 := L0.cell 0 rfl
  have v1 := L0.cell 1 rfl
  have v2 := L0.cell 2 rfl
  have vl := L0.lt
  refine wp_region_kept (by kernel_rfl) (by kernel_rfl) ?_
  have hcc := KW.cell_eq W
  repeat (go_big_quiet_step (fail))
  refine wpQuiet_nil ?_
  rintro y9 ⟨⟨w5, k5⟩, h9⟩
  change y9 = w5 at h9
  subst h9
  clear hcc v0 v1 v2 vl
  have L0 := L0.kept k5
  have L1 := L1.kept k5
  have kz := kz.trans k5
  have v0 := L0.cell 0 rfl
  have v1 := L0.cell 1 rfl
  have v2 := L0.cell 2 rfl
  have vl := L0.lt
  have HFA : ∀ z : KW y9, FieldAt z.w (.agg #[.int .i64 f.1, .int .i64 f.2.1, .slice ao f.2.2.length cap]) f := fun z => hf.kept (kz.trans z.k)
  have b1 : -1 ≤ x + 1 ∧ x + 1 ≤ 6 := by omega
  have b2 : -1 ≤ y ∧ y ≤ 6 := by omega
  have b3 : -1 ≤ x ∧ x ≤ 6 := by omega
  have b4 : -1 ≤ y + 1 ∧ y + 1 ≤ 6 := by omega
  clear hf
  repeat (first | go_values | go_skip | go_guarded | go_step | go_upon)
  refine wp_region_ksp 13 5 (by kernel_rfl) (by kernel_rfl) (by kernel_rfl) (by decide) ?_
  have hcc := KW.cell_eq y9
  simp only [List.take_succ_cons, List.take_zero, List.drop_succ_cons, List.drop_zero]
  iterate 6 (go_big_quiet_step (first | (go_at_call 78; exact kw_call (itile _ f s (x + 1) (y) m _ (HFA _) HG.out b1 b2))))
  repeat (go_big_quiet_step (first | (go_at_call 78; exact kw_call (itile _ f s (x) (y + 1) m _ (HFA _) HG.out b3 b4))))
  refine wpQuiet_nil ?_
  rintro y8 ⟨⟨w6, k6⟩, h9⟩
  change y8 = w6 at h9
  subst h9
  clear hcc HFA v0 v1 v2 vl
  have L1 := L1.kept k6
  have v0 := L1.cell 0 rfl
  have v1 := L1.cell 1 rfl
  have f0 := L1.frozen 0
  have f1 := L1.frozen 1
  have kz := kz.trans k6
  repeat (first | go_values | go_skip | go_guarded | go_step | go_upon)
  have B : But w.heap.size (w.heap.size + 2) y8 ((y8.setCell ⟨w.heap.size + 1, 0, none⟩ (.int .i64 (tileA f (x + 1) (y) m))).setCell ⟨w.heap.size + 1, 1, none⟩ (.int .i64 (tileA f (x) (y + 1) m))) :=
    ((But.refl _ _ _).setCell (by simp) (by simp) _).setCell (by simp) (by simp) _
  refine bodyPost_ret (v := .agg #[.int .i64 (tileA f (x + 1) (y) m), .int .i64 (tileA f (x) (y + 1) m)]) (by simp [results, Try.results66, go_sem, v0, v1]) rfl ?_
  exact ⟨rfl, kz.onto B (by omega)⟩

set_option maxHeartbeats 4000000 in
theorem imf (fs : List (List Int)) (s a b : Int) (ao : Option Addr) (cap : Nat) (w : World) (hv : LLAt w (.slice ao fs.length cap) fs) (hg : ListsP s fs) (hs : s ≤ 6) (ha : -1 ≤ a ∧ a < s) :
    Calls Try.prog 77 #[.slice ao fs.length cap, .int .i64 a, .int .i64 b] w fun e w' => e = .returned (.bool (dec (Fol fs a b))) ∧ Kept w w' := by
  by_cases h1 : a = -1
  · subst h1
    rw [dec_yes (show Fol fs (-1) b from .inl rfl)]
    go_enter Try.func77, Try.ntmps77
    repeat (first | go_values | go_skip | go_guarded | go_step | go_upon)
    go_ret
    exact ⟨rfl, But.refl _ _ _⟩
  · have d1 : (a == -1) = false := by simpa using h1
    by_cases h2 : b = -1
    · subst h2
      rw [dec_yes (show Fol fs a (-1) from .inr (.inl rfl))]
      go_enter Try.func77, Try.ntmps77
      repeat (first | go_values | go_skip | go_guarded | go_step | go_upon)
      go_ret
      exact ⟨rfl, But.refl _ _ _⟩
    · have d2 : (b == -1) = false := by simpa using h2
      obtain ⟨k, l, hk, hkl, hkl2, hgd⟩ := list_in hg (a := a) (by omega) (by omega)
      have hll := rise_len (hg.2 k hkl2 l hkl) hs
      have hll : l.length ≤ 9000000000000000000 := by omega
      obtain ⟨g2, o2, cap2, u, ee, c02, ha'⟩ := lL_get hv hkl
      cases ee
      obtain ⟨a3, c3, hsl⟩ := row_nil ha'
      subst hsl
      have HA : Hid (NumAt w (.slice a3 l.length c3) l) := ha'
      have HR : Hid (dec (Fol fs a b) = dec (b ∈ l)) := by
        show dec (Fol fs a b) = dec (b ∈ l)
        by_cases h : b ∈ l
        · rw [dec_yes h, dec_yes (show Fol fs a b from .inr (.inr (by rw [hgd]; exact h)))]
        · rw [dec_no h, dec_no]
          rintro (h3 | h3 | h3)
          · exact h1 h3
          · exact h2 h3
          · rw [hgd] at h3; exact h h3
      rw [HR.out]
      subst hk
      clear hgd ha' hkl hv hg h1 h2 HR
      go_enter Try.func77, Try.ntmps77
      repeat (first | (go_at_call 82; refine (icon l b _ _ _ HA.out hll).mono ?_; rintro e u1 ⟨rfl, rfl⟩; dsimp only) | go_values | go_skip | go_guarded | go_step | go_upon)
      go_ret
      exact ⟨rfl, But.refl _ _ _⟩

end Go.Proofs.Ytopakblckajdmaa
