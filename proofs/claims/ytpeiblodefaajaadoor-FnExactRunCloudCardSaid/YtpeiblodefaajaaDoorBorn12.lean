/-
  What the program makes of a spark that is born.
-/
import Derived.Test.YtpeiblodefaajaaDoorLate12
import Derived.Test.YtpeiblodefaajaaDoorSplit12
namespace Go.Proofs.YtpeiblodefaajaaDoor
open Go.ChangeShapes Go.WideShapes Go.ChangeAt Go.RowKit

set_option maxRecDepth 100000
set_option linter.unusedVariables false
theorem kept_grown {w w' : World} (h : Grown w w') : Kept w w' := ⟨h.1.1, h.1.2.1, h.2.2, fun i hi _ => gblockQ h i hi⟩
theorem wp_region_ksp {P : Program} {id : Nat} {Q : Exit → Act → World → Prop} {a : Act} {w : World} {l : List Oper} (m d : Nat) (hm : P.follows .mixedOrders = true) (hB : Region.lexB .any l.toArray = true) (hR : splitB l.toArray m d = true) (hml : m ≤ l.length)
    (h : wpQuiet P l.toArray (fun w' => ∃ x : KW w, w' = x.w) (fun a' => ∀ w', (∃ x : KW w, w' = x.w) → wpList P l.toArray Q (l.drop m) a' w') (l.take m) a) : (Code.region id l.toArray true).wp P Q a w :=
  wp_region_split m d hm hB hR hml ⟨⟨w.drew, (But.refl _ _ w).drew⟩, rfl⟩ h
theorem isinK (a : Int) (w : World) (hT : Tab w) : Calls Tryd.prog 72 #[.int .i64 a] w fun e w' => e = .returned (.int .i64 (sinM a)) ∧ Kept w w' := (isin_any a w hT).mono fun _ _ ⟨h, k⟩ => ⟨h, kept_grown k⟩
theorem icosK (a : Int) (w : World) (hT : Tab w) : Calls Tryd.prog 71 #[.int .i64 a] w fun e w' => e = .returned (.int .i64 (cosM a)) ∧ Kept w w' := (icos_any a w hT).mono fun _ _ ⟨h, k⟩ => ⟨h, kept_grown k⟩
theorem Tab.kept {w w' : World} (h : Tab w) (k : Kept w w') : Tab w' := fun i hi => Kept.cell k (h i hi)
theorem Tab.but {w w' : World} {lo hi : Nat} (h : Tab w) (k : But lo hi w w') (hl : 0 < lo) : Tab w' := fun i hi => But.cell k (h i hi) (.inl hl)
set_option maxHeartbeats 4000000 in
theorem inew (x y ev bu li sv fa : Int) (b s : Nat) (sd : Int) (cs : List Value) (w : World) (hE : EP (x, y, ev, bu, li, sv, fa)) (h0 : 0 ≤ sd) (h1 : sd ≤ 2147483647) (hT : Tab w) (hs : 0 < s) (hbs : b ≠ s) (Lb : Loc w b [.pointer (some ⟨s, 0, none⟩)]) (Ls : Loc w s (.int .i64 sd :: cs)) :
    Calls Tryd.prog 46 #[.agg #[.int .i64 x, .int .i64 y, .int .i64 ev, .int .i64 bu, .int .i64 li, .int .i64 sv, .int .i64 fa], .func (.func 58) #[] #[.pointer (some ⟨b, 0, none⟩)]] w fun e w' => e = .returned (.agg (sparkC (bornS (x, y, ev, bu, li, sv, fa) sd)).toArray) ∧ Loc w' s (.int .i64 (coinN (coinN sd)) :: cs) ∧ But s (s + 1) w w' := by
  obtain ⟨W0, hW0⟩ : ∃ W, W = (w.alloc (.cells #[.int .i64 x, .int .i64 y, .int .i64 ev, .int .i64 bu, .int .i64 li, .int .i64 sv, .int .i64 fa] 24)).alloc (.cells #[.int .i64 0, .int .i64 0, .int .i64 0, .int .i64 0, .int .i64 0] 66) := ⟨_, rfl⟩
  have K0 : Kept w W0 := by rw [hW0]; exact ((But.refl _ _ _).alloc _).alloc _
  have Le : Loc W0 w.heap.size [.int .i64 x, .int .i64 y, .int .i64 ev, .int .i64 bu, .int .i64 li, .int .i64 sv, .int .i64 fa] := by rw [hW0]; exact (Loc.new w _ 24).alloc _
  have Lr : Loc W0 (w.heap.size + 1) [.int .i64 0, .int .i64 0, .int .i64 0, .int .i64 0, .int .i64 0] := by rw [hW0]; have := Loc.new (w.alloc (.cells #[.int .i64 x, .int .i64 y, .int .i64 ev, .int .i64 bu, .int .i64 li, .int .i64 sv, .int .i64 fa] 24)) [.int .i64 0, .int .i64 0, .int .i64 0, .int .i64 0, .int .i64 0] 66; simpa using this
  have HW0 : Hid (W0 = _) := hW0
  have hb := Lb.lt
  have hsl := Ls.lt
  have Lb := Lb.kept K0
  have Ls := Ls.kept K0
  have hT := hT.kept K0
  have hsv : 0 ≤ sv ∧ sv ≤ 1000000 := hE.2.2.2.2.2.2
  clear hW0 hE
  go_enter Tryd.func46, Tryd.ntmps46
  repeat (first | rw [← HW0.out] | go_values | go_skip | go_guarded | go_step | go_upon)
  go_at_call 58
  refine (iflipL _ _ _ _ _ h0 h1 Lb Ls).mono ?_
  rintro e u1 ⟨rfl, L1, b1⟩
  have Lb := Lb.but b1 (by omega)
  have Le := Le.but b1 (by omega)
  have Lr := Lr.but b1 (by omega)
  have hT := hT.but b1 hs
  have B1 : But s (s + 1) w u1 := (But.of K0).trans b1
  have hcb := coinC_bd sd
  have hcn := coinN_bd sd
  clear Ls b1 K0
  have e5 := Le.cell 5 rfl
  have hel := Le.lt
  have hm := mul_bd2 hsv.1 (show sv ≤ 60000000 by omega) (coinC_bd (coinN sd))
  have hc2 := coinC_bd (coinN sd)
  have HB1 : Hid (But s (s + 1) w u1) := B1
  clear B1
  dsimp only
  repeat (first | go_values | go_skip | go_guarded | go_step | go_upon)
  go_region_held3 (fun w' => w'.cell? ⟨w.heap.size, 5, none⟩ = some (.int .i64 sv)) (simp [go_sem, *])
    (first | (go_at_call 58; refine (iflipL b s (coinN sd) cs _ hcn.1 hcn.2 (Lb.kept (by (repeat (first | with_reducible exact But.refl _ _ _ | with_reducible apply But.drewN | with_reducible apply But.drew)))) (L1.kept (by (repeat (first | with_reducible exact But.refl _ _ _ | with_reducible apply But.drewN | with_reducible apply But.drew))))).mono ?_; rintro e u2 ⟨rfl, L2, b2⟩; have b2 : But s (s + 1) u1 u2 := (But.trans (by (repeat (first | with_reducible exact But.refl _ _ _ | with_reducible apply But.drewN | with_reducible apply But.drew))) b2); have x5 := But.cell b2 e5 (show w.heap.size < s ∨ s + 1 ≤ w.heap.size by omega))
           | (go_at_call 69; refine (ishare _ _ _ hsv.1 (by omega) hc2.1 hc2.2 hm.1 hm.2).mono ?_; rintro e w3 ⟨rfl, hw3⟩; rw [hw3]))
  have HL2 : Hid (Loc u2 s (.int .i64 (coinN (coinN sd)) :: cs)) := L2
  have HB2 : Hid (But s (s + 1) w u2) := HB1.out.trans b2
  have Le := Le.but b2 (by omega)
  have Lr := Lr.but b2 (by omega)
  have hT := hT.but b2 hs
  obtain ⟨V, hV⟩ : ∃ V, shareI sv (coinC (coinN sd)) = V := ⟨_, rfl⟩
  obtain ⟨G, hG⟩ : ∃ G, coinC sd % 4096 = G := ⟨_, rfl⟩
  rw [show sv * coinC (coinN sd) / 32768 = V from hV, hG]
  have HVG : Hid (shareI sv (coinC (coinN sd)) = V ∧ coinC sd % 4096 = G) := ⟨hV, hG⟩
  have f0 := Le.cell 0 rfl
  have f1 := Le.cell 1 rfl
  have f4 := Le.cell 4 rfl
  clear L2 b2 hw3 w3 x5 e5 hV hG hm hc2 hcn hcb Lb L1 HB1
  have hel2 := Le.lt
  repeat (first | go_values | go_skip | go_guarded | go_step | go_upon)
  refine wp_region_ksp 14 5 (by kernel_rfl) (by kernel_rfl) (by kernel_rfl) (by decide) ?_
  have hcc := KW.cell_eq u2
  simp only [List.take_succ_cons, List.take_zero, List.drop_succ_cons, List.drop_zero]
  repeat (go_big_quiet_step (first | (go_at_call 71; exact kw_call (icosK _ _ (hT.kept (KW.k _)))) | (go_at_call 72; exact kw_call (isinK _ _ (hT.kept (KW.k _)))) | (go_at_call 70; exact kw_same (imul_any _ _ _))))
  refine wpQuiet_nil ?_
  rintro w5 ⟨⟨w6, k5⟩, h5⟩
  change w5 = w6 at h5
  subst h5
  clear hcc
  have Lr := Lr.kept k5
  have r0 := Lr.cell 0 rfl
  have r1 := Lr.cell 1 rfl
  have r2 := Lr.cell 2 rfl
  have r3 := Lr.cell 3 rfl
  have r4 := Lr.cell 4 rfl
  have z0 := Lr.frozen 0
  have z1 := Lr.frozen 1
  have z2 := Lr.frozen 2
  have z3 := Lr.frozen 3
  have z4 := Lr.frozen 4
  have HL5 : Hid (Loc w5 s (.int .i64 (coinN (coinN sd)) :: cs)) := HL2.out.kept k5
  have HB5 : Hid (But s (s + 1) w w5) := HB2.out.transK k5
  clear k5 f0 f1 f4 Lr
  repeat (first | go_values | go_skip | go_guarded | go_step | go_upon)
  refine bodyPost_ret (v := .agg #[.int .i64 x, .int .i64 y, .int .i64 (mulM V (cosM G)), .int .i64 (mulM V (sinM G)), .int .i64 li]) (by simp [results, Tryd.results46, go_sem, *]) rfl ?_
  refine ⟨?_, ?_, ?_⟩
  · obtain ⟨h1, h2⟩ := HVG.out
    subst h1 h2
    rfl
  · exact ((((HL5.out.other (by omega) _).other (by omega) _).other (by omega) _).other (by omega) _).other (by omega) _
  · exact ((((HB5.out.setNew (by simp) _).setNew (by simp) _).setNew (by simp) _).setNew (by simp) _).setNew (by simp) _

end Go.Proofs.YtpeiblodefaajaaDoor
