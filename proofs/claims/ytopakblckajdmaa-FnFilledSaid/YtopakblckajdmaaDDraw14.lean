/-
  Drawn rules and a drawn field.
-/
import Derived.Test.YtopakblckajdmaaDRules14
namespace Go.Proofs.Ytopakblckajdmaa
open Go.ChangeShapes Go.WideShapes Go.ChangeAt Go.RowKit

set_option maxRecDepth 100000
set_option linter.unusedVariables false

theorem RulesI.low {w : World} {lo lo' hi : Nat} {v : Value} {r : RulesD} (h : RulesI w lo hi v r) (hl : lo' ≤ lo) : RulesI w lo' w.heap.size v r := by
  obtain ⟨rv, dv, rs, ds, e, h1, h2, h3, h4⟩ := h
  exact ⟨rv, dv, rs, ds, e, h1.low.mono hl (Nat.le_refl _), h2.low.mono hl (Nat.le_refl _), h3, h4⟩
theorem Code.keep {W W' : World} {ao : Option Addr} {len : Nat} (h : Code W ao len) (k : Kept W W') : Code W' ao len := fun i hi => by
  obtain ⟨ab, off, c, e, hc, hb⟩ := h i hi
  exact ⟨ab, off, c, e, k.cell hc, hb⟩
theorem down7 (s : Int) (hs : 0 ≤ s ∧ s ≤ 7) (w : World) : Calls Try.prog 81 #[.int .i64 s, .int .i64 7] w fun e w' => e = .returned (.int .i64 (s / 7)) ∧ w' = w := by
  rcases (show s = 0 ∨ s = 1 ∨ s = 2 ∨ s = 3 ∨ s = 4 ∨ s = 5 ∨ s = 6 ∨ s = 7 by omega) with rfl | rfl | rfl | rfl | rfl | rfl | rfl | rfl <;>
  · go_enter Try.func81, Try.ntmps81
    go_wp2
    go_ret
    simp
theorem mod7 (s : Int) (hs : 0 ≤ s ∧ s ≤ 7) (w : World) : Calls Try.prog 70 #[.int .i64 s, .int .i64 7] w fun e w' => ∃ r, e = .returned (.int .i64 r) ∧ 0 ≤ r ∧ r ≤ 7 ∧ w' = w := by
  have e1 : IntKind.i64.wrap (7 * (s / 7)) = 7 * (s / 7) := IntWalk.i64_in _ (by omega)
  have e2 : IntKind.i64.wrap (s - 7 * (s / 7)) = s - 7 * (s / 7) := IntWalk.i64_in _ (by omega)
  go_enter Try.func70, Try.ntmps70
  repeat (first | go_values | go_skip | go_guarded | go_step | go_upon)
  go_at_call 81
  refine (down7 s hs _).mono ?_
  rintro e w1 ⟨rfl, rfl⟩
  dsimp only
  repeat (first | go_values | go_skip | go_guarded | go_step | go_upon)
  go_ret
  exact ⟨s - 7 * (s / 7), by first | rfl | simp, by omega, by omega, rfl⟩

set_option maxHeartbeats 8000000 in
theorem draw_ok (ao : Option Addr) (len cap : Nat) (w : World) (h : Code w ao len) (hl : len ≤ 1048576) :
    Calls Try.prog 43 #[.slice ao len cap] w fun e w' => ∃ r f rv fv, e = .returned (.tuple #[rv, fv]) ∧ RulesI w' w.heap.size w'.heap.size rv r ∧ rulesCost r ≤ 1000 ∧ FieldO w' w.heap.size w'.heap.size fv f ∧ f.2.2.length ≤ 100 ∧ Kept w w' := by
  go_enter Try.func43, Try.ntmps43
  repeat (first | go_values | go_skip | go_guarded | go_step | go_upon)
  go_at_call 68
  have KW : Kept w ((w.alloc (.cells #[.int .i64 0, .slice none 0 0, .slice none 0 0] 25)).alloc (.cells #[.int .i64 0, .int .i64 0, .slice none 0 0] 28)) := ((But.refl 0 0 w).alloc _).alloc _
  have hC0 := Code.cur (cap := cap) (t := 91) (Code.keep h KW) (by omega)
  have L2 := ((Loc.new w [.int .i64 0, .slice none 0 0, .slice none 0 0] 25).kept ((But.refl _ _ _).alloc (.cells #[.int .i64 0, .int .i64 0, .slice none 0 0] 28))).kept ((But.refl _ _ _).alloc (.cells #[.slice ao len cap, .int .i64 0, .int .u64 0] 91))
  have L3 := (Loc.new (w.alloc (.cells #[.int .i64 0, .slice none 0 0, .slice none 0 0] 25)) [.int .i64 0, .int .i64 0, .slice none 0 0] 28).kept ((But.refl _ _ _).alloc (.cells #[.slice ao len cap, .int .i64 0, .int .u64 0] 91))
  have K3 := KW.trans ((But.refl _ _ _).alloc (.cells #[.slice ao len cap, .int .i64 0, .int .u64 0] 91))
  have hz3 : (((w.alloc (.cells #[.int .i64 0, .slice none 0 0, .slice none 0 0] 25)).alloc (.cells #[.int .i64 0, .int .i64 0, .slice none 0 0] 28)).alloc (.cells #[.slice ao len cap, .int .i64 0, .int .u64 0] 91)).heap.size = w.heap.size + 1 + 1 + 1 := by simp
  rw [show ((w.alloc (.cells #[.int .i64 0, .slice none 0 0, .slice none 0 0] 25)).alloc (.cells #[.int .i64 0, .int .i64 0, .slice none 0 0] 28)).heap.size = w.heap.size + 1 + 1 by simp] at hC0
  rw [show (w.alloc (.cells #[.int .i64 0, .slice none 0 0, .slice none 0 0] 25)).heap.size = w.heap.size + 1 by simp] at L3
  clear KW
  generalize ((w.alloc (.cells #[.int .i64 0, .slice none 0 0, .slice none 0 0] 25)).alloc (.cells #[.int .i64 0, .int .i64 0, .slice none 0 0] 28)).alloc (.cells #[.slice ao len cap, .int .i64 0, .int .u64 0] 91) = W3 at *
  obtain ⟨R3, hR3⟩ : ∃ x, w.heap.size + 1 = x := ⟨_, rfl⟩
  rw [hR3] at L3 hC0 hz3 ⊢
  obtain ⟨b, hb⟩ : ∃ x, R3 + 1 = x := ⟨_, rfl⟩
  rw [hb] at hC0 hz3 ⊢
  have hRb : w.heap.size < R3 ∧ R3 < b := by omega
  clear hR3 hb
  refine (rules_ok _ b 0 hC0 (by omega)).mono ?_
  rintro e w4 ⟨r, rv0, rfl, HR, hr0, hr7, hcost, hC4, hg4⟩
  obtain ⟨a1, n1, c1, a2, n2, c2, hvf⟩ : ∃ a1 n1 c1 a2 n2 c2, rv0 = .agg #[.int .i64 r.1, .slice a1 n1 c1, .slice a2 n2 c2] := by
    obtain ⟨rv, dv, rs, ds, e, h1, h2, _⟩ := HR
    obtain ⟨x1, y1, e1⟩ := h1.form
    obtain ⟨x2, y2, e2⟩ := h2.form
    exact ⟨x1, _, y1, x2, _, y2, by rw [e, e1, e2]⟩
  subst hvf
  have L2 := L2.cur hg4 (by omega)
  have L3 := L3.cur hg4 (by omega)
  have G4 : But b (b + 1) w w4 := (But.of K3).trans hg4
  have hs4 := hg4.size
  clear K3 hC0 hg4
  dsimp only
  repeat (first | go_values | go_skip | go_guarded | go_step | go_upon)
  go_at_call 70
  refine (mod7 r.1 ⟨hr0, hr7⟩ _).mono ?_
  rintro e w5 ⟨q, rfl, hq0, hq7, hw5⟩
  have K5 : Kept w4 w5 := by rw [hw5]; exact (But.refl _ _ _).alloc _
  have LT : Loc w5 w4.heap.size [.int .i64 r.1, .slice a1 n1 c1, .slice a2 n2 c2] := by rw [hw5]; exact Loc.new w4 _ _
  have hs5 := LT.lt
  have L2 := L2.kept K5
  have L3 := L3.kept K5
  have HR := (HR.but K5 (by omega))
  have G5 := G4.transK K5
  have hC5 := hC4.kept K5
  clear hw5 K5 hC4 G4
  obtain ⟨T5, hT5⟩ : ∃ x, w4.heap.size = x := ⟨_, rfl⟩
  rw [hT5] at LT hs5 hs4 HR ⊢
  clear hT5
  dsimp only
  repeat (first | go_values | go_skip | go_guarded | go_step | go_upon)
  go_at_call 69
  refine (field_ok _ b (0 + 1000) q hC5 (by omega) ⟨hq0, hq7⟩).mono ?_
  rintro e w6 ⟨f, fv0, rfl, HF, hf100, hC6, hg6⟩
  obtain ⟨af, cf, hff⟩ := HF.form
  subst hff
  have NX := HF.row
  have LT := LT.cur hg6 (by omega)
  have L2 := L2.cur hg6 (by omega)
  have L3 := L3.cur hg6 (by omega)
  have HR := HR.but hg6 (by omega)
  have G6 := G5.trans hg6
  have hs6 := hg6.size
  clear HF hg6 G5 hC5
  dsimp only
  repeat (first | go_values | go_skip | go_guarded | go_step | go_upon)
  go_at_call 71
  refine (one_ok _ b (0 + 1000 + 1000) 2 (hC6.alloc _) (by omega) (by omega)).mono ?_
  rintro e w8 ⟨y, rfl, hC, hg8⟩
  obtain ⟨xs, hxs⟩ : ∃ x, f.2.2 = x := ⟨_, rfl⟩
  rw [hxs] at NX hf100 hg8 ⊢
  have KA : Kept w6 (w6.alloc (.cells #[.int .i64 f.1, .int .i64 f.2.1, .slice af xs.length cf] 28)) := (But.refl _ _ _).alloc _
  have LF : Loc w8 w6.heap.size [.int .i64 f.1, .int .i64 f.2.1, .slice af xs.length cf] := (Loc.new w6 _ 28).cur hg8 (by omega)
  have LT := (LT.kept KA).cur hg8 (by omega)
  have L2 := (L2.kept KA).cur hg8 (by omega)
  have L3 := (L3.kept KA).cur hg8 (by omega)
  have HR := (HR.but KA (by omega)).but hg8 (by omega)
  have NX := (NX.kept KA).but hg8 (by omega)
  have G := (G6.transK KA).trans hg8
  have hf5 := LF.lt
  obtain ⟨F5, hF5⟩ : ∃ x, w6.heap.size = x := ⟨_, rfl⟩
  obtain ⟨lo5, hlo5⟩ : ∃ x, w5.heap.size = x := ⟨_, rfl⟩
  obtain ⟨lo3, hlo3⟩ : ∃ x, W3.heap.size = x := ⟨_, rfl⟩
  rw [hF5] at LF hs6 NX hf5 ⊢
  rw [hlo5] at NX hs5 hs6
  rw [hlo3] at HR hz3 hs4
  clear hg8 KA G6 hC6 hF5 hlo5 hlo3
  cases y
  · dsimp only
    repeat (first | go_values | go_skip | go_guarded | go_step | go_upon)
    have HK : Hid (RulesI w8 lo3 T5 (.agg #[.int .i64 r.1, .slice a1 n1 c1, .slice a2 n2 c2]) r ∧ NumO w8 lo5 F5 (.slice af xs.length cf) xs ∧ But b (b + 1) w w8 ∧ Loc w8 T5 [.int .i64 r.1, .slice a1 n1 c1, .slice a2 n2 c2] ∧ Loc w8 F5 [.int .i64 f.1, .int .i64 f.2.1, .slice af xs.length cf] ∧ Loc w8 w.heap.size [.int .i64 0, .slice none 0 0, .slice none 0 0] ∧ Loc w8 R3 [.int .i64 0, .int .i64 0, .slice none 0 0]) := ⟨HR, NX, G, LT, LF, L2, L3⟩
    have t0 := LT.cell 0 rfl
    have t1 := LT.cell 1 rfl
    have t2 := LT.cell 2 rfl
    have f0 := LF.cell 0 rfl
    have f1 := LF.cell 1 rfl
    have f2 := LF.cell 2 rfl
    have p0 := L2.cell 0 rfl
    have p1 := L2.cell 1 rfl
    have p2 := L2.cell 2 rfl
    have q0 := L2.frozen 0
    have q1 := L2.frozen 1
    have q2 := L2.frozen 2
    have u0 := L3.cell 0 rfl
    have u1 := L3.cell 1 rfl
    have u2 := L3.cell 2 rfl
    have v0 := L3.frozen 0
    have v1 := L3.frozen 1
    have v2 := L3.frozen 2
    have m1 : w.heap.size ≠ R3 := by omega
    have m2 : w.heap.size ≠ T5 := by omega
    have m3 : w.heap.size ≠ F5 := by omega
    have m4 : R3 ≠ T5 := by omega
    have m5 : R3 ≠ F5 := by omega
    clear LT LF L2 L3 HR NX G hC
    go_region
    clear t0 t1 t2 f0 f1 f2 p0 p1 p2 q0 q1 q2 u0 u1 u2 v0 v1 v2 m1 m2 m3 m4 m5
    obtain ⟨HR, NX, G, LT, LF, L2, L3⟩ := HK.out
    have A1 := ((L2.set 0 (.int .i64 r.1)).set 1 (.slice a1 n1 c1)).set 2 (.slice a2 n2 c2)
    simp only [List.set_cons_zero, List.set_cons_succ] at A1
    have PA : But w.heap.size (w.heap.size + 1) w8 (((w8.setCell ⟨w.heap.size, 0, none⟩ (.int .i64 r.1)).setCell ⟨w.heap.size, 1, none⟩ (.slice a1 n1 c1)).setCell ⟨w.heap.size, 2, none⟩ (.slice a2 n2 c2)) := (((But.refl _ _ _).setCell (by simp) (by simp) _).setCell (by simp) (by simp) _).setCell (by simp) (by simp) _
    have L3 := L3.but PA (by omega)
    have A2 := ((L3.set 0 (.int .i64 f.1)).set 1 (.int .i64 f.2.1)).set 2 (.slice af xs.length cf)
    simp only [List.set_cons_zero, List.set_cons_succ] at A2
    have PB : But R3 (R3 + 1) (((w8.setCell ⟨w.heap.size, 0, none⟩ (.int .i64 r.1)).setCell ⟨w.heap.size, 1, none⟩ (.slice a1 n1 c1)).setCell ⟨w.heap.size, 2, none⟩ (.slice a2 n2 c2)) ((((((w8.setCell ⟨w.heap.size, 0, none⟩ (.int .i64 r.1)).setCell ⟨w.heap.size, 1, none⟩ (.slice a1 n1 c1)).setCell ⟨w.heap.size, 2, none⟩ (.slice a2 n2 c2)).setCell ⟨R3, 0, none⟩ (.int .i64 f.1)).setCell ⟨R3, 1, none⟩ (.int .i64 f.2.1)).setCell ⟨R3, 2, none⟩ (.slice af xs.length cf)) := (((But.refl _ _ _).setCell (by simp) (by simp) _).setCell (by simp) (by simp) _).setCell (by simp) (by simp) _
    have PD : Kept ((((((w8.setCell ⟨w.heap.size, 0, none⟩ (.int .i64 r.1)).setCell ⟨w.heap.size, 1, none⟩ (.slice a1 n1 c1)).setCell ⟨w.heap.size, 2, none⟩ (.slice a2 n2 c2)).setCell ⟨R3, 0, none⟩ (.int .i64 f.1)).setCell ⟨R3, 1, none⟩ (.int .i64 f.2.1)).setCell ⟨R3, 2, none⟩ (.slice af xs.length cf)) ((((((w8.setCell ⟨w.heap.size, 0, none⟩ (.int .i64 r.1)).setCell ⟨w.heap.size, 1, none⟩ (.slice a1 n1 c1)).setCell ⟨w.heap.size, 2, none⟩ (.slice a2 n2 c2)).setCell ⟨R3, 0, none⟩ (.int .i64 f.1)).setCell ⟨R3, 1, none⟩ (.int .i64 f.2.1)).setCell ⟨R3, 2, none⟩ (.slice af xs.length cf)).drew := (But.refl _ _ _).drew
    have GA : But b (b + 1) w (((w8.setCell ⟨w.heap.size, 0, none⟩ (.int .i64 r.1)).setCell ⟨w.heap.size, 1, none⟩ (.slice a1 n1 c1)).setCell ⟨w.heap.size, 2, none⟩ (.slice a2 n2 c2)) := ((G.setNew (by simp) _).setNew (by simp) _).setNew (by simp) _
    have GB : But b (b + 1) w ((((((w8.setCell ⟨w.heap.size, 0, none⟩ (.int .i64 r.1)).setCell ⟨w.heap.size, 1, none⟩ (.slice a1 n1 c1)).setCell ⟨w.heap.size, 2, none⟩ (.slice a2 n2 c2)).setCell ⟨R3, 0, none⟩ (.int .i64 f.1)).setCell ⟨R3, 1, none⟩ (.int .i64 f.2.1)).setCell ⟨R3, 2, none⟩ (.slice af xs.length cf)) := ((GA.setNew (by simp; omega) _).setNew (by simp; omega) _).setNew (by simp; omega) _
    have HZ : Hid (Loc ((((((w8.setCell ⟨w.heap.size, 0, none⟩ (.int .i64 r.1)).setCell ⟨w.heap.size, 1, none⟩ (.slice a1 n1 c1)).setCell ⟨w.heap.size, 2, none⟩ (.slice a2 n2 c2)).setCell ⟨R3, 0, none⟩ (.int .i64 f.1)).setCell ⟨R3, 1, none⟩ (.int .i64 f.2.1)).setCell ⟨R3, 2, none⟩ (.slice af xs.length cf)).drew w.heap.size [.int .i64 r.1, .slice a1 n1 c1, .slice a2 n2 c2] ∧ Loc ((((((w8.setCell ⟨w.heap.size, 0, none⟩ (.int .i64 r.1)).setCell ⟨w.heap.size, 1, none⟩ (.slice a1 n1 c1)).setCell ⟨w.heap.size, 2, none⟩ (.slice a2 n2 c2)).setCell ⟨R3, 0, none⟩ (.int .i64 f.1)).setCell ⟨R3, 1, none⟩ (.int .i64 f.2.1)).setCell ⟨R3, 2, none⟩ (.slice af xs.length cf)).drew R3 [.int .i64 f.1, .int .i64 f.2.1, .slice af xs.length cf] ∧ RulesI ((((((w8.setCell ⟨w.heap.size, 0, none⟩ (.int .i64 r.1)).setCell ⟨w.heap.size, 1, none⟩ (.slice a1 n1 c1)).setCell ⟨w.heap.size, 2, none⟩ (.slice a2 n2 c2)).setCell ⟨R3, 0, none⟩ (.int .i64 f.1)).setCell ⟨R3, 1, none⟩ (.int .i64 f.2.1)).setCell ⟨R3, 2, none⟩ (.slice af xs.length cf)).drew lo3 T5 (.agg #[.int .i64 r.1, .slice a1 n1 c1, .slice a2 n2 c2]) r ∧ NumO ((((((w8.setCell ⟨w.heap.size, 0, none⟩ (.int .i64 r.1)).setCell ⟨w.heap.size, 1, none⟩ (.slice a1 n1 c1)).setCell ⟨w.heap.size, 2, none⟩ (.slice a2 n2 c2)).setCell ⟨R3, 0, none⟩ (.int .i64 f.1)).setCell ⟨R3, 1, none⟩ (.int .i64 f.2.1)).setCell ⟨R3, 2, none⟩ (.slice af xs.length cf)).drew lo5 F5 (.slice af xs.length cf) xs ∧ But b (b + 1) w ((((((w8.setCell ⟨w.heap.size, 0, none⟩ (.int .i64 r.1)).setCell ⟨w.heap.size, 1, none⟩ (.slice a1 n1 c1)).setCell ⟨w.heap.size, 2, none⟩ (.slice a2 n2 c2)).setCell ⟨R3, 0, none⟩ (.int .i64 f.1)).setCell ⟨R3, 1, none⟩ (.int .i64 f.2.1)).setCell ⟨R3, 2, none⟩ (.slice af xs.length cf)).drew) := ⟨(A1.but PB (by omega)).kept PD, A2.kept PD, ((HR.but PA (by omega)).but PB (by omega)).but PD (by omega), ((NX.but PA (by omega)).but PB (by omega)).kept PD, GB.transK PD⟩
    clear A1 A2 PA PB PD GA GB L2 L3 LT LF HR NX G HK
    generalize ((((((w8.setCell ⟨w.heap.size, 0, none⟩ (.int .i64 r.1)).setCell ⟨w.heap.size, 1, none⟩ (.slice a1 n1 c1)).setCell ⟨w.heap.size, 2, none⟩ (.slice a2 n2 c2)).setCell ⟨R3, 0, none⟩ (.int .i64 f.1)).setCell ⟨R3, 1, none⟩ (.int .i64 f.2.1)).setCell ⟨R3, 2, none⟩ (.slice af xs.length cf)).drew = wz at HZ ⊢
    have x0 := HZ.out.1.cell 0 rfl
    have x1 := HZ.out.1.cell 1 rfl
    have x2 := HZ.out.1.cell 2 rfl
    have y0 := HZ.out.2.1.cell 0 rfl
    have y1 := HZ.out.2.1.cell 1 rfl
    have y2 := HZ.out.2.1.cell 2 rfl
    repeat (first | go_values | go_skip | go_guarded | go_step | go_upon)
    refine bodyPost_ret (v := .tuple #[.agg #[.int .i64 r.1, .slice a1 n1 c1, .slice a2 n2 c2], .agg #[.int .i64 f.1, .int .i64 f.2.1, .slice af xs.length cf]]) (by simp [results, Try.results43, go_sem, x0, x1, x2, y0, y1, y2]) rfl ?_
    exact ⟨r, (f.1, f.2.1, xs), _, _, rfl, HZ.out.2.2.1.low (by omega), hcost, ⟨_, rfl, (HZ.out.2.2.2.1.low).mono (by omega) (Nat.le_refl _)⟩, by show xs.length ≤ 100; omega, HZ.out.2.2.2.2.fresh (by omega)⟩
  · dsimp only
    have t2 := LF.cell 2 rfl
    repeat (first | go_values | go_skip | go_guarded | go_step | go_upon)
    clear t2
    go_loopw [23] (fun n wr => ∃ (k : Nat) (ys : List Int), k ≤ xs.length ∧ ys.length = xs.length ∧ n = .int .i64 k ∧ Loc wr F5 [.int .i64 f.1, .int .i64 f.2.1, .slice af ys.length cf] ∧ NumO wr lo5 F5 (.slice af ys.length cf) ys ∧ Loc wr T5 [.int .i64 r.1, .slice a1 n1 c1, .slice a2 n2 c2] ∧ Loc wr w.heap.size [.int .i64 0, .slice none 0 0, .slice none 0 0] ∧ Loc wr R3 [.int .i64 0, .int .i64 0, .slice none 0 0] ∧ RulesI wr lo3 T5 (.agg #[.int .i64 r.1, .slice a1 n1 c1, .slice a2 n2 c2]) r ∧ CurOk wr b (2002 + 2 * (k : Int)) ∧ But b (b + 1) w wr) (fun n _ => xs.length - (intOf n).toNat)
    case atStart => exact ⟨0, xs, by omega, rfl, rfl, LF, NX, LT, L2, L3, HR, hC.le (by omega), G⟩
    case round =>
      clear LF NX LT L2 L3 HR hC G
      obtain ⟨k, ys, hk, hyl, rfl, LF, NX, LT, L2, L3, HR, hC, G⟩ := hrel
      by_cases hlt : k < xs.length
      · have da : decide ((k : Int) < (xs.length : Int)) = true := decide_eq_true (by omega)
        have da2 : decide (k < xs.length) = true := decide_eq_true hlt
        have hk1 : IntKind.i64.wrap ((k : Int) + 1) = (k : Int) + 1 := IntWalk.i64_in _ (by omega)
        have HP : Hid _ := And.intro LF (And.intro NX (And.intro LT (And.intro L2 (And.intro L3 (And.intro HR (And.intro hC G))))))
        clear LF NX LT L2 L3 HR hC G
        repeat (first | go_values | go_skip | go_guarded | go_step | go_upon)
        clear da da2
        obtain ⟨LF, NX, LT, L2, L3, HR, hC, G⟩ := HP.out
        clear HP
        go_at_call 71
        refine (one_ok _ b _ 8 hC (by omega) (by omega)).mono ?_
        rintro e wc ⟨y3, rfl, hC, hg9⟩
        have LF := LF.cur hg9 (by omega)
        have NX := NX.but hg9 (by omega)
        have LT := LT.cur hg9 (by omega)
        have L2 := L2.cur hg9 (by omega)
        have L3 := L3.cur hg9 (by omega)
        have HR := HR.but hg9 (by omega)
        have G := G.trans hg9
        clear hg9
        obtain ⟨g5, hg5⟩ : ∃ g, af = some ⟨g, 0, none⟩ := by
          rcases NX.1.2 with ⟨_, h0⟩ | ⟨g, cap, cur, hv, _⟩
          · omega
          · cases hv; exact ⟨g, rfl⟩
        subst hg5
        have g5lo := (own_lt NX.1 (g := g5) rfl).1
        have g5hi := NX.2 g5 rfl
        cases y3
        · dsimp only
          have t2 := LF.cell 2 rfl
          obtain ⟨z, hz⟩ : ∃ z, ys[k]? = some z := ⟨_, List.getElem?_eq_getElem (by omega)⟩
          obtain ⟨hc0, hf0⟩ := own_get 1 numC numC_len (by omega) NX hz
          have c0 : wc.cell? ⟨g5, k, none⟩ = some (.int .i64 z) := by have := hc0 0 _ rfl; simpa using this
          have f0 := hf0 k
          have dk : decide (k < ys.length) = true := decide_eq_true (by omega)
          have S1 := RowO.set NX (1 * k + 0) (.int .i64 (-1))
          rw [flat_set 1 numC numC_len ys k 0 z (-1) (.int .i64 (-1)) hz (by omega) rfl] at S1
          have P9 : But lo5 F5 wc (wc.setCell ⟨g5, k, none⟩ (.int .i64 (-1))) := (But.refl _ _ _).setCell g5lo g5hi _
          have HH : Hid (Loc (wc.setCell ⟨g5, k, none⟩ (.int .i64 (-1))) F5 [.int .i64 f.1, .int .i64 f.2.1, .slice (some ⟨g5, 0, none⟩) (ys.set k (-1)).length cf] ∧ NumO (wc.setCell ⟨g5, k, none⟩ (.int .i64 (-1))) lo5 F5 (.slice (some ⟨g5, 0, none⟩) (ys.set k (-1)).length cf) (ys.set k (-1)) ∧ Loc (wc.setCell ⟨g5, k, none⟩ (.int .i64 (-1))) T5 [.int .i64 r.1, .slice a1 n1 c1, .slice a2 n2 c2] ∧ Loc (wc.setCell ⟨g5, k, none⟩ (.int .i64 (-1))) w.heap.size [.int .i64 0, .slice none 0 0, .slice none 0 0] ∧ Loc (wc.setCell ⟨g5, k, none⟩ (.int .i64 (-1))) R3 [.int .i64 0, .int .i64 0, .slice none 0 0] ∧ RulesI (wc.setCell ⟨g5, k, none⟩ (.int .i64 (-1))) lo3 T5 (.agg #[.int .i64 r.1, .slice a1 n1 c1, .slice a2 n2 c2]) r ∧ CurOk (wc.setCell ⟨g5, k, none⟩ (.int .i64 (-1))) b (2002 + 2 * (k : Int) + 2) ∧ But b (b + 1) w (wc.setCell ⟨g5, k, none⟩ (.int .i64 (-1)))) := ⟨by rw [List.length_set]; exact LF.but P9 (by omega), by rw [List.length_set]; simpa [NumO] using S1, LT.but P9 (by omega), L2.but P9 (by omega), L3.but P9 (by omega), HR.but P9 (by omega), hC.but P9 (by omega), G.setNew (by simp; omega) _⟩
          clear LF NX LT L2 L3 HR hC G S1 P9 hc0 hf0
          repeat (first | go_values | go_skip | go_guarded | go_step | go_upon)
          exact ⟨⟨k + 1, ys.set k (-1), by omega, by rw [List.length_set]; omega, by simp, HH.out.1, HH.out.2.1, HH.out.2.2.1, HH.out.2.2.2.1, HH.out.2.2.2.2.1, HH.out.2.2.2.2.2.1, HH.out.2.2.2.2.2.2.1.le (by omega), HH.out.2.2.2.2.2.2.2⟩, by simp [intOf]; omega⟩
        · dsimp only
          have HP : Hid _ := And.intro LF (And.intro NX (And.intro LT (And.intro L2 (And.intro L3 (And.intro HR (And.intro hC G))))))
          clear LF NX LT L2 L3 HR hC G
          repeat (first | go_values | go_skip | go_guarded | go_step | go_upon)
          obtain ⟨LF, NX, LT, L2, L3, HR, hC, G⟩ := HP.out
          exact ⟨⟨k + 1, ys, by omega, by omega, by simp, LF, NX, LT, L2, L3, HR, hC.le (by omega), G⟩, by simp [intOf]; omega⟩
      · have hy100 : ys.length ≤ 100 := by omega
        clear hyl
        have da : decide ((k : Int) < (xs.length : Int)) = false := decide_eq_false (by omega)
        have da2 : decide (k < xs.length) = false := decide_eq_false hlt
        have HP : Hid _ := And.intro LF (And.intro NX (And.intro LT (And.intro L2 (And.intro L3 (And.intro HR (And.intro hC G))))))
        clear LF NX LT L2 L3 HR hC G
        repeat (first | go_values | go_skip | go_guarded | go_step | go_upon)
        clear da da2
        obtain ⟨LF, NX, LT, L2, L3, HR, hC, G⟩ := HP.out
        clear HP
        have HK : Hid (RulesI wr lo3 T5 (.agg #[.int .i64 r.1, .slice a1 n1 c1, .slice a2 n2 c2]) r ∧ NumO wr lo5 F5 (.slice af ys.length cf) ys ∧ But b (b + 1) w wr ∧ Loc wr T5 [.int .i64 r.1, .slice a1 n1 c1, .slice a2 n2 c2] ∧ Loc wr F5 [.int .i64 f.1, .int .i64 f.2.1, .slice af ys.length cf] ∧ Loc wr w.heap.size [.int .i64 0, .slice none 0 0, .slice none 0 0] ∧ Loc wr R3 [.int .i64 0, .int .i64 0, .slice none 0 0]) := ⟨HR, NX, G, LT, LF, L2, L3⟩
        have t0 := LT.cell 0 rfl
        have t1 := LT.cell 1 rfl
        have t2 := LT.cell 2 rfl
        have f0 := LF.cell 0 rfl
        have f1 := LF.cell 1 rfl
        have f2 := LF.cell 2 rfl
        have p0 := L2.cell 0 rfl
        have p1 := L2.cell 1 rfl
        have p2 := L2.cell 2 rfl
        have q0 := L2.frozen 0
        have q1 := L2.frozen 1
        have q2 := L2.frozen 2
        have u0 := L3.cell 0 rfl
        have u1 := L3.cell 1 rfl
        have u2 := L3.cell 2 rfl
        have v0 := L3.frozen 0
        have v1 := L3.frozen 1
        have v2 := L3.frozen 2
        have m1 : w.heap.size ≠ R3 := by omega
        have m2 : w.heap.size ≠ T5 := by omega
        have m3 : w.heap.size ≠ F5 := by omega
        have m4 : R3 ≠ T5 := by omega
        have m5 : R3 ≠ F5 := by omega
        clear LT LF L2 L3 HR NX G hC
        go_region
        clear t0 t1 t2 f0 f1 f2 p0 p1 p2 q0 q1 q2 u0 u1 u2 v0 v1 v2 m1 m2 m3 m4 m5
        obtain ⟨HR, NX, G, LT, LF, L2, L3⟩ := HK.out
        have A1 := ((L2.set 0 (.int .i64 r.1)).set 1 (.slice a1 n1 c1)).set 2 (.slice a2 n2 c2)
        simp only [List.set_cons_zero, List.set_cons_succ] at A1
        have PA : But w.heap.size (w.heap.size + 1) wr (((wr.setCell ⟨w.heap.size, 0, none⟩ (.int .i64 r.1)).setCell ⟨w.heap.size, 1, none⟩ (.slice a1 n1 c1)).setCell ⟨w.heap.size, 2, none⟩ (.slice a2 n2 c2)) := (((But.refl _ _ _).setCell (by simp) (by simp) _).setCell (by simp) (by simp) _).setCell (by simp) (by simp) _
        have L3 := L3.but PA (by omega)
        have A2 := ((L3.set 0 (.int .i64 f.1)).set 1 (.int .i64 f.2.1)).set 2 (.slice af ys.length cf)
        simp only [List.set_cons_zero, List.set_cons_succ] at A2
        have PB : But R3 (R3 + 1) (((wr.setCell ⟨w.heap.size, 0, none⟩ (.int .i64 r.1)).setCell ⟨w.heap.size, 1, none⟩ (.slice a1 n1 c1)).setCell ⟨w.heap.size, 2, none⟩ (.slice a2 n2 c2)) ((((((wr.setCell ⟨w.heap.size, 0, none⟩ (.int .i64 r.1)).setCell ⟨w.heap.size, 1, none⟩ (.slice a1 n1 c1)).setCell ⟨w.heap.size, 2, none⟩ (.slice a2 n2 c2)).setCell ⟨R3, 0, none⟩ (.int .i64 f.1)).setCell ⟨R3, 1, none⟩ (.int .i64 f.2.1)).setCell ⟨R3, 2, none⟩ (.slice af ys.length cf)) := (((But.refl _ _ _).setCell (by simp) (by simp) _).setCell (by simp) (by simp) _).setCell (by simp) (by simp) _
        have PD : Kept ((((((wr.setCell ⟨w.heap.size, 0, none⟩ (.int .i64 r.1)).setCell ⟨w.heap.size, 1, none⟩ (.slice a1 n1 c1)).setCell ⟨w.heap.size, 2, none⟩ (.slice a2 n2 c2)).setCell ⟨R3, 0, none⟩ (.int .i64 f.1)).setCell ⟨R3, 1, none⟩ (.int .i64 f.2.1)).setCell ⟨R3, 2, none⟩ (.slice af ys.length cf)) ((((((wr.setCell ⟨w.heap.size, 0, none⟩ (.int .i64 r.1)).setCell ⟨w.heap.size, 1, none⟩ (.slice a1 n1 c1)).setCell ⟨w.heap.size, 2, none⟩ (.slice a2 n2 c2)).setCell ⟨R3, 0, none⟩ (.int .i64 f.1)).setCell ⟨R3, 1, none⟩ (.int .i64 f.2.1)).setCell ⟨R3, 2, none⟩ (.slice af ys.length cf)).drew := (But.refl _ _ _).drew
        have GA : But b (b + 1) w (((wr.setCell ⟨w.heap.size, 0, none⟩ (.int .i64 r.1)).setCell ⟨w.heap.size, 1, none⟩ (.slice a1 n1 c1)).setCell ⟨w.heap.size, 2, none⟩ (.slice a2 n2 c2)) := ((G.setNew (by simp) _).setNew (by simp) _).setNew (by simp) _
        have GB : But b (b + 1) w ((((((wr.setCell ⟨w.heap.size, 0, none⟩ (.int .i64 r.1)).setCell ⟨w.heap.size, 1, none⟩ (.slice a1 n1 c1)).setCell ⟨w.heap.size, 2, none⟩ (.slice a2 n2 c2)).setCell ⟨R3, 0, none⟩ (.int .i64 f.1)).setCell ⟨R3, 1, none⟩ (.int .i64 f.2.1)).setCell ⟨R3, 2, none⟩ (.slice af ys.length cf)) := ((GA.setNew (by simp; omega) _).setNew (by simp; omega) _).setNew (by simp; omega) _
        have HZ : Hid (Loc ((((((wr.setCell ⟨w.heap.size, 0, none⟩ (.int .i64 r.1)).setCell ⟨w.heap.size, 1, none⟩ (.slice a1 n1 c1)).setCell ⟨w.heap.size, 2, none⟩ (.slice a2 n2 c2)).setCell ⟨R3, 0, none⟩ (.int .i64 f.1)).setCell ⟨R3, 1, none⟩ (.int .i64 f.2.1)).setCell ⟨R3, 2, none⟩ (.slice af ys.length cf)).drew w.heap.size [.int .i64 r.1, .slice a1 n1 c1, .slice a2 n2 c2] ∧ Loc ((((((wr.setCell ⟨w.heap.size, 0, none⟩ (.int .i64 r.1)).setCell ⟨w.heap.size, 1, none⟩ (.slice a1 n1 c1)).setCell ⟨w.heap.size, 2, none⟩ (.slice a2 n2 c2)).setCell ⟨R3, 0, none⟩ (.int .i64 f.1)).setCell ⟨R3, 1, none⟩ (.int .i64 f.2.1)).setCell ⟨R3, 2, none⟩ (.slice af ys.length cf)).drew R3 [.int .i64 f.1, .int .i64 f.2.1, .slice af ys.length cf] ∧ RulesI ((((((wr.setCell ⟨w.heap.size, 0, none⟩ (.int .i64 r.1)).setCell ⟨w.heap.size, 1, none⟩ (.slice a1 n1 c1)).setCell ⟨w.heap.size, 2, none⟩ (.slice a2 n2 c2)).setCell ⟨R3, 0, none⟩ (.int .i64 f.1)).setCell ⟨R3, 1, none⟩ (.int .i64 f.2.1)).setCell ⟨R3, 2, none⟩ (.slice af ys.length cf)).drew lo3 T5 (.agg #[.int .i64 r.1, .slice a1 n1 c1, .slice a2 n2 c2]) r ∧ NumO ((((((wr.setCell ⟨w.heap.size, 0, none⟩ (.int .i64 r.1)).setCell ⟨w.heap.size, 1, none⟩ (.slice a1 n1 c1)).setCell ⟨w.heap.size, 2, none⟩ (.slice a2 n2 c2)).setCell ⟨R3, 0, none⟩ (.int .i64 f.1)).setCell ⟨R3, 1, none⟩ (.int .i64 f.2.1)).setCell ⟨R3, 2, none⟩ (.slice af ys.length cf)).drew lo5 F5 (.slice af ys.length cf) ys ∧ But b (b + 1) w ((((((wr.setCell ⟨w.heap.size, 0, none⟩ (.int .i64 r.1)).setCell ⟨w.heap.size, 1, none⟩ (.slice a1 n1 c1)).setCell ⟨w.heap.size, 2, none⟩ (.slice a2 n2 c2)).setCell ⟨R3, 0, none⟩ (.int .i64 f.1)).setCell ⟨R3, 1, none⟩ (.int .i64 f.2.1)).setCell ⟨R3, 2, none⟩ (.slice af ys.length cf)).drew) := ⟨(A1.but PB (by omega)).kept PD, A2.kept PD, ((HR.but PA (by omega)).but PB (by omega)).but PD (by omega), ((NX.but PA (by omega)).but PB (by omega)).kept PD, GB.transK PD⟩
        clear A1 A2 PA PB PD GA GB L2 L3 LT LF HR NX G HK
        generalize ((((((wr.setCell ⟨w.heap.size, 0, none⟩ (.int .i64 r.1)).setCell ⟨w.heap.size, 1, none⟩ (.slice a1 n1 c1)).setCell ⟨w.heap.size, 2, none⟩ (.slice a2 n2 c2)).setCell ⟨R3, 0, none⟩ (.int .i64 f.1)).setCell ⟨R3, 1, none⟩ (.int .i64 f.2.1)).setCell ⟨R3, 2, none⟩ (.slice af ys.length cf)).drew = wz at HZ ⊢
        have x0 := HZ.out.1.cell 0 rfl
        have x1 := HZ.out.1.cell 1 rfl
        have x2 := HZ.out.1.cell 2 rfl
        have y0 := HZ.out.2.1.cell 0 rfl
        have y1 := HZ.out.2.1.cell 1 rfl
        have y2 := HZ.out.2.1.cell 2 rfl
        repeat (first | go_values | go_skip | go_guarded | go_step | go_upon)
        refine bodyPost_ret (v := .tuple #[.agg #[.int .i64 r.1, .slice a1 n1 c1, .slice a2 n2 c2], .agg #[.int .i64 f.1, .int .i64 f.2.1, .slice af ys.length cf]]) (by simp [results, Try.results43, go_sem, x0, x1, x2, y0, y1, y2]) rfl ?_
        exact ⟨r, (f.1, f.2.1, ys), _, _, rfl, HZ.out.2.2.1.low (by omega), hcost, ⟨_, rfl, (HZ.out.2.2.2.1.low).mono (by omega) (Nat.le_refl _)⟩, by show ys.length ≤ 100; omega, HZ.out.2.2.2.2.fresh (by omega)⟩

set_option maxHeartbeats 8000000 in
theorem drawf_ok (ao : Option Addr) (len cap : Nat) (w : World) (h : Code w ao len) (hl : len ≤ 1048576) :
    Calls Try.prog 11 #[.slice ao len cap] w fun e w' => ∃ r f rv fv, e = .returned (.tuple #[rv, fv]) ∧ RulesAt w' rv r ∧ rulesCost r ≤ 1000 ∧ FieldAt w' fv f ∧ f.2.2.length ≤ 100 ∧ Kept w w' := by
  go_enter Try.func11, Try.ntmps11
  repeat (first | go_values | go_skip | go_guarded | go_step | go_upon)
  go_at_call 43
  have KW : Kept w ((w.alloc (.cells #[.int .i64 0, .slice none 0 0, .slice none 0 0] 25)).alloc (.cells #[.int .i64 0, .int .i64 0, .slice none 0 0] 28)) := ((But.refl 0 0 w).alloc _).alloc _
  refine (draw_ok ao len cap _ (Code.keep h KW) hl).mono ?_
  rintro e w1 ⟨r, f, rv, fv, rfl, HR, hcost, HF, hf, k1⟩
  obtain ⟨a1, c1, a2, c2, hvf⟩ := HR.at.form
  subst hvf
  obtain ⟨af, cf, hff⟩ := HF.form
  subst hff
  have hsz : ((w.alloc (.cells #[.int .i64 0, .slice none 0 0, .slice none 0 0] 25)).alloc (.cells #[.int .i64 0, .int .i64 0, .slice none 0 0] 28)).heap.size = w.heap.size + 1 + 1 := by simp
  have L2 := ((Loc.new w [.int .i64 0, .slice none 0 0, .slice none 0 0] 25).kept ((But.refl _ _ _).alloc (.cells #[.int .i64 0, .int .i64 0, .slice none 0 0] 28))).kept k1
  have L3 := (Loc.new (w.alloc (.cells #[.int .i64 0, .slice none 0 0, .slice none 0 0] 25)) [.int .i64 0, .int .i64 0, .slice none 0 0] 28).kept k1
  rw [show (w.alloc (.cells #[.int .i64 0, .slice none 0 0, .slice none 0 0] 25)).heap.size = w.heap.size + 1 by simp] at L3
  have K1 := KW.trans k1
  rw [hsz] at HR HF
  clear KW k1 hsz
  obtain ⟨R3, hR3⟩ : ∃ x, w.heap.size + 1 = x := ⟨_, rfl⟩
  rw [hR3] at L3 HR HF ⊢
  have hRb : w.heap.size < R3 := by omega
  clear hR3
  have p0 := L2.cell 0 rfl
  have p1 := L2.cell 1 rfl
  have p2 := L2.cell 2 rfl
  have q0 := L2.frozen 0
  have q1 := L2.frozen 1
  have q2 := L2.frozen 2
  have u0 := L3.cell 0 rfl
  have u1 := L3.cell 1 rfl
  have u2 := L3.cell 2 rfl
  have v0 := L3.frozen 0
  have v1 := L3.frozen 1
  have v2 := L3.frozen 2
  have m1 : w.heap.size ≠ R3 := by omega
  have HK : Hid _ := And.intro HR (And.intro HF (And.intro L2 (And.intro L3 K1)))
  clear HR HF L2 L3 K1
  dsimp only
  repeat (first | go_values | go_skip | go_guarded | go_step | go_upon)
  clear p0 p1 p2 q0 q1 q2 u0 u1 u2 v0 v1 v2 m1
  obtain ⟨HR, HF, L2, L3, K1⟩ := HK.out
  have A1 := ((L2.set 0 (.int .i64 r.1)).set 1 (.slice a1 r.2.1.length c1)).set 2 (.slice a2 r.2.2.length c2)
  simp only [List.set_cons_zero, List.set_cons_succ] at A1
  have PA : But w.heap.size (w.heap.size + 1) w1 (((w1.setCell ⟨w.heap.size, 0, none⟩ (.int .i64 r.1)).setCell ⟨w.heap.size, 1, none⟩ (.slice a1 r.2.1.length c1)).setCell ⟨w.heap.size, 2, none⟩ (.slice a2 r.2.2.length c2)) := (((But.refl _ _ _).setCell (by simp) (by simp) _).setCell (by simp) (by simp) _).setCell (by simp) (by simp) _
  have L3 := L3.but PA (by omega)
  have A2 := ((L3.set 0 (.int .i64 f.1)).set 1 (.int .i64 f.2.1)).set 2 (.slice af f.2.2.length cf)
  simp only [List.set_cons_zero, List.set_cons_succ] at A2
  have PB : But R3 (R3 + 1) (((w1.setCell ⟨w.heap.size, 0, none⟩ (.int .i64 r.1)).setCell ⟨w.heap.size, 1, none⟩ (.slice a1 r.2.1.length c1)).setCell ⟨w.heap.size, 2, none⟩ (.slice a2 r.2.2.length c2)) ((((((w1.setCell ⟨w.heap.size, 0, none⟩ (.int .i64 r.1)).setCell ⟨w.heap.size, 1, none⟩ (.slice a1 r.2.1.length c1)).setCell ⟨w.heap.size, 2, none⟩ (.slice a2 r.2.2.length c2)).setCell ⟨R3, 0, none⟩ (.int .i64 f.1)).setCell ⟨R3, 1, none⟩ (.int .i64 f.2.1)).setCell ⟨R3, 2, none⟩ (.slice af f.2.2.length cf)) := (((But.refl _ _ _).setCell (by simp) (by simp) _).setCell (by simp) (by simp) _).setCell (by simp) (by simp) _
  have GA : Kept w (((w1.setCell ⟨w.heap.size, 0, none⟩ (.int .i64 r.1)).setCell ⟨w.heap.size, 1, none⟩ (.slice a1 r.2.1.length c1)).setCell ⟨w.heap.size, 2, none⟩ (.slice a2 r.2.2.length c2)) := ((K1.setNew (by simp) _).setNew (by simp) _).setNew (by simp) _
  have GB : Kept w ((((((w1.setCell ⟨w.heap.size, 0, none⟩ (.int .i64 r.1)).setCell ⟨w.heap.size, 1, none⟩ (.slice a1 r.2.1.length c1)).setCell ⟨w.heap.size, 2, none⟩ (.slice a2 r.2.2.length c2)).setCell ⟨R3, 0, none⟩ (.int .i64 f.1)).setCell ⟨R3, 1, none⟩ (.int .i64 f.2.1)).setCell ⟨R3, 2, none⟩ (.slice af f.2.2.length cf)) := ((GA.setNew (by simp; omega) _).setNew (by simp; omega) _).setNew (by simp; omega) _
  have HZ : Hid (Loc ((((((w1.setCell ⟨w.heap.size, 0, none⟩ (.int .i64 r.1)).setCell ⟨w.heap.size, 1, none⟩ (.slice a1 r.2.1.length c1)).setCell ⟨w.heap.size, 2, none⟩ (.slice a2 r.2.2.length c2)).setCell ⟨R3, 0, none⟩ (.int .i64 f.1)).setCell ⟨R3, 1, none⟩ (.int .i64 f.2.1)).setCell ⟨R3, 2, none⟩ (.slice af f.2.2.length cf)) w.heap.size [.int .i64 r.1, .slice a1 r.2.1.length c1, .slice a2 r.2.2.length c2] ∧ Loc ((((((w1.setCell ⟨w.heap.size, 0, none⟩ (.int .i64 r.1)).setCell ⟨w.heap.size, 1, none⟩ (.slice a1 r.2.1.length c1)).setCell ⟨w.heap.size, 2, none⟩ (.slice a2 r.2.2.length c2)).setCell ⟨R3, 0, none⟩ (.int .i64 f.1)).setCell ⟨R3, 1, none⟩ (.int .i64 f.2.1)).setCell ⟨R3, 2, none⟩ (.slice af f.2.2.length cf)) R3 [.int .i64 f.1, .int .i64 f.2.1, .slice af f.2.2.length cf] ∧ RulesAt ((((((w1.setCell ⟨w.heap.size, 0, none⟩ (.int .i64 r.1)).setCell ⟨w.heap.size, 1, none⟩ (.slice a1 r.2.1.length c1)).setCell ⟨w.heap.size, 2, none⟩ (.slice a2 r.2.2.length c2)).setCell ⟨R3, 0, none⟩ (.int .i64 f.1)).setCell ⟨R3, 1, none⟩ (.int .i64 f.2.1)).setCell ⟨R3, 2, none⟩ (.slice af f.2.2.length cf)) (.agg #[.int .i64 r.1, .slice a1 r.2.1.length c1, .slice a2 r.2.2.length c2]) r ∧ FieldAt ((((((w1.setCell ⟨w.heap.size, 0, none⟩ (.int .i64 r.1)).setCell ⟨w.heap.size, 1, none⟩ (.slice a1 r.2.1.length c1)).setCell ⟨w.heap.size, 2, none⟩ (.slice a2 r.2.2.length c2)).setCell ⟨R3, 0, none⟩ (.int .i64 f.1)).setCell ⟨R3, 1, none⟩ (.int .i64 f.2.1)).setCell ⟨R3, 2, none⟩ (.slice af f.2.2.length cf)) (.agg #[.int .i64 f.1, .int .i64 f.2.1, .slice af f.2.2.length cf]) f ∧ Kept w ((((((w1.setCell ⟨w.heap.size, 0, none⟩ (.int .i64 r.1)).setCell ⟨w.heap.size, 1, none⟩ (.slice a1 r.2.1.length c1)).setCell ⟨w.heap.size, 2, none⟩ (.slice a2 r.2.2.length c2)).setCell ⟨R3, 0, none⟩ (.int .i64 f.1)).setCell ⟨R3, 1, none⟩ (.int .i64 f.2.1)).setCell ⟨R3, 2, none⟩ (.slice af f.2.2.length cf))) := ⟨A1.but PB (by omega), A2, ((HR.but PA (by omega)).but PB (by omega)).at, ((HF.but PA (by omega)).but PB (by omega)).at, GB⟩
  clear A1 A2 PA PB GA GB L2 L3 HR HF K1 HK
  generalize ((((((w1.setCell ⟨w.heap.size, 0, none⟩ (.int .i64 r.1)).setCell ⟨w.heap.size, 1, none⟩ (.slice a1 r.2.1.length c1)).setCell ⟨w.heap.size, 2, none⟩ (.slice a2 r.2.2.length c2)).setCell ⟨R3, 0, none⟩ (.int .i64 f.1)).setCell ⟨R3, 1, none⟩ (.int .i64 f.2.1)).setCell ⟨R3, 2, none⟩ (.slice af f.2.2.length cf)) = wz at HZ ⊢
  have x0 := HZ.out.1.cell 0 rfl
  have x1 := HZ.out.1.cell 1 rfl
  have x2 := HZ.out.1.cell 2 rfl
  have y0 := HZ.out.2.1.cell 0 rfl
  have y1 := HZ.out.2.1.cell 1 rfl
  have y2 := HZ.out.2.1.cell 2 rfl
  refine bodyPost_ret (v := .tuple #[.agg #[.int .i64 r.1, .slice a1 r.2.1.length c1, .slice a2 r.2.2.length c2], .agg #[.int .i64 f.1, .int .i64 f.2.1, .slice af f.2.2.length cf]]) (by simp [results, Try.results11, go_sem, x0, x1, x2, y0, y1, y2]) rfl ?_
  exact ⟨r, f, _, _, rfl, HZ.out.2.2.1, hcost, HZ.out.2.2.2.1, hf, HZ.out.2.2.2.2⟩

end Go.Proofs.Ytopakblckajdmaa
