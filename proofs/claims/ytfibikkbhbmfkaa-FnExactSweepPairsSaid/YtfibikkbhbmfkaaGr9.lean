/-
  Functions that only draw and lay memory: compares.
-/
import Derived.Test.YtfibikkbhbmfkaaAllPairs9
import Derived.Test.YtfibikkbhbmfkaaSplit9
import Derived.Sort.Grow
namespace Go.Proofs.Ytfibikkbhbmfkaa
open Go.ChangeShapes Go.WideShapes Go.ChangeAt Go.RowKit

set_option maxRecDepth 100000
set_option linter.unusedVariables false
set_option linter.unusedSimpArgs false

open Go.Sort
/-- Draws, and blocks laid behind: nothing else. -/
def Gr (W w' : World) : Prop := ∃ q os', w' = grow (W.drewN q) os'
theorem Gr.refl (W : World) : Gr W W := ⟨0, #[], by simp [grow, World.drewN]⟩
theorem Gr.trans {a b c : World} (h : Gr a b) (k : Gr b c) : Gr a c := by
  obtain ⟨q, os, rfl⟩ := h
  obtain ⟨q', os', rfl⟩ := k
  exact ⟨q + q', os ++ os', by simp [grow, World.drewN, Array.append_assoc, Nat.add_assoc]⟩
theorem Gr.alloc {a b : World} (h : Gr a b) (o : Obj) : Gr a (b.alloc o) := h.trans ⟨0, #[o], by rw [alloc_eq_grow]; simp [grow, World.drewN]⟩
theorem Gr.drew {a b : World} (h : Gr a b) : Gr a b.drew := h.trans ⟨1, #[], by rw [grow_empty]; rfl⟩
theorem Gr.drewN {a b : World} (h : Gr a b) (n : Nat) : Gr a (b.drewN n) := h.trans ⟨n, #[], by rw [grow_empty]⟩
theorem Gr.kept {a b : World} (h : Gr a b) : Kept a b := by
  obtain ⟨q, os, rfl⟩ := h
  refine ⟨rfl, rfl, by simp [grow, World.drewN], fun i hi _ => ?_⟩
  simp [grow, World.drewN]
  rw [Array.getElem?_append_left hi]
structure GW (W : World) where
  w : World
  k : Gr W w
instance (W : World) : Nonempty (GW W) := ⟨⟨W, Gr.refl W⟩⟩
theorem GW.cell_eq (W : World) (x : GW W) (b o : Nat) (hb : b < W.heap.size) : x.w.cell? ⟨b, o, none⟩ = W.cell? ⟨b, o, none⟩ := x.k.kept.cell_eq b o hb
theorem wp_region_gr {P : Program} {id : Nat} {Q : Exit → Act → World → Prop} {a : Act} {w : World} {l : List Oper} (hm : P.follows .mixedOrders = true) (hB : Region.lexB .any l.toArray = true)
    (h : wpQuiet P l.toArray (fun w' => ∃ x : GW w, w' = x.w) (fun a' => ∀ w', (∃ x : GW w, w' = x.w) → Q .normal a' w') l a) : (Code.region id l.toArray true).wp P Q a w :=
  wp_region_quiet (C := fun w' => ∃ x : GW w, w' = x.w) hm hB ⟨⟨w.drew, (Gr.refl w).drew⟩, rfl⟩ (by simpa using h)
theorem gw_call {P : Program} {f : FuncId} {args : Array Value} {W : World} {x : GW W} {v : Value} (h : Calls P f args x.w fun e w' => e = .returned v ∧ Gr x.w w') : Calls P f args x.w fun e w'' => e = .returned v ∧ ∃ y : GW W, w'' = y.w :=
  h.mono fun _ _ ⟨he, hk⟩ => ⟨he, ⟨_, x.k.trans hk⟩, rfl⟩
theorem gw_same {P : Program} {f : FuncId} {args : Array Value} {W : World} {x : GW W} {v : Value} (h : Calls P f args x.w fun e w' => e = .returned v ∧ w' = x.w) : Calls P f args x.w fun e w'' => e = .returned v ∧ ∃ y : GW W, w'' = y.w :=
  h.mono fun _ _ ⟨he, hk⟩ => ⟨he, x, hk⟩

theorem wp_region_gsp {P : Program} {id : Nat} {Q : Exit → Act → World → Prop} {a : Act} {w : World} {l : List Oper} (m d : Nat) (hm : P.follows .mixedOrders = true) (hB : Region.lexB .any l.toArray = true) (hR : splitB l.toArray m d = true) (hml : m ≤ l.length)
    (h : wpQuiet P l.toArray (fun w' => ∃ x : GW w, w' = x.w) (fun a' => ∀ w', (∃ x : GW w, w' = x.w) → wpList P l.toArray Q (l.drop m) a' w') (l.take m) a) : (Code.region id l.toArray true).wp P Q a w :=
  wp_region_split m d hm hB hR hml ⟨⟨w.drew, (Gr.refl w).drew⟩, rfl⟩ h
def cmpI (a b : Int) : Int := if a < b then -1 else if b < a then 1 else 0
theorem isNaN (a : Int) (w : World) : Calls Try.prog 75 #[.int .i64 a] w fun e w' => e = .returned (.bool false) ∧ w' = w := by
  go_enter Try.func75, Try.ntmps75
  go_wp2
  go_ret
  exact ⟨rfl, rfl⟩
theorem compareI (a b : Int) (w : World) : Calls Try.prog 66 #[.int .i64 a, .int .i64 b] w fun e w' => e = .returned (.int .i64 (cmpI a b)) ∧ w' = w := by
  go_enter Try.func66, Try.ntmps66
  go_wp2_with (go_at_call 75; refine (isNaN _ _).mono ?_; rintro e w' ⟨rfl, rfl⟩)
  all_goals
    go_ret
    exact ⟨ret_int (by simp [cmpI] at * <;> omega), rfl⟩
theorem cmpI_lt {a b : Int} : decide (cmpI a b < 0) = decide (a < b) := by
  unfold cmpI
  rw [Bool.eq_iff_iff, decide_eq_true_iff, decide_eq_true_iff]
  repeat' split <;> omega
/-- The first of two that is not 0. -/
def orI (a b : Int) : Int := if a = 0 then b else a
theorem orI_lt (a b c d : Int) : decide (orI (cmpI a b) (cmpI c d) < 0) = (decide (a < b) || decide (a = b) && decide (c < d)) := by
  unfold orI cmpI
  rw [Bool.eq_iff_iff, decide_eq_true_iff, Bool.or_eq_true, Bool.and_eq_true, decide_eq_true_iff, decide_eq_true_iff, decide_eq_true_iff]
  repeat' split <;> omega
set_option maxHeartbeats 2000000 in
theorem cmpOr (a b : Int) (B o cap : Nat) (w : World) (h0 : w.cell? ⟨B, o, none⟩ = some (.int .i64 a)) (h1 : w.cell? ⟨B, o + 1, none⟩ = some (.int .i64 b)) : Calls Try.prog 65 #[.slice (some ⟨B, o, none⟩) 2 cap] w fun e w' => e = .returned (.int .i64 (orI a b)) ∧ w' = w := by
  by_cases ha : a = 0
  · subst ha
    by_cases hb : b = 0
    · subst hb
      go_enter Try.func65, Try.ntmps65
      repeat (first | go_values | go_skip | go_guarded | go_step | go_upon)
      go_rounds 3
      go_ret
      exact ⟨ret_int (by simp [orI]), rfl⟩
    · have e1 : (b == 0) = false := by simpa using hb
      go_enter Try.func65, Try.ntmps65
      repeat (first | go_values | go_skip | go_guarded | go_step | go_upon)
      go_rounds 3
      go_ret
      exact ⟨ret_int (by simp [orI]), rfl⟩
  · have e1 : (a == 0) = false := by simpa using ha
    go_enter Try.func65, Try.ntmps65
    repeat (first | go_values | go_skip | go_guarded | go_step | go_upon)
    go_rounds 3
    go_ret
    exact ⟨ret_int (by simp [orI, ha]), rfl⟩
theorem cmpOrN (a b : Int) (W : World) : Calls Try.prog 65 #[.slice (some ⟨W.heap.size, 0, none⟩) 2 2] (W.alloc (.cells #[.int .i64 a, .int .i64 b] 3)) fun e w' => e = .returned (.int .i64 (orI a b)) ∧ w' = W.alloc (.cells #[.int .i64 a, .int .i64 b] 3) := cmpOr a b _ _ _ _ (by simp [go_sem]) (by simp [go_sem])
set_option maxHeartbeats 2000000 in
theorem comparePairs (a b c d : Int) (w : World) : Calls Try.prog 50 #[.agg #[.int .i64 a, .int .i64 b], .agg #[.int .i64 c, .int .i64 d]] w fun e w' => e = .returned (.int .i64 (orI (cmpI a c) (cmpI b d))) ∧ Gr w w' := by
  go_enter Try.func50, Try.ntmps50
  repeat (first | go_values | go_skip | go_guarded | go_step | go_upon)
  refine wp_region_gsp 10 3 (by kernel_rfl) (by kernel_rfl) (by kernel_rfl) (by decide) ?_
  have hcc := GW.cell_eq ((w.alloc (.cells #[.int .i64 a, .int .i64 b] 70)).alloc (.cells #[.int .i64 c, .int .i64 d] 70))
  simp only [List.take_succ_cons, List.take_zero, List.drop_succ_cons, List.drop_zero]
  repeat (go_big_quiet_step (first | (go_at_call 66; exact gw_same (compareI _ _ _))))
  refine wpQuiet_nil ?_
  rintro w5 ⟨⟨w6, k5⟩, h5⟩
  change w5 = w6 at h5
  subst h5
  clear hcc
  have hk : Gr w w5 := ((Gr.refl w).alloc _ |>.alloc _).trans k5
  clear k5
  repeat (first | (go_at_call 65; refine (cmpOrN _ _ _).mono ?_; rintro e w' ⟨rfl, rfl⟩; dsimp only) | go_values | go_skip | go_guarded | go_step | go_upon)
  go_ret
  exact ⟨rfl, by (repeat (first | with_reducible exact hk | with_reducible apply Gr.drewN | with_reducible apply Gr.drew | with_reducible apply Gr.alloc))⟩

end Go.Proofs.Ytfibikkbhbmfkaa
