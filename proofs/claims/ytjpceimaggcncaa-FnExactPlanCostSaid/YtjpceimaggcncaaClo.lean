/-
  What a plan costs, and the facts behind it: in the program.
-/
import Derived.Test.YtjpceimaggcncaaPlan
namespace Go.Proofs.Ytjpceimaggcncaa
open Go.ChangeShapes Go.WideShapes Go.ChangeAt Go.RowKit
set_option maxRecDepth 100000
set_option linter.unusedVariables false

theorem cell_lt {w : World} {b o : Nat} {x : Value} (h : w.cell? ⟨b, o, none⟩ = some x) : b < w.heap.size := by
  rcases Nat.lt_or_ge b w.heap.size with k | k
  · exact k
  · simp [World.cell?, Array.getElem?_eq_none k] at h

set_option maxHeartbeats 2000000 in
theorem clo_out (ps : List ActionD) (c g i : Int) (B : Nat) (v' : Value) (w : World) (hB : w.cell? ⟨B, 0, none⟩ = some v') (hv' : ActionAt w v' ps) (hn : ps.length ≤ 1048576) (h : ¬ (0 ≤ i ∧ i ≤ (ps.length : Int) - 1)) :
    Calls Try.prog 58 #[.agg #[.int .i64 c, .int .i64 g], .int .i64 i, .pointer (some ⟨B, 0, none⟩)] w fun e w' => e = .returned (.tuple #[.agg #[.int .i64 0, .int .i64 0], .bool false]) ∧ Kept w w' := by
  obtain ⟨ao', cap', hsl⟩ := row_nil hv'
  subst hsl
  have q1 := cell_lt hB
  have hB1 : ((w.alloc (.cells #[.int .i64 c, .int .i64 g] 86)).alloc (.cells #[.int .i64 0, .int .i64 0] 86)).cell? ⟨B, 0, none⟩ = some (.slice ao' ps.length cap') := by simp [go_sem, *]
  have q2 : B < w.heap.size + 1 + 1 := by omega
  by_cases hi : i < 0
  · have di : decide (i < 0) = true := by simpa using hi
    go_enter Try.func58, Try.ntmps58
    repeat (first | go_values | go_skip | go_guarded | go_step | go_upon)
    refine wp_region_kept (by kernel_rfl) (by kernel_rfl) ?_
    have hcc := KW.cell_eq ((w.alloc (.cells #[.int .i64 c, .int .i64 g] 86)).alloc (.cells #[.int .i64 0, .int .i64 0] 86))
    repeat (go_big_quiet_step (fail))
    refine wpQuiet_nil ?_
    rintro w5 ⟨⟨w6, k5⟩, h5⟩
    change w5 = w6 at h5
    subst h5
    clear hcc
    have r0 := Kept.cell k5 (show ((w.alloc (.cells #[.int .i64 c, .int .i64 g] 86)).alloc (.cells #[.int .i64 0, .int .i64 0] 86)).cell? ⟨w.heap.size + 1, 0, none⟩ = some (.int .i64 0) by simp [go_sem])
    have r1 := Kept.cell k5 (show ((w.alloc (.cells #[.int .i64 c, .int .i64 g] 86)).alloc (.cells #[.int .i64 0, .int .i64 0] 86)).cell? ⟨w.heap.size + 1, 1, none⟩ = some (.int .i64 0) by simp [go_sem])
    have a0 := Kept.cell k5 (show ((w.alloc (.cells #[.int .i64 c, .int .i64 g] 86)).alloc (.cells #[.int .i64 0, .int .i64 0] 86)).cell? ⟨w.heap.size, 0, none⟩ = some (.int .i64 c) by simp [go_sem])
    have a1 := Kept.cell k5 (show ((w.alloc (.cells #[.int .i64 c, .int .i64 g] 86)).alloc (.cells #[.int .i64 0, .int .i64 0] 86)).cell? ⟨w.heap.size, 1, none⟩ = some (.int .i64 g) by simp [go_sem])
    have z0 : w5.frozen? ⟨w.heap.size + 1, 0, none⟩ = false := by rw [Kept.frozen_eq k5 _ _ (by simp)]; simp [go_sem]
    have z1 : w5.frozen? ⟨w.heap.size + 1, 1, none⟩ = false := by rw [Kept.frozen_eq k5 _ _ (by simp)]; simp [go_sem]
    have s5 := k5.size
    simp at s5
    have KW5 : Kept w w5 := But.trans ((But.refl _ _ _).alloc _ |>.alloc _) k5
    clear k5
    repeat (first | go_values | go_skip | go_guarded | go_step | go_upon)
    refine bodyPost_ret (v := .tuple #[.agg #[.int .i64 0, .int .i64 0], .bool false]) (by simp [results, Try.results58, go_sem, *]) rfl ?_
    refine ⟨rfl, ?_⟩
    repeat (first | with_reducible exact KW5 | (with_reducible refine But.setNew ?_ (by simp) _))
  · have di : decide (i < 0) = false := by simpa using hi
    have dj : decide ((ps.length : Int) ≤ i) = true := by simp; omega
    go_enter Try.func58, Try.ntmps58
    repeat (first | go_values | go_skip | go_guarded | go_step | go_upon)
    refine wp_region_kept (by kernel_rfl) (by kernel_rfl) ?_
    have hcc := KW.cell_eq ((w.alloc (.cells #[.int .i64 c, .int .i64 g] 86)).alloc (.cells #[.int .i64 0, .int .i64 0] 86))
    repeat (go_big_quiet_step (fail))
    refine wpQuiet_nil ?_
    rintro w5 ⟨⟨w6, k5⟩, h5⟩
    change w5 = w6 at h5
    subst h5
    clear hcc
    have r0 := Kept.cell k5 (show ((w.alloc (.cells #[.int .i64 c, .int .i64 g] 86)).alloc (.cells #[.int .i64 0, .int .i64 0] 86)).cell? ⟨w.heap.size + 1, 0, none⟩ = some (.int .i64 0) by simp [go_sem])
    have r1 := Kept.cell k5 (show ((w.alloc (.cells #[.int .i64 c, .int .i64 g] 86)).alloc (.cells #[.int .i64 0, .int .i64 0] 86)).cell? ⟨w.heap.size + 1, 1, none⟩ = some (.int .i64 0) by simp [go_sem])
    have a0 := Kept.cell k5 (show ((w.alloc (.cells #[.int .i64 c, .int .i64 g] 86)).alloc (.cells #[.int .i64 0, .int .i64 0] 86)).cell? ⟨w.heap.size, 0, none⟩ = some (.int .i64 c) by simp [go_sem])
    have a1 := Kept.cell k5 (show ((w.alloc (.cells #[.int .i64 c, .int .i64 g] 86)).alloc (.cells #[.int .i64 0, .int .i64 0] 86)).cell? ⟨w.heap.size, 1, none⟩ = some (.int .i64 g) by simp [go_sem])
    have z0 : w5.frozen? ⟨w.heap.size + 1, 0, none⟩ = false := by rw [Kept.frozen_eq k5 _ _ (by simp)]; simp [go_sem]
    have z1 : w5.frozen? ⟨w.heap.size + 1, 1, none⟩ = false := by rw [Kept.frozen_eq k5 _ _ (by simp)]; simp [go_sem]
    have s5 := k5.size
    simp at s5
    have KW5 : Kept w w5 := But.trans ((But.refl _ _ _).alloc _ |>.alloc _) k5
    clear k5
    repeat (first | go_values | go_skip | go_guarded | go_step | go_upon)
    refine bodyPost_ret (v := .tuple #[.agg #[.int .i64 0, .int .i64 0], .bool false]) (by simp [results, Try.results58, go_sem, *]) rfl ?_
    refine ⟨rfl, ?_⟩
    repeat (first | with_reducible exact KW5 | (with_reducible refine But.setNew ?_ (by simp) _))

theorem do_may {g : Int} {p : ActionD} (hf : factB g = true) (ha : actB p = true) : doB g p = mayB g p := by simp [doB, hf, ha]

set_option maxHeartbeats 4000000 in
theorem clo_in (ps : List ActionD) (c g : Int) (j : Nat) (p : ActionD) (B : Nat) (v' : Value) (w : World) (hB : w.cell? ⟨B, 0, none⟩ = some v') (hv' : ActionAt w v' ps) (hn : ps.length ≤ 1048576) (hp : ps[j]? = some p) (hs : p.1.size ≤ 1048576) (hf : factB g = true) (ha : actB p = true) (hc0 : 0 ≤ c) (hc1 : c ≤ 1000000) (hcb : 1 ≤ p.2.1 ∧ p.2.1 ≤ 1000) :
    Calls Try.prog 58 #[.agg #[.int .i64 c, .int .i64 g], .int .i64 (j : Int), .pointer (some ⟨B, 0, none⟩)] w fun e w' => e = .returned (if mayB g p = true then .tuple #[.agg #[.int .i64 (c + p.2.1), .int .i64 (nextI g p)], .bool true] else .tuple #[.agg #[.int .i64 0, .int .i64 0], .bool false]) ∧ Kept w w' := by
  have hj : j < ps.length := (List.getElem?_eq_some_iff.1 hp).1
  obtain ⟨b, o, cap', e, c0, c1, c2, c3, c4, c5⟩ := action_get hv' hp
  subst e
  obtain ⟨nm, co, ne, la, ga, lo⟩ := p
  dsimp only at hs hcb c0 c1 c2 c3 c4 c5 ⊢
  have hdo := do_may hf ha
  have q1 := cell_lt hB
  have q3 := cell_lt c0
  have KA : Kept w ((w.alloc (.cells #[.int .i64 c, .int .i64 g] 86)).alloc (.cells #[.int .i64 0, .int .i64 0] 86)) := ((But.refl _ _ _).alloc _).alloc _
  have hB1 := Kept.cell KA hB
  have c0' := Kept.cell KA c0
  have c1' := Kept.cell KA c1
  have c2' := Kept.cell KA c2
  have c3' := Kept.cell KA c3
  have c4' := Kept.cell KA c4
  have c5' := Kept.cell KA c5
  have q2 : B < w.heap.size + 1 + 1 := by omega
  have q4 : b < w.heap.size + 1 + 1 := by omega
  have di : decide ((j : Int) < 0) = false := by simp
  have dj : decide ((ps.length : Int) ≤ (j : Int)) = false := by simp; omega
  have dj' : decide (ps.length ≤ j) = false := by simp; omega
  have HV : Hid _ := hv'
  have HA : Hid (actB (nm, co, ne, la, ga, lo) = true) := ha
  have HF : Hid (factB g = true) := hf
  clear hv' KA ha hf hp
  cases hm : mayB g (nm, co, ne, la, ga, lo)
  · rw [hm] at hdo
    rw [if_neg (by simp)]
    go_enter Try.func58, Try.ntmps58
    repeat (first | go_values | go_skip | go_guarded | go_step | go_upon)
    refine wp_region_kept (by kernel_rfl) (by kernel_rfl) ?_
    have hcc := KW.cell_eq ((w.alloc (.cells #[.int .i64 c, .int .i64 g] 86)).alloc (.cells #[.int .i64 0, .int .i64 0] 86))
    repeat (go_big_quiet_step (first | (go_at_call 22; exact kw_call (calls_bool hdo (ido nm co ne la ga lo g _ hs)))))
    refine wpQuiet_nil ?_
    rintro w5 ⟨⟨w6, k5⟩, h5⟩
    change w5 = w6 at h5
    subst h5
    clear hcc
    have r0 := Kept.cell k5 (show ((w.alloc (.cells #[.int .i64 c, .int .i64 g] 86)).alloc (.cells #[.int .i64 0, .int .i64 0] 86)).cell? ⟨w.heap.size + 1, 0, none⟩ = some (.int .i64 0) by simp [go_sem])
    have r1 := Kept.cell k5 (show ((w.alloc (.cells #[.int .i64 c, .int .i64 g] 86)).alloc (.cells #[.int .i64 0, .int .i64 0] 86)).cell? ⟨w.heap.size + 1, 1, none⟩ = some (.int .i64 0) by simp [go_sem])
    have a0 := Kept.cell k5 (show ((w.alloc (.cells #[.int .i64 c, .int .i64 g] 86)).alloc (.cells #[.int .i64 0, .int .i64 0] 86)).cell? ⟨w.heap.size, 0, none⟩ = some (.int .i64 c) by simp [go_sem])
    have a1 := Kept.cell k5 (show ((w.alloc (.cells #[.int .i64 c, .int .i64 g] 86)).alloc (.cells #[.int .i64 0, .int .i64 0] 86)).cell? ⟨w.heap.size, 1, none⟩ = some (.int .i64 g) by simp [go_sem])
    have z0 : w5.frozen? ⟨w.heap.size + 1, 0, none⟩ = false := by rw [Kept.frozen_eq k5 _ _ (by simp)]; simp [go_sem]
    have z1 : w5.frozen? ⟨w.heap.size + 1, 1, none⟩ = false := by rw [Kept.frozen_eq k5 _ _ (by simp)]; simp [go_sem]
    have s5 := k5.size
    simp at s5
    have KW5 : Kept w w5 := But.trans ((But.refl _ _ _).alloc _ |>.alloc _) k5
    clear k5
    repeat (first | go_values | go_skip | go_guarded | go_step | go_upon)
    refine bodyPost_ret (v := .tuple #[.agg #[.int .i64 0, .int .i64 0], .bool false]) (by simp [results, Try.results58, go_sem, *]) rfl ?_
    refine ⟨rfl, ?_⟩
    repeat (first | with_reducible exact KW5 | (with_reducible refine But.setNew ?_ (by simp) _))
  · rw [hm] at hdo
    rw [if_pos rfl]
    go_enter Try.func58, Try.ntmps58
    repeat (first | go_values | go_skip | go_guarded | go_step | go_upon)
    refine wp_region_kept (by kernel_rfl) (by kernel_rfl) ?_
    have hcc := KW.cell_eq ((w.alloc (.cells #[.int .i64 c, .int .i64 g] 86)).alloc (.cells #[.int .i64 0, .int .i64 0] 86))
    repeat (go_big_quiet_step (first | (go_at_call 22; exact kw_call (calls_bool hdo (ido nm co ne la ga lo g _ hs)))))
    refine wpQuiet_nil ?_
    rintro w5 ⟨⟨w6, k5⟩, h5⟩
    change w5 = w6 at h5
    subst h5
    clear hcc
    have r0 := Kept.cell k5 (show ((w.alloc (.cells #[.int .i64 c, .int .i64 g] 86)).alloc (.cells #[.int .i64 0, .int .i64 0] 86)).cell? ⟨w.heap.size + 1, 0, none⟩ = some (.int .i64 0) by simp [go_sem])
    have r1 := Kept.cell k5 (show ((w.alloc (.cells #[.int .i64 c, .int .i64 g] 86)).alloc (.cells #[.int .i64 0, .int .i64 0] 86)).cell? ⟨w.heap.size + 1, 1, none⟩ = some (.int .i64 0) by simp [go_sem])
    have a0 := Kept.cell k5 (show ((w.alloc (.cells #[.int .i64 c, .int .i64 g] 86)).alloc (.cells #[.int .i64 0, .int .i64 0] 86)).cell? ⟨w.heap.size, 0, none⟩ = some (.int .i64 c) by simp [go_sem])
    have a1 := Kept.cell k5 (show ((w.alloc (.cells #[.int .i64 c, .int .i64 g] 86)).alloc (.cells #[.int .i64 0, .int .i64 0] 86)).cell? ⟨w.heap.size, 1, none⟩ = some (.int .i64 g) by simp [go_sem])
    have z0 : w5.frozen? ⟨w.heap.size + 1, 0, none⟩ = false := by rw [Kept.frozen_eq k5 _ _ (by simp)]; simp [go_sem]
    have z1 : w5.frozen? ⟨w.heap.size + 1, 1, none⟩ = false := by rw [Kept.frozen_eq k5 _ _ (by simp)]; simp [go_sem]
    have s5 := k5.size
    simp at s5
    have KW5 : Kept w w5 := But.trans ((But.refl _ _ _).alloc _ |>.alloc _) k5
    clear k5
    have hB5 := Kept.cell KW5 hB
    have c0 := Kept.cell KW5 c0
    have c1 := Kept.cell KW5 c1
    have c2 := Kept.cell KW5 c2
    have c3 := Kept.cell KW5 c3
    have c4 := Kept.cell KW5 c4
    have c5 := Kept.cell KW5 c5
    clear c0' c1' c2' c3' c4' c5' hB1
    have haf : afterI g (nm, co, ne, la, ga, lo) = nextI g (nm, co, ne, la, ga, lo) := by simp [afterI, HF.out, hdo]
    repeat (first | go_values | go_skip | go_guarded | go_step | go_upon)
    have x1 : w.heap.size < w5.heap.size := by omega
    have x2 : w.heap.size + 1 < w5.heap.size := by omega
    go_region_held3 (fun w' => w'.cell? ⟨w.heap.size, 0, none⟩ = some (.int .i64 c) ∧ w'.cell? ⟨w.heap.size, 1, none⟩ = some (.int .i64 g) ∧ w'.cell? ⟨w5.heap.size, 0, none⟩ = some (.string nm) ∧ w'.cell? ⟨w5.heap.size, 1, none⟩ = some (.int .i64 co) ∧ w'.cell? ⟨w5.heap.size, 2, none⟩ = some (.int .i64 ne) ∧ w'.cell? ⟨w5.heap.size, 3, none⟩ = some (.int .i64 la) ∧ w'.cell? ⟨w5.heap.size, 4, none⟩ = some (.int .i64 ga) ∧ w'.cell? ⟨w5.heap.size, 5, none⟩ = some (.int .i64 lo)) (simp [go_sem, *])
      (first | (go_at_call 24; refine (iafter _ _ _ _ _ _ _ _ hs).mono ?_; rw [haf]; rintro e w7 ⟨rfl, k7⟩; have hc7 := Kept.cell_eq k7; have hf7 := Kept.frozen_eq k7; have hz7 := k7.size; (try simp at hz7); have y1 : w.heap.size + 1 < w7.heap.size := (by omega); have y2 : w.heap.size < w7.heap.size := (by omega); have y3 : w5.heap.size < w7.heap.size := (by omega)))
    have hw : IntKind.i64.wrap (c + co) = c + co := IntWalk.i64_in _ (by omega)
    rw [hw]
    have KW7 : Kept w w7 := But.trans ((KW5.alloc _).drew) k7
    clear hw
    repeat (first | go_values | go_skip | go_guarded | go_step | go_upon)
    refine bodyPost_ret (v := .tuple #[.agg #[.int .i64 (c + co), .int .i64 (nextI g (nm, co, ne, la, ga, lo))], .bool true]) (by simp [results, Try.results58, go_sem, *]) rfl ?_
    refine ⟨rfl, ?_⟩
    repeat (first | with_reducible exact KW7 | (with_reducible refine But.setNew ?_ (by simp) _))
end Go.Proofs.Ytjpceimaggcncaa
