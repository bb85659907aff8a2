/-
  Cells and the cells next to them, in the program.
-/
import Derived.Test.YtnfkgnbhdhpnmaaCell13
import Derived.Test.YtnfkgnbhdhpnmaaSplit13
import Derived.Test.YtnfkgnbhdhpnmaaLeaf13
namespace Go.Proofs.Ytnfkgnbhdhpnmaa
open Go.ChangeShapes Go.WideShapes Go.ChangeAt Go.RowKit

set_option maxRecDepth 100000
set_option linter.unusedVariables false
set_option maxHeartbeats 4000000 in
theorem iaxes (a b d : Int) (s : Value) (w : World) (he : Edge a b d) :
    Calls Try.prog 40 #[.agg #[.int .i64 a, .int .i64 b, .int .i64 d, s]] w fun e w' => e = .returned (.agg #[.int .i64 a, .int .i64 1, .int .i64 b, .int .i64 a, .int .i64 d, .int .i64 (a * b)]) ∧ Kept w w' := by
  obtain ⟨⟨m1, m2⟩, m3, m4⟩ := he.vol
  go_enter Try.func40, Try.ntmps40
  repeat (first | go_values | go_skip | go_guarded | go_step | go_upon)
  refine bodyPost_ret (v := .agg #[.int .i64 a, .int .i64 1, .int .i64 b, .int .i64 a, .int .i64 d, .int .i64 (a * b)]) (by simp [results, Try.results40, go_sem]) rfl ?_
  exact ⟨rfl, ((But.refl _ _ _).alloc _).alloc _⟩
theorem ix_at (a1 a2 a3 a4 a5 a6 : Value) (W : World) : (Instr.index 58 (.agg #[a1, a2, a3, a4, a5, a6]) (.int .i64 0)).run Try.prog W = .ok (.agg #[a1, a2]) W ∧ (Instr.index 58 (.agg #[a1, a2, a3, a4, a5, a6]) (.int .i64 1)).run Try.prog W = .ok (.agg #[a3, a4]) W ∧ (Instr.index 58 (.agg #[a1, a2, a3, a4, a5, a6]) (.int .i64 2)).run Try.prog W = .ok (.agg #[a5, a6]) W := by
  refine ⟨?_, ?_, ?_⟩
  · kernel_rfl
  · kernel_rfl
  · kernel_rfl
set_option maxHeartbeats 8000000 in
theorem ibes (a b d n : Int) (wy : Nat) (s : Value) (w : World) (he : Edge a b d) (h0 : 0 ≤ n) (h1 : n ≤ a * b * d - 1) (hw : wy < 6) :
    Calls Try.prog 65 #[.agg #[.int .i64 a, .int .i64 b, .int .i64 d, s], .int .i64 n, .int .i64 (wy : Int)] w fun e w' => e = .returned (.tuple #[.int .i64 (bes a b d n wy), .bool (there a b d n wy)]) ∧ Kept w w' := by
  have h2 : n ≤ 511 := by have := he.vol; omega
  obtain ⟨⟨m1, m2⟩, m3, m4⟩ := he.vol
  have a1 := he.1.1
  have a2 := he.1.2
  have b1 := he.2.1.1
  have b2 := he.2.1.2
  have d1 := he.2.2.1
  have d2 := he.2.2.2
  have za : (a == 0) = false := by simp; omega
  have zb : (b == 0) = false := by simp; omega
  have zd : (d == 0) = false := by simp; omega
  have zab : (a * b == 0) = false := by simp only [beq_eq_false_iff_ne]; omega
  obtain rfl | rfl | rfl | rfl | rfl | rfl : wy = 0 ∨ wy = 1 ∨ wy = 2 ∨ wy = 3 ∨ wy = 4 ∨ wy = 5 := by omega
  · have t1 : 0 ≤ n / (1) := Int.ediv_nonneg h0 (by omega)
    have t2 : n / (1) ≤ 511 := Int.le_trans (Int.ediv_le_self _ h0) h2
    have t3 : 0 ≤ n / (1) % a := Int.emod_nonneg _ (by omega)
    have t4 : n / (1) % a < a := Int.emod_lt_of_pos _ (by omega)
    (try simp only [Int.ediv_one] at t1 t2 t3 t4)
    have hb : bes a b d n 0 = n - 1 := rfl
    have hr : there a b d n 0 = decide (0 < n % a) := by simp [there, pl, apart, many]
    rw [hb, hr]
    clear hb hr
    have hix := fun W => (ix_at (.int .i64 a) (.int .i64 1) (.int .i64 b) (.int .i64 a) (.int .i64 d) (.int .i64 (a * b)) W).1
    go_enter Try.func65, Try.ntmps65
    repeat (first | (go_at_call 40; refine (iaxes a b d _ _ he).mono ?_; rintro e u1 ⟨rfl, k1⟩; (try dsimp only)) | go_values | go_skip | go_guarded | go_step | go_upon)
    have K1 : Kept w u1 := ((But.refl _ _ _).alloc _).trans k1
    clear k1
    obtain ⟨W, hW⟩ : ∃ x, x = u1.alloc (.cells #[.int .i64 a, .int .i64 (1)] 57) := ⟨_, rfl⟩
    have kz : Kept u1 W := by rw [hW]; exact (But.refl _ _ _).alloc _
    have LW : Loc W u1.heap.size [.int .i64 a, .int .i64 (1)] := by rw [hW]; exact Loc.new _ _ _
    rw [← hW]
    clear hW
    have c0 := LW.cell 0 rfl
    have c1 := LW.cell 1 rfl
    have cl := LW.lt
    refine wp_region_kept (by kernel_rfl) (by kernel_rfl) ?_
    have hcc := KW.cell_eq W
    repeat (go_big_quiet_step (fail))
    refine wpQuiet_nil ?_
    rintro y1 ⟨⟨w8, k1⟩, h9⟩
    change y1 = w8 at h9
    subst h9
    clear hcc
    have c0 := Kept.cell k1 c0
    have c1 := Kept.cell k1 c1
    repeat (first | go_values | go_skip | go_guarded | go_step | go_upon)
    go_returns
    exact ⟨rfl, (K1.trans kz).trans k1⟩
  · have t1 : 0 ≤ n / (1) := Int.ediv_nonneg h0 (by omega)
    have t2 : n / (1) ≤ 511 := Int.le_trans (Int.ediv_le_self _ h0) h2
    have t3 : 0 ≤ n / (1) % a := Int.emod_nonneg _ (by omega)
    have t4 : n / (1) % a < a := Int.emod_lt_of_pos _ (by omega)
    (try simp only [Int.ediv_one] at t1 t2 t3 t4)
    have hb : bes a b d n 1 = n + 1 := rfl
    have hr : there a b d n 1 = decide (n % a < a - 1) := by simp [there, pl, apart, many]
    rw [hb, hr]
    clear hb hr
    have hix := fun W => (ix_at (.int .i64 a) (.int .i64 1) (.int .i64 b) (.int .i64 a) (.int .i64 d) (.int .i64 (a * b)) W).1
    go_enter Try.func65, Try.ntmps65
    repeat (first | (go_at_call 40; refine (iaxes a b d _ _ he).mono ?_; rintro e u1 ⟨rfl, k1⟩; (try dsimp only)) | go_values | go_skip | go_guarded | go_step | go_upon)
    have K1 : Kept w u1 := ((But.refl _ _ _).alloc _).trans k1
    clear k1
    obtain ⟨W, hW⟩ : ∃ x, x = u1.alloc (.cells #[.int .i64 a, .int .i64 (1)] 57) := ⟨_, rfl⟩
    have kz : Kept u1 W := by rw [hW]; exact (But.refl _ _ _).alloc _
    have LW : Loc W u1.heap.size [.int .i64 a, .int .i64 (1)] := by rw [hW]; exact Loc.new _ _ _
    rw [← hW]
    clear hW
    have c0 := LW.cell 0 rfl
    have c1 := LW.cell 1 rfl
    have cl := LW.lt
    refine wp_region_kept (by kernel_rfl) (by kernel_rfl) ?_
    have hcc := KW.cell_eq W
    repeat (go_big_quiet_step (fail))
    refine wpQuiet_nil ?_
    rintro y1 ⟨⟨w8, k1⟩, h9⟩
    change y1 = w8 at h9
    subst h9
    clear hcc
    have c0 := Kept.cell k1 c0
    have c1 := Kept.cell k1 c1
    repeat (first | go_values | go_skip | go_guarded | go_step | go_upon)
    have cl := cell_ltG c0
    refine wp_region_kept (by kernel_rfl) (by kernel_rfl) ?_
    have hcc := KW.cell_eq y1
    repeat (go_big_quiet_step (fail))
    refine wpQuiet_nil ?_
    rintro y2 ⟨⟨w8, k2⟩, h9⟩
    change y2 = w8 at h9
    subst h9
    clear hcc
    repeat (first | go_values | go_skip | go_guarded | go_step | go_upon)
    go_returns
    exact ⟨rfl, (K1.trans kz).trans (k1.trans k2)⟩
  · have t1 : 0 ≤ n / (a) := Int.ediv_nonneg h0 (by omega)
    have t2 : n / (a) ≤ 511 := Int.le_trans (Int.ediv_le_self _ h0) h2
    have t3 : 0 ≤ n / (a) % b := Int.emod_nonneg _ (by omega)
    have t4 : n / (a) % b < b := Int.emod_lt_of_pos _ (by omega)
    (try simp only [Int.ediv_one] at t1 t2 t3 t4)
    have hb : bes a b d n 2 = n - a := rfl
    have hr : there a b d n 2 = decide (0 < n / (a) % b) := by simp [there, pl, apart, many]
    rw [hb, hr]
    clear hb hr
    have hix := fun W => (ix_at (.int .i64 a) (.int .i64 1) (.int .i64 b) (.int .i64 a) (.int .i64 d) (.int .i64 (a * b)) W).2.1
    go_enter Try.func65, Try.ntmps65
    repeat (first | (go_at_call 40; refine (iaxes a b d _ _ he).mono ?_; rintro e u1 ⟨rfl, k1⟩; (try dsimp only)) | go_values | go_skip | go_guarded | go_step | go_upon)
    have K1 : Kept w u1 := ((But.refl _ _ _).alloc _).trans k1
    clear k1
    obtain ⟨W, hW⟩ : ∃ x, x = u1.alloc (.cells #[.int .i64 b, .int .i64 (a)] 57) := ⟨_, rfl⟩
    have kz : Kept u1 W := by rw [hW]; exact (But.refl _ _ _).alloc _
    have LW : Loc W u1.heap.size [.int .i64 b, .int .i64 (a)] := by rw [hW]; exact Loc.new _ _ _
    rw [← hW]
    clear hW
    have c0 := LW.cell 0 rfl
    have c1 := LW.cell 1 rfl
    have cl := LW.lt
    refine wp_region_kept (by kernel_rfl) (by kernel_rfl) ?_
    have hcc := KW.cell_eq W
    repeat (go_big_quiet_step (fail))
    refine wpQuiet_nil ?_
    rintro y1 ⟨⟨w8, k1⟩, h9⟩
    change y1 = w8 at h9
    subst h9
    clear hcc
    have c0 := Kept.cell k1 c0
    have c1 := Kept.cell k1 c1
    repeat (first | go_values | go_skip | go_guarded | go_step | go_upon)
    go_returns
    exact ⟨rfl, (K1.trans kz).trans k1⟩
  · have t1 : 0 ≤ n / (a) := Int.ediv_nonneg h0 (by omega)
    have t2 : n / (a) ≤ 511 := Int.le_trans (Int.ediv_le_self _ h0) h2
    have t3 : 0 ≤ n / (a) % b := Int.emod_nonneg _ (by omega)
    have t4 : n / (a) % b < b := Int.emod_lt_of_pos _ (by omega)
    (try simp only [Int.ediv_one] at t1 t2 t3 t4)
    have hb : bes a b d n 3 = n + a := rfl
    have hr : there a b d n 3 = decide (n / (a) % b < b - 1) := by simp [there, pl, apart, many]
    rw [hb, hr]
    clear hb hr
    have hix := fun W => (ix_at (.int .i64 a) (.int .i64 1) (.int .i64 b) (.int .i64 a) (.int .i64 d) (.int .i64 (a * b)) W).2.1
    go_enter Try.func65, Try.ntmps65
    repeat (first | (go_at_call 40; refine (iaxes a b d _ _ he).mono ?_; rintro e u1 ⟨rfl, k1⟩; (try dsimp only)) | go_values | go_skip | go_guarded | go_step | go_upon)
    have K1 : Kept w u1 := ((But.refl _ _ _).alloc _).trans k1
    clear k1
    obtain ⟨W, hW⟩ : ∃ x, x = u1.alloc (.cells #[.int .i64 b, .int .i64 (a)] 57) := ⟨_, rfl⟩
    have kz : Kept u1 W := by rw [hW]; exact (But.refl _ _ _).alloc _
    have LW : Loc W u1.heap.size [.int .i64 b, .int .i64 (a)] := by rw [hW]; exact Loc.new _ _ _
    rw [← hW]
    clear hW
    have c0 := LW.cell 0 rfl
    have c1 := LW.cell 1 rfl
    have cl := LW.lt
    refine wp_region_kept (by kernel_rfl) (by kernel_rfl) ?_
    have hcc := KW.cell_eq W
    repeat (go_big_quiet_step (fail))
    refine wpQuiet_nil ?_
    rintro y1 ⟨⟨w8, k1⟩, h9⟩
    change y1 = w8 at h9
    subst h9
    clear hcc
    have c0 := Kept.cell k1 c0
    have c1 := Kept.cell k1 c1
    repeat (first | go_values | go_skip | go_guarded | go_step | go_upon)
    have cl := cell_ltG c0
    refine wp_region_kept (by kernel_rfl) (by kernel_rfl) ?_
    have hcc := KW.cell_eq y1
    repeat (go_big_quiet_step (fail))
    refine wpQuiet_nil ?_
    rintro y2 ⟨⟨w8, k2⟩, h9⟩
    change y2 = w8 at h9
    subst h9
    clear hcc
    repeat (first | go_values | go_skip | go_guarded | go_step | go_upon)
    go_returns
    exact ⟨rfl, (K1.trans kz).trans (k1.trans k2)⟩
  · have t1 : 0 ≤ n / (a * b) := Int.ediv_nonneg h0 (by omega)
    have t2 : n / (a * b) ≤ 511 := Int.le_trans (Int.ediv_le_self _ h0) h2
    have t3 : 0 ≤ n / (a * b) % d := Int.emod_nonneg _ (by omega)
    have t4 : n / (a * b) % d < d := Int.emod_lt_of_pos _ (by omega)
    (try simp only [Int.ediv_one] at t1 t2 t3 t4)
    have hb : bes a b d n 4 = n - (a * b) := rfl
    have hr : there a b d n 4 = decide (0 < n / (a * b) % d) := by simp [there, pl, apart, many]
    rw [hb, hr]
    clear hb hr
    have hix := fun W => (ix_at (.int .i64 a) (.int .i64 1) (.int .i64 b) (.int .i64 a) (.int .i64 d) (.int .i64 (a * b)) W).2.2
    go_enter Try.func65, Try.ntmps65
    repeat (first | (go_at_call 40; refine (iaxes a b d _ _ he).mono ?_; rintro e u1 ⟨rfl, k1⟩; (try dsimp only)) | go_values | go_skip | go_guarded | go_step | go_upon)
    have K1 : Kept w u1 := ((But.refl _ _ _).alloc _).trans k1
    clear k1
    obtain ⟨W, hW⟩ : ∃ x, x = u1.alloc (.cells #[.int .i64 d, .int .i64 (a * b)] 57) := ⟨_, rfl⟩
    have kz : Kept u1 W := by rw [hW]; exact (But.refl _ _ _).alloc _
    have LW : Loc W u1.heap.size [.int .i64 d, .int .i64 (a * b)] := by rw [hW]; exact Loc.new _ _ _
    rw [← hW]
    clear hW
    have c0 := LW.cell 0 rfl
    have c1 := LW.cell 1 rfl
    have cl := LW.lt
    refine wp_region_kept (by kernel_rfl) (by kernel_rfl) ?_
    have hcc := KW.cell_eq W
    repeat (go_big_quiet_step (fail))
    refine wpQuiet_nil ?_
    rintro y1 ⟨⟨w8, k1⟩, h9⟩
    change y1 = w8 at h9
    subst h9
    clear hcc
    have c0 := Kept.cell k1 c0
    have c1 := Kept.cell k1 c1
    repeat (first | go_values | go_skip | go_guarded | go_step | go_upon)
    go_returns
    exact ⟨rfl, (K1.trans kz).trans k1⟩
  · have t1 : 0 ≤ n / (a * b) := Int.ediv_nonneg h0 (by omega)
    have t2 : n / (a * b) ≤ 511 := Int.le_trans (Int.ediv_le_self _ h0) h2
    have t3 : 0 ≤ n / (a * b) % d := Int.emod_nonneg _ (by omega)
    have t4 : n / (a * b) % d < d := Int.emod_lt_of_pos _ (by omega)
    (try simp only [Int.ediv_one] at t1 t2 t3 t4)
    have hb : bes a b d n 5 = n + (a * b) := rfl
    have hr : there a b d n 5 = decide (n / (a * b) % d < d - 1) := by simp [there, pl, apart, many]
    rw [hb, hr]
    clear hb hr
    have hix := fun W => (ix_at (.int .i64 a) (.int .i64 1) (.int .i64 b) (.int .i64 a) (.int .i64 d) (.int .i64 (a * b)) W).2.2
    go_enter Try.func65, Try.ntmps65
    repeat (first | (go_at_call 40; refine (iaxes a b d _ _ he).mono ?_; rintro e u1 ⟨rfl, k1⟩; (try dsimp only)) | go_values | go_skip | go_guarded | go_step | go_upon)
    have K1 : Kept w u1 := ((But.refl _ _ _).alloc _).trans k1
    clear k1
    obtain ⟨W, hW⟩ : ∃ x, x = u1.alloc (.cells #[.int .i64 d, .int .i64 (a * b)] 57) := ⟨_, rfl⟩
    have kz : Kept u1 W := by rw [hW]; exact (But.refl _ _ _).alloc _
    have LW : Loc W u1.heap.size [.int .i64 d, .int .i64 (a * b)] := by rw [hW]; exact Loc.new _ _ _
    rw [← hW]
    clear hW
    have c0 := LW.cell 0 rfl
    have c1 := LW.cell 1 rfl
    have cl := LW.lt
    refine wp_region_kept (by kernel_rfl) (by kernel_rfl) ?_
    have hcc := KW.cell_eq W
    repeat (go_big_quiet_step (fail))
    refine wpQuiet_nil ?_
    rintro y1 ⟨⟨w8, k1⟩, h9⟩
    change y1 = w8 at h9
    subst h9
    clear hcc
    have c0 := Kept.cell k1 c0
    have c1 := Kept.cell k1 c1
    repeat (first | go_values | go_skip | go_guarded | go_step | go_upon)
    have cl := cell_ltG c0
    refine wp_region_kept (by kernel_rfl) (by kernel_rfl) ?_
    have hcc := KW.cell_eq y1
    repeat (go_big_quiet_step (fail))
    refine wpQuiet_nil ?_
    rintro y2 ⟨⟨w8, k2⟩, h9⟩
    change y2 = w8 at h9
    subst h9
    clear hcc
    repeat (first | go_values | go_skip | go_guarded | go_step | go_upon)
    go_returns
    exact ⟨rfl, (K1.trans kz).trans (k1.trans k2)⟩

end Go.Proofs.Ytnfkgnbhdhpnmaa
