/-
  Bits copied.
-/
import Derived.Test.YtaadlhcpgjibeaaSPut23
namespace Go.Proofs.Ytaadlhcpgjibeaa
open Go.ChangeShapes Go.WideShapes Go.ChangeAt Go.RowKit

set_option maxRecDepth 100000
set_option linter.unusedVariables false
set_option linter.unusedSimpArgs false

set_option maxHeartbeats 8000000 in
theorem sown (c : BitsD) (v : Value) (w : World) (hv : BitsAt w v c) (hn : c.2.length ≤ 1048576) :
    Calls Try.prog 22 #[v] w fun e w' => ∃ v', e = .returned v' ∧ BitsO w' w.heap.size w'.heap.size v' c ∧ Kept w w' := by
  obtain ⟨ao, cap, hfm⟩ := hv.form
  subst hfm
  have hr := hv.row
  have L1 : Loc (((w.alloc (.cells #[.int .i64 c.1, .slice ao c.2.length cap] 27)).alloc (.cells #[.int .i64 0, .slice none 0 0] 27)).alloc (.cells #[] 5)) w.heap.size [.int .i64 c.1, .slice ao c.2.length cap] := ((Loc.new w [.int .i64 c.1, .slice ao c.2.length cap] 27).alloc (.cells #[.int .i64 0, .slice none 0 0] 27)).alloc (.cells #[] 5)
  have L2 : Loc (((w.alloc (.cells #[.int .i64 c.1, .slice ao c.2.length cap] 27)).alloc (.cells #[.int .i64 0, .slice none 0 0] 27)).alloc (.cells #[] 5)) (w.heap.size + 1) [.int .i64 0, .slice none 0 0] := by
    have := Loc.new (w.alloc (.cells #[.int .i64 c.1, .slice ao c.2.length cap] 27)) [.int .i64 0, .slice none 0 0] 27
    have := this.alloc (.cells #[] 5)
    simpa using this
  have HE : BytO (((w.alloc (.cells #[.int .i64 c.1, .slice ao c.2.length cap] 27)).alloc (.cells #[.int .i64 0, .slice none 0 0] 27)).alloc (.cells #[] 5)) (w.heap.size + 2) (w.heap.size + 3) (.slice (some ⟨w.heap.size + 1 + 1, 0, none⟩) 0 0) [] := by
    have := empty_byt ((w.alloc (.cells #[.int .i64 c.1, .slice ao c.2.length cap] 27)).alloc (.cells #[.int .i64 0, .slice none 0 0] 27))
    simpa using this
  go_enter Try.func22, Try.ntmps22
  repeat (first | (at_builtin; refine forgetL (fun w' => w' = _) rfl ?_) | go_values | go_skip | go_guarded | go_step | go_upon)
  intro W7 hW7
  rw [hW7]
  clear hW7 W7
  refine app_byt rfl _ _ rfl (lo := w.heap.size + 2) (hi := w.heap.size + 3) (ps := []) rfl HE (ao := ao) (qs := c.2) rfl (hr.kept ((((But.refl _ _ _).alloc _).alloc _).alloc _)) rfl (by simp; omega) (by simp) ?_
  intro v5 w5 o5 b5
  rw [List.nil_append] at o5
  have L1 := L1.but b5 (by omega)
  have L2 := L2.but b5 (by omega)
  have K5 : Kept w w5 := But.onto ((((But.refl _ _ w).alloc (.cells #[.int .i64 c.1, .slice ao c.2.length cap] 27)).alloc (.cells #[.int .i64 0, .slice none 0 0] 27)).alloc (.cells #[] 5)) b5 (by omega)
  obtain ⟨a5, p5, hf⟩ := o5.form
  subst hf
  have b0 := L1.cell 0 rfl
  have b1 := L1.cell 1 rfl
  have f1 := L1.frozen 1
  have c0 := L2.cell 0 rfl
  have c1 := L2.cell 1 rfl
  have g0 := L2.frozen 0
  have g1 := L2.frozen 1
  have i1 := L1.lt
  have i2 := L2.lt
  have O5 : Hid _ := o5
  have K5 : Hid _ := K5
  clear o5 b5 L1 L2
  repeat (first | go_values | go_skip | go_guarded | go_step | go_upon)
  refine bodyPost_ret (v := .agg #[.int .i64 c.1, .slice a5 c.2.length p5]) (by simp [results, Try.results22, go_sem, *]) rfl ?_
  refine ⟨_, rfl, ⟨_, rfl, ?_⟩, But.setNew (But.setNew (But.setNew K5.out (Nat.le_refl _) _) (Nat.le_succ _) _) (Nat.le_succ _) _⟩
  have q := own_away O5.out (but_in (i := 1) (but_in (i := 0) (but_in (i := 1) (But.refl w.heap.size (w.heap.size + 2) w5) (b := w.heap.size) (Nat.le_refl _) (by omega) (.slice a5 c.2.length p5)) (b := w.heap.size + 1) (by omega) (by omega) (.int .i64 c.1)) (b := w.heap.size + 1) (by omega) (by omega) (.slice a5 c.2.length p5)) (fun g hg => .inr (own_lt O5.out.1 hg).1)
  exact (BytO.mono q (by omega) (Nat.le_refl _)).low

set_option maxHeartbeats 8000000 in
theorem icopy (c : BitsD) (v : Value) (w : World) (hv : BitsAt w v c) (hn : c.2.length ≤ 1048576) :
    Calls Try.prog 26 #[v] w fun e w' => ∃ v', e = .returned v' ∧ BitsO w' w.heap.size w'.heap.size v' c ∧ Kept w w' := by
  obtain ⟨ao, cap, hfm⟩ := hv.form
  subst hfm
  have hr := hv.row
  have L1 : Loc ((w.alloc (.cells #[.int .i64 c.1, .slice ao c.2.length cap] 27)).alloc (.cells #[.int .i64 0, .slice none 0 0] 27)) w.heap.size [.int .i64 c.1, .slice ao c.2.length cap] := ((Loc.new w [.int .i64 c.1, .slice ao c.2.length cap] 27).alloc (.cells #[.int .i64 0, .slice none 0 0] 27))
  have L2 : Loc ((w.alloc (.cells #[.int .i64 c.1, .slice ao c.2.length cap] 27)).alloc (.cells #[.int .i64 0, .slice none 0 0] 27)) (w.heap.size + 1) [.int .i64 0, .slice none 0 0] := by
    have := Loc.new (w.alloc (.cells #[.int .i64 c.1, .slice ao c.2.length cap] 27)) [.int .i64 0, .slice none 0 0] 27
    have := this
    simpa using this
  go_enter Try.func26, Try.ntmps26
  repeat (first | (at_builtin; refine forgetL (fun w' => w' = _) rfl ?_) | go_values | go_skip | go_guarded | go_step | go_upon)
  intro W7 hW7
  rw [hW7]
  clear hW7 W7
  refine app_byt rfl _ _ rfl (lo := w.heap.size + 2) (hi := w.heap.size + 2) (ps := []) rfl (nil_byt _ _ _) (ao := ao) (qs := c.2) rfl (hr.kept (((But.refl _ _ _).alloc _).alloc _)) rfl (by simp; omega) (by simp) ?_
  intro v5 w5 o5 b5
  rw [List.nil_append] at o5
  have L1 := L1.but b5 (by omega)
  have L2 := L2.but b5 (by omega)
  have K5 : Kept w w5 := But.onto ((((But.refl _ _ w).alloc (.cells #[.int .i64 c.1, .slice ao c.2.length cap] 27)).alloc (.cells #[.int .i64 0, .slice none 0 0] 27))) b5 (by omega)
  obtain ⟨a5, p5, hf⟩ := o5.form
  subst hf
  have b0 := L1.cell 0 rfl
  have b1 := L1.cell 1 rfl
  have f1 := L1.frozen 1
  have c0 := L2.cell 0 rfl
  have c1 := L2.cell 1 rfl
  have g0 := L2.frozen 0
  have g1 := L2.frozen 1
  have i1 := L1.lt
  have i2 := L2.lt
  have O5 : Hid _ := o5
  have K5 : Hid _ := K5
  clear o5 b5 L1 L2
  repeat (first | go_values | go_skip | go_guarded | go_step | go_upon)
  refine bodyPost_ret (v := .agg #[.int .i64 c.1, .slice a5 c.2.length p5]) (by simp [results, Try.results26, go_sem, *]) rfl ?_
  refine ⟨_, rfl, ⟨_, rfl, ?_⟩, But.setNew (But.setNew (But.setNew K5.out (Nat.le_refl _) _) (Nat.le_succ _) _) (Nat.le_succ _) _⟩
  have q := own_away O5.out (but_in (i := 1) (but_in (i := 0) (but_in (i := 1) (But.refl w.heap.size (w.heap.size + 2) w5) (b := w.heap.size) (Nat.le_refl _) (by omega) (.slice a5 c.2.length p5)) (b := w.heap.size + 1) (by omega) (by omega) (.int .i64 c.1)) (b := w.heap.size + 1) (by omega) (by omega) (.slice a5 c.2.length p5)) (fun g hg => .inr (own_lt O5.out.1 hg).1)
  exact (BytO.mono q (by omega) (Nat.le_refl _)).low

end Go.Proofs.Ytaadlhcpgjibeaa
