/-
  What RunMusic refuses.
-/
import Derived.Test.YtapfafibhjpkdaaDoorIMus15
namespace Go.Proofs.YtapfafibhjpkdaaDoor
open Go.ChangeShapes Go.WideShapes Go.ChangeAt Go.RowKit

set_option maxRecDepth 100000
set_option linter.unusedVariables false

set_option maxHeartbeats 8000000 in
theorem srun_bad (l : List SectionD) (ao : Option Addr) (cap : Nat) (m0 : ByteArray) (m1 : Int) (m2 : ByteArray) (B : Int) (w : World) (hv : SecsAt w (.slice ao l.length cap) l) (hcap : l.length ≤ cap ∧ cap ≤ 9223372036854775807) (hn : secsCost l ≤ 1048576) (hb : ¬ (MusicP l (m0, m1, m2) ∧ (0 ≤ B ∧ B ≤ 1000))) :
    Calls Tryd.prog 6 #[.slice ao l.length cap, .agg #[.string m0, .int .i64 m1, .string m2], .int .i64 B] w fun e w' => e = .returned (.tuple #[.agg #[.string ⟨#[]⟩, .int .i64 0, .string ⟨#[]⟩], .slice none 0 0, .bool false]) ∧ Kept w w' := by
  have K0 : Kept w ((w.alloc (.cells #[.string m0, .int .i64 m1, .string m2] 27)).alloc (.cells #[.string ⟨#[]⟩, .int .i64 0, .string ⟨#[]⟩] 27)) := ((But.refl _ _ _).alloc _).alloc _
  cases q1 : dec (MusicP l (m0, m1, m2)) with
  | false =>
    go_enter Tryd.func6, Tryd.ntmps6
    repeat (first | go_values | go_skip | go_guarded | go_step | go_upon)
    go_at_call 17
    refine (smusic l ao cap m0 m1 m2 _ (hv.kept K0) hcap hn).mono ?_
    rintro e w1 ⟨rfl, k1⟩
    rw [q1]
    have K1 := K0.trans k1
    have Z1 := (Loc.new (w.alloc (.cells #[.string m0, .int .i64 m1, .string m2] 27)) [.string ⟨#[]⟩, .int .i64 0, .string ⟨#[]⟩] 27).kept k1
    simp only [World.size_alloc] at Z1
    have U0 := Z1
    have u0 := U0.cell 0 rfl
    have uf0 := U0.frozen 0
    have U1 := U0.set 0 (.string ⟨#[]⟩)
    simp only [List.set_cons_zero] at U1
    have u1 := U1.cell 1 rfl
    have uf1 := U1.frozen 1
    have U2 := U1.set 1 (.int .i64 0)
    simp only [List.set_cons_zero, List.set_cons_succ] at U2
    have u2 := U2.cell 2 rfl
    have uf2 := U2.frozen 2
    have U3 := U2.set 2 (.string ⟨#[]⟩)
    simp only [List.set_cons_zero, List.set_cons_succ] at U3
    have uv0 := U3.cell 0 rfl
    have uv1 := U3.cell 1 rfl
    have uv2 := U3.cell 2 rfl
    have HK : Hid (Kept w w1) := K1
    clear U0 U1 U2 U3 K0 k1 K1 Z1
    dsimp only
    repeat (first | go_values | go_skip | go_guarded | go_step | go_upon)
    refine bodyPost_ret (v := .tuple #[.agg #[.string ⟨#[]⟩, .int .i64 0, .string ⟨#[]⟩], .slice none 0 0, .bool false]) (by simp [results, Tryd.results6, go_sem, *]) rfl ?_
    exact ⟨rfl, ((HK.out.setNew (by simp) _).setNew (by simp) _).setNew (by simp) _⟩
  | true =>
    have dB : decide (0 ≤ B ∧ B ≤ 1000) = false := decide_eq_false (fun h => hb ⟨of_dec q1, h⟩)
    go_enter Tryd.func6, Tryd.ntmps6
    repeat (first | go_values | go_skip | go_guarded | go_step | go_upon)
    go_at_call 17
    refine (smusic l ao cap m0 m1 m2 _ (hv.kept K0) hcap hn).mono ?_
    rintro e w1 ⟨rfl, k1⟩
    rw [q1]
    have K1 := K0.trans k1
    have Z1 := (Loc.new (w.alloc (.cells #[.string m0, .int .i64 m1, .string m2] 27)) [.string ⟨#[]⟩, .int .i64 0, .string ⟨#[]⟩] 27).kept k1
    simp only [World.size_alloc] at Z1
    have U0 := Z1
    have u0 := U0.cell 0 rfl
    have uf0 := U0.frozen 0
    have U1 := U0.set 0 (.string ⟨#[]⟩)
    simp only [List.set_cons_zero] at U1
    have u1 := U1.cell 1 rfl
    have uf1 := U1.frozen 1
    have U2 := U1.set 1 (.int .i64 0)
    simp only [List.set_cons_zero, List.set_cons_succ] at U2
    have u2 := U2.cell 2 rfl
    have uf2 := U2.frozen 2
    have U3 := U2.set 2 (.string ⟨#[]⟩)
    simp only [List.set_cons_zero, List.set_cons_succ] at U3
    have uv0 := U3.cell 0 rfl
    have uv1 := U3.cell 1 rfl
    have uv2 := U3.cell 2 rfl
    have HK : Hid (Kept w w1) := K1
    clear U0 U1 U2 U3 K0 k1 K1 Z1
    dsimp only
    repeat (first | (go_at_call 18; refine (sInG _ _ _ _).mono ?_; rintro e w' ⟨rfl, hw'⟩; rw [hw', dB]; clear hw'; dsimp only) | go_values | go_skip | go_guarded | go_step | go_upon)
    refine bodyPost_ret (v := .tuple #[.agg #[.string ⟨#[]⟩, .int .i64 0, .string ⟨#[]⟩], .slice none 0 0, .bool false]) (by simp [results, Tryd.results6, go_sem, *]) rfl ?_
    exact ⟨rfl, ((HK.out.setNew (by simp) _).setNew (by simp) _).setNew (by simp) _⟩

set_option maxHeartbeats 8000000 in
theorem irun_bad (l : List SectionD) (ao : Option Addr) (cap : Nat) (m0 : ByteArray) (m1 : Int) (m2 : ByteArray) (B : Int) (w : World) (hv : SecsAt w (.slice ao l.length cap) l) (hcap : l.length ≤ cap ∧ cap ≤ 9223372036854775807) (hn : secsCost l ≤ 1048576) (hb : ¬ (MusicP l (m0, m1, m2) ∧ (0 ≤ B ∧ B ≤ 1000))) :
    Calls Tryd.prog 9 #[.slice ao l.length cap, .agg #[.string m0, .int .i64 m1, .string m2], .int .i64 B] w fun e w' => e = .returned (.tuple #[.agg #[.string ⟨#[]⟩, .int .i64 0, .string ⟨#[]⟩], .slice none 0 0, .bool false]) ∧ Kept w w' := by
  have K0 : Kept w ((w.alloc (.cells #[.string m0, .int .i64 m1, .string m2] 27)).alloc (.cells #[.string ⟨#[]⟩, .int .i64 0, .string ⟨#[]⟩] 27)) := ((But.refl _ _ _).alloc _).alloc _
  cases q1 : dec (MusicP l (m0, m1, m2)) with
  | false =>
    go_enter Tryd.func9, Tryd.ntmps9
    repeat (first | go_values | go_skip | go_guarded | go_step | go_upon)
    go_at_call 23
    refine (imusic l ao cap m0 m1 m2 _ (hv.kept K0) hcap hn).mono ?_
    rintro e w1 ⟨rfl, k1⟩
    rw [q1]
    have K1 := K0.trans k1
    have Z1 := (Loc.new (w.alloc (.cells #[.string m0, .int .i64 m1, .string m2] 27)) [.string ⟨#[]⟩, .int .i64 0, .string ⟨#[]⟩] 27).kept k1
    simp only [World.size_alloc] at Z1
    have U0 := Z1
    have u0 := U0.cell 0 rfl
    have uf0 := U0.frozen 0
    have U1 := U0.set 0 (.string ⟨#[]⟩)
    simp only [List.set_cons_zero] at U1
    have u1 := U1.cell 1 rfl
    have uf1 := U1.frozen 1
    have U2 := U1.set 1 (.int .i64 0)
    simp only [List.set_cons_zero, List.set_cons_succ] at U2
    have u2 := U2.cell 2 rfl
    have uf2 := U2.frozen 2
    have U3 := U2.set 2 (.string ⟨#[]⟩)
    simp only [List.set_cons_zero, List.set_cons_succ] at U3
    have uv0 := U3.cell 0 rfl
    have uv1 := U3.cell 1 rfl
    have uv2 := U3.cell 2 rfl
    have HK : Hid (Kept w w1) := K1
    clear U0 U1 U2 U3 K0 k1 K1 Z1
    dsimp only
    repeat (first | go_values | go_skip | go_guarded | go_step | go_upon)
    refine bodyPost_ret (v := .tuple #[.agg #[.string ⟨#[]⟩, .int .i64 0, .string ⟨#[]⟩], .slice none 0 0, .bool false]) (by simp [results, Tryd.results9, go_sem, *]) rfl ?_
    exact ⟨rfl, ((HK.out.setNew (by simp) _).setNew (by simp) _).setNew (by simp) _⟩
  | true =>
    by_cases hB0 : B < 0
    · have d1 : decide (B < 0) = true := decide_eq_true hB0
      go_enter Tryd.func9, Tryd.ntmps9
      repeat (first | go_values | go_skip | go_guarded | go_step | go_upon)
      go_at_call 23
      refine (imusic l ao cap m0 m1 m2 _ (hv.kept K0) hcap hn).mono ?_
      rintro e w1 ⟨rfl, k1⟩
      rw [q1]
      have K1 := K0.trans k1
      have Z1 := (Loc.new (w.alloc (.cells #[.string m0, .int .i64 m1, .string m2] 27)) [.string ⟨#[]⟩, .int .i64 0, .string ⟨#[]⟩] 27).kept k1
      simp only [World.size_alloc] at Z1
      have U0 := Z1
      have u0 := U0.cell 0 rfl
      have uf0 := U0.frozen 0
      have U1 := U0.set 0 (.string ⟨#[]⟩)
      simp only [List.set_cons_zero] at U1
      have u1 := U1.cell 1 rfl
      have uf1 := U1.frozen 1
      have U2 := U1.set 1 (.int .i64 0)
      simp only [List.set_cons_zero, List.set_cons_succ] at U2
      have u2 := U2.cell 2 rfl
      have uf2 := U2.frozen 2
      have U3 := U2.set 2 (.string ⟨#[]⟩)
      simp only [List.set_cons_zero, List.set_cons_succ] at U3
      have uv0 := U3.cell 0 rfl
      have uv1 := U3.cell 1 rfl
      have uv2 := U3.cell 2 rfl
      have HK : Hid (Kept w w1) := K1
      clear U0 U1 U2 U3 K0 k1 K1 Z1
      dsimp only
      repeat (first | go_values | go_skip | go_guarded | go_step | go_upon)
      refine bodyPost_ret (v := .tuple #[.agg #[.string ⟨#[]⟩, .int .i64 0, .string ⟨#[]⟩], .slice none 0 0, .bool false]) (by simp [results, Tryd.results9, go_sem, *]) rfl ?_
      exact ⟨rfl, ((HK.out.setNew (by simp) _).setNew (by simp) _).setNew (by simp) _⟩
    · have d1 : decide (B < 0) = false := decide_eq_false hB0
      have d2 : decide (1000 < B) = true := decide_eq_true (by
        have := hb
        by_cases h : 1000 < B
        · exact h
        · exact absurd ⟨of_dec q1, by omega, by omega⟩ this)
      go_enter Tryd.func9, Tryd.ntmps9
      repeat (first | go_values | go_skip | go_guarded | go_step | go_upon)
      go_at_call 23
      refine (imusic l ao cap m0 m1 m2 _ (hv.kept K0) hcap hn).mono ?_
      rintro e w1 ⟨rfl, k1⟩
      rw [q1]
      have K1 := K0.trans k1
      have Z1 := (Loc.new (w.alloc (.cells #[.string m0, .int .i64 m1, .string m2] 27)) [.string ⟨#[]⟩, .int .i64 0, .string ⟨#[]⟩] 27).kept k1
      simp only [World.size_alloc] at Z1
      have U0 := Z1
      have u0 := U0.cell 0 rfl
      have uf0 := U0.frozen 0
      have U1 := U0.set 0 (.string ⟨#[]⟩)
      simp only [List.set_cons_zero] at U1
      have u1 := U1.cell 1 rfl
      have uf1 := U1.frozen 1
      have U2 := U1.set 1 (.int .i64 0)
      simp only [List.set_cons_zero, List.set_cons_succ] at U2
      have u2 := U2.cell 2 rfl
      have uf2 := U2.frozen 2
      have U3 := U2.set 2 (.string ⟨#[]⟩)
      simp only [List.set_cons_zero, List.set_cons_succ] at U3
      have uv0 := U3.cell 0 rfl
      have uv1 := U3.cell 1 rfl
      have uv2 := U3.cell 2 rfl
      have HK : Hid (Kept w w1) := K1
      clear U0 U1 U2 U3 K0 k1 K1 Z1
      dsimp only
      repeat (first | go_values | go_skip | go_guarded | go_step | go_upon)
      refine bodyPost_ret (v := .tuple #[.agg #[.string ⟨#[]⟩, .int .i64 0, .string ⟨#[]⟩], .slice none 0 0, .bool false]) (by simp [results, Tryd.results9, go_sem, *]) rfl ?_
      exact ⟨rfl, ((HK.out.setNew (by simp) _).setNew (by simp) _).setNew (by simp) _⟩

end Go.Proofs.YtapfafibhjpkdaaDoor
