/-
  Leaves of the program: sparks copied, asked and moved on.
-/
import Derived.Test.YtpeiblodefaajaaDoorSky12
import Derived.Test.YtpeiblodefaajaaDoorRow12
namespace Go.Proofs.YtpeiblodefaajaaDoor
open Go.ChangeShapes Go.WideShapes Go.ChangeAt Go.RowKit

set_option maxRecDepth 100000
set_option linter.unusedVariables false
set_option maxHeartbeats 2000000 in
theorem icopy (l : List SparkD) (v : Value) (w : World) (hv : SparkAt w v l) (hl : l.length ≤ 1048576) :
    Calls Tryd.prog 28 #[v] w fun e w' => e = .returned (.slice (some ⟨w.heap.size, 0, none⟩) l.length l.length) ∧ SparkO w' w.heap.size (w.heap.size + 1) (.slice (some ⟨w.heap.size, 0, none⟩) l.length l.length) l ∧ Kept w w' ∧ w'.heap.size = w.heap.size + 1 := by
  obtain ⟨ao, cap, hsl⟩ := row_nil hv
  subst hsl
  obtain ⟨i0, hi, hz0, hz1, hz2⟩ := info_parts info_spark
  obtain ⟨W1, hW1⟩ : ∃ W, W = w.alloc (.cells (madeCells #[.int .i64 0, .int .i64 0, .int .i64 0, .int .i64 0, .int .i64 0] (l.length * 5)) 66) := ⟨_, rfl⟩
  have hmk : (Instr.makeSlice 25 (.int .i64 (l.length : Int)) (.int .i64 (l.length : Int))).run Tryd.prog w = .ok (.slice (some ⟨w.heap.size, 0, none⟩) l.length l.length) W1 := by
    have := run_make (P := Tryd.prog) w 25 66 i0 _ Tryd.underlying25 hi hz0 .i64 .i64 (l.length : Int) (l.length : Int) (by omega) (by omega) (by rw [hz2]; omega) (by omega)
    rw [this, hz1, hW1]
    simp [Value.cells]
  have hm := row_made w w.heap.size 66 #[.int .i64 0, .int .i64 0, .int .i64 0, .int .i64 0, .int .i64 0] 5 (by omega) sparkC spark0 sparkC_len rfl l.length (Nat.le_refl _) (by unfold maxLen; omega)
  rw [← hW1] at hm
  have K1 : Kept w W1 := by rw [hW1]; exact (But.refl _ _ _).alloc _
  have s1 : W1.heap.size = w.heap.size + 1 := by rw [hW1]; simp
  have ho : SparkO W1 w.heap.size (w.heap.size + 1) (.slice (some ⟨w.heap.size, 0, none⟩) l.length l.length) (List.replicate l.length spark0) := by
    simpa [SparkO] using hm
  obtain ⟨cur, hg, hcs, -⟩ := spark_block ho
  have hrun : ∃ W2, (∀ ty, (Builtin.copy_ #[25, 25] ty #[.slice (some ⟨w.heap.size, 0, none⟩) l.length l.length, .slice ao l.length cap]).run Tryd.prog W1 = .ok (goInt l.length) W2) ∧ SparkO W2 w.heap.size (w.heap.size + 1) (.slice (some ⟨w.heap.size, 0, none⟩) l.length l.length) l ∧ Kept w W2 ∧ W2.heap.size = w.heap.size + 1 := by
    by_cases h0 : 0 < l.length
    · obtain ⟨p, hp⟩ : ∃ p, l[0]? = some p := ⟨_, List.getElem?_eq_getElem h0⟩
      obtain ⟨b, o, cap', e, _⟩ := spark_get (hv.kept K1) hp
      cases e
      have hsrc : ∀ j v, (l.flatMap sparkC)[j]? = some v → W1.cell? ((⟨b, o, none⟩ : Addr).add j) = some v := fun j v hj => by
        obtain ⟨ao', cap2, e2, hc⟩ := hv.kept K1
        cases e2
        obtain ⟨b', o', e3, h3⟩ := hc j v hj
        cases e3
        rw [Go.WideShapes.add_plain]
        exact h3
      refine ⟨_, fun ty => (run_copy_big (P := Tryd.prog) W1 25 25 ty 66 5 w.heap.size 0 l.length l.length ⟨b, o, none⟩ l.length cap cur 66 (l.flatMap sparkC) Tryd.underlying25 size_spark hg (by rw [flat_len 5 sparkC sparkC_len, show Nat.min l.length l.length = l.length from Nat.min_self _]) hsrc (by rw [flat_len 5 sparkC sparkC_len, hcs]; omega) (ones l)).trans (by rw [show Nat.min l.length l.length = l.length from Nat.min_self _]), spark_laid ho hg rfl, ?_, by simpa using s1⟩
      exact But.onto K1 (setRow_but _ _ _) (Nat.le_refl _)
    · have hnil : l = [] := List.eq_nil_of_length_eq_zero (by omega)
      subst hnil
      refine ⟨W1, fun ty => ?_, ho, K1, s1⟩
      obtain ⟨i1, hi1, _, hz1', _⟩ := info_parts info_spark
      have hs : (Tryd.prog.info? 66).map (·.size) = some 5 := size_spark
      cases hq : Tryd.prog.info? 66 with
      | none => rw [hq] at hs; simp at hs
      | some i =>
        cases ao with
        | none => simp [Builtin.copy_, run_underlying Tryd.underlying25, Builtin.lenOf, Builtin.firstCells, sizeOf, typeInfo, hq, storeCells, goInt]
        | some a =>
          have hl := run_loadCells_list (P := Tryd.prog) W1 a [] (by simp)
          rw [List.length_nil] at hl
          simp [Builtin.copy_, run_underlying Tryd.underlying25, Builtin.lenOf, Builtin.firstCells, sizeOf, typeInfo, hq, hl, storeCells, goInt]
  obtain ⟨W2, hcp, hO, hK, hS⟩ := hrun
  have HO : Hid _ := hO
  have HOK : Hid (SparkO W2 w.heap.size (w.heap.size + 1) (.slice (some ⟨w.heap.size, 0, none⟩) l.length l.length) l) := hO
  have HK : Hid (Kept w W2) := hK
  clear hO hK hm ho hg hcs hi hz0 hz1 hz2 hW1 K1 s1 HO
  have HS : Hid (W2.heap.size = w.heap.size + 1) := hS
  clear hS hv
  go_enter Tryd.func28, Tryd.ntmps28
  repeat (first | go_values | go_skip | go_guarded | go_step | go_upon)
  go_ret
  exact ⟨rfl, HOK.out, HK.out, HS.out⟩
theorem iover (p : SparkD) (w : World) : Calls Tryd.prog 68 #[.agg #[.int .i64 p.1, .int .i64 p.2.1, .int .i64 p.2.2.1, .int .i64 p.2.2.2.1, .int .i64 p.2.2.2.2]] w fun e w' => e = .returned (.bool (overB p)) ∧ Kept w w' := by
  go_enter Tryd.func68, Tryd.ntmps68
  go_wp2
  go_ret
  exact ⟨rfl, (But.refl _ _ _).alloc _⟩
set_option maxHeartbeats 2000000 in
theorem isparkLater (p : SparkD) (fa : Int) (w : World) (h : SparkP p) (hf : -1000000 ≤ fa ∧ fa ≤ 1000000) : Calls Tryd.prog 66 #[.agg #[.int .i64 p.1, .int .i64 p.2.1, .int .i64 p.2.2.1, .int .i64 p.2.2.2.1, .int .i64 p.2.2.2.2], .int .i64 fa] w fun e w' => e = .returned (.agg #[.int .i64 (laterS fa p).1, .int .i64 (laterS fa p).2.1, .int .i64 (laterS fa p).2.2.1, .int .i64 (laterS fa p).2.2.2.1, .int .i64 (laterS fa p).2.2.2.2]) ∧ Kept w w' := by
  have hg := good_later h hf
  have h1 := hg.1.1
  have h2 := hg.1.2
  have h3 := hg.2.1.1
  have h4 := hg.2.1.2
  have h5 := hg.2.2.1.1
  have h6 := hg.2.2.1.2
  have h7 := hg.2.2.2.1
  have h8 := hg.2.2.2.2
  clear hg h hf
  go_enter Tryd.func66, Tryd.ntmps66
  go_wp2
  refine bodyPost_ret (v := .agg #[.int .i64 (laterS fa p).1, .int .i64 (laterS fa p).2.1, .int .i64 (laterS fa p).2.2.1, .int .i64 (laterS fa p).2.2.2.1, .int .i64 (laterS fa p).2.2.2.2]) (by simp [results, Tryd.results66, go_sem, laterS]) rfl ?_
  exact ⟨rfl, by repeat (first | with_reducible exact But.refl _ _ _ | with_reducible apply But.drewN | with_reducible apply But.drew | with_reducible apply But.alloc | (with_reducible refine But.setNew ?_ (by simp) _))⟩

end Go.Proofs.YtpeiblodefaajaaDoor
