/-
  The book of a line, as the program says it.
-/
import Derived.Test.YthpjjpgahmkpdaaBookE10
import Derived.Test.YthpjjpgahmkpdaaGoodI10
import Derived.Test.YthpjjpgahmkpdaaFrac10
namespace Go.Proofs.Ythpjjpgahmkpdaa
open Go.ChangeShapes Go.WideShapes Go.ChangeAt Go.RowKit

set_option maxRecDepth 100000
set_option linter.unusedVariables false
set_option linter.unusedSimpArgs false

set_option maxHeartbeats 8000000 in
theorem ibook (ps : List BodyD) (v : Value) (w : World) (hv : BodyAt w v ps) (hn : ps.length ≤ 1048576) :
    Calls Try.prog 15 #[v] w fun e w' => e = .returned (.tuple #[.agg (bookC (bookA ps).1).toArray, .bool (bookA ps).2]) ∧ Kept w w' := by
  obtain ⟨ao, cap, hsl⟩ := row_nil hv
  subst hsl
  by_cases h : LineP ps
  · rw [show bookA ps = (bookD ps, true) from if_pos h]
    go_enter Try.func15, Try.ntmps15
    repeat (first | (go_at_call 55; refine (lineOf ps _ _ (hv.kept ((But.refl _ _ w).alloc _)) hn).mono ?_; rintro e w1 hL; have hck1 := Kept.cell_eq hL.2; have hfk1 := Kept.frozen_eq hL.2; have hz1 := hL.2.size; (try simp at hz1); have Kk1 : Kept w w1 := (But.trans (by (repeat (first | with_reducible exact But.refl _ _ _ | with_reducible apply But.drewN | with_reducible apply But.drew | with_reducible apply But.alloc | (with_reducible refine But.setNew ?_ (by simp +arith) _)))) hL.2); have rc0 : w1.cell? ⟨w.heap.size, 0, none⟩ = some (.int .i64 0) := (by rw [hck1 _ _ (by simp +arith)]; simp [go_sem]); have rf0 : w1.frozen? ⟨w.heap.size, 0, none⟩ = false := (by rw [hfk1 _ _ (by simp +arith)]; simp [go_sem]); have rc1 : w1.cell? ⟨w.heap.size, 1, none⟩ = some (.int .i64 0) := (by rw [hck1 _ _ (by simp +arith)]; simp [go_sem]); have rf1 : w1.frozen? ⟨w.heap.size, 1, none⟩ = false := (by rw [hfk1 _ _ (by simp +arith)]; simp [go_sem]); have rc2 : w1.cell? ⟨w.heap.size, 2, none⟩ = some (.int .i64 0) := (by rw [hck1 _ _ (by simp +arith)]; simp [go_sem]); have rf2 : w1.frozen? ⟨w.heap.size, 2, none⟩ = false := (by rw [hfk1 _ _ (by simp +arith)]; simp [go_sem]); have nk1 : w.heap.size < w1.heap.size := (by omega); obtain ⟨⟨v1, rfl, o1⟩, -⟩ := line_yes h hL; have hv1 := o1.at; obtain ⟨ao1, cap1, hfm⟩ := o1.form; subst hfm; clear o1; clear hL; dsimp only) | go_values | go_skip | go_guarded | go_step | go_upon)
    have HKk : Hid (Kept w w1) := Kk1
    have HL : Hid (LineP ps) := h
    have hl20 := h.1
    clear hck1 hfk1 Kk1 hv h
    go_loopw [6, 7, 21] (fun vp ve i wr => ∃ (j : Nat), j ≤ ps.length ∧ i = .int .i64 j ∧ vp = .int .i64 (pushS (ps.take j)) ∧ ve = .int .i64 (partS (ps.take j) : Int) ∧ Kept w1 wr) (fun vp ve i _ => ps.length - (intOf i).toNat)
    case atStart => exact ⟨0, by omega, rfl, by simp [pushS], by simp [partS], But.refl _ _ _⟩
    case round =>
      obtain ⟨j, hj, rfl, rfl, rfl, hkp⟩ := hrel
      have HK : Hid (Kept w1 wr) := hkp
      obtain ⟨hs1, hs2, hs3⟩ := sums_take HL.out j
      obtain ⟨Pu, hPu⟩ : ∃ z, pushS (ps.take j) = z := ⟨_, rfl⟩
      obtain ⟨Pa, hPa⟩ : ∃ z, partS (ps.take j) = z := ⟨_, rfl⟩
      rw [hPu] at hs2 hs3
      rw [hPa] at hs1
      have HPu : Hid (pushS (ps.take j) = Pu) := hPu
      have HPa : Hid (partS (ps.take j) = Pa) := hPa
      rw [hPu, hPa]
      clear hPu hPa
      by_cases hlt : j < ps.length
      · obtain ⟨b, hp⟩ : ∃ b, ps[j]? = some b := ⟨_, List.getElem?_eq_getElem hlt⟩
        obtain ⟨bb, o, cap', e, b0, b1, b2, b3⟩ := solid_get (hv1.kept hkp) hp
        cases e
        have HT : Hid (ps.take (j + 1) = ps.take j ++ [b]) := take_snoc hp
        obtain ⟨⟨x1, x2⟩, hp1, hm1, hm0, _⟩ := HL.out.body hp
        obtain ⟨ss1, ss2, ss3⟩ := sums_take HL.out (j + 1)
        rw [HT.out, pushS_snoc, HPu.out] at ss2 ss3
        rw [HT.out, partS_snoc, HPa.out] at ss1
        obtain ⟨x, p, m, r⟩ := b
        dsimp only at b0 b1 b2 b3 x1 x2 hp1 hm1 hm0 ss2 ss3
        clear hkp hp
        obtain ⟨Q, hQ⟩ : ∃ z, partOf (x, p, m, r) = z := ⟨_, rfl⟩
        rw [hQ] at ss1
        have hen := fun W => ienergy x p m W hp1 hm1
        rw [show partOf (x, p, m, 0) = Q from hQ] at hen
        have HEn : Hid _ := hen
        have HQ : Hid (partOf (x, p, m, r) = Q) := hQ
        clear hen hQ
        have e0 : IntKind.i64.wrap (Pu + p) = Pu + p := IntWalk.i64_in _ (by omega)
        have e1 : IntKind.i64.wrap ((Pa : Int) + (Q : Int)) = (Pa : Int) + (Q : Int) := IntWalk.i64_in _ (by omega)
        repeat (first | (go_at_call 60; refine (HEn.out _).mono ?_; rintro e u1 ⟨rfl, k1⟩; have HK1 : Hid (Kept w1 u1) := (But.trans (by (repeat (first | with_reducible exact HK.out | with_reducible apply But.drewN | with_reducible apply But.drew | with_reducible apply But.alloc | (with_reducible refine But.setNew ?_ (by simp +arith) _)))) k1); clear k1; dsimp only) | go_values | go_skip | go_guarded | go_step | go_upon)
        refine ⟨⟨j + 1, hlt, by go_num, ?_, ?_, HK1.out⟩, by simp [intOf]; omega⟩
        · rw [HT.out, pushS_snoc, HPu.out]
        · rw [HT.out, partS_snoc, HPa.out, HQ.out, Int.natCast_add]
      · have hje : j = ps.length := by omega
        subst hje
        rw [List.take_length] at HPu HPa
        have hlt1 : red ((Pa : Int), (55440 : Int)) = (((Pa / Nat.gcd Pa 55440 : Nat) : Int), ((55440 / Nat.gcd Pa 55440 : Nat) : Int)) := by simp [red, Int.gcd]
        have hle := fun W => leastT Pa 55440 W (by omega) (by decide) (by decide)
        rw [show ((55440 : Nat) : Int) = 55440 from rfl, hlt1] at hle
        have hb1 : bookD ps = (Pu, ((Pa / Nat.gcd Pa 55440 : Nat) : Int), ((55440 / Nat.gcd Pa 55440 : Nat) : Int)) := by rw [bookD, HPu.out, HPa.out]
        obtain ⟨z1, hz1⟩ : ∃ z, ((Pa / Nat.gcd Pa 55440 : Nat) : Int) = z := ⟨_, rfl⟩
        obtain ⟨z2, hz2⟩ : ∃ z, ((55440 / Nat.gcd Pa 55440 : Nat) : Int) = z := ⟨_, rfl⟩
        rw [hz1, hz2] at hle hb1
        have HLe : Hid _ := hle
        have HB1 : Hid (bookD ps = (Pu, z1, z2)) := hb1
        clear hle hz1 hz2 hb1 hlt1
        repeat (first | (go_at_call 61; refine (HLe.out _).mono ?_; rintro e u1 ⟨rfl, k1⟩; have HK1 : Hid (Kept w1 u1) := (But.trans (by (repeat (first | with_reducible exact HK.out | with_reducible apply But.drewN | with_reducible apply But.drew | with_reducible apply But.alloc | (with_reducible refine But.setNew ?_ (by simp +arith) _)))) k1); have rc0 := Kept.cell HK1.out rc0; have rc1 := Kept.cell HK1.out rc1; have rc2 := Kept.cell HK1.out rc2; have rf0 := (Kept.frozen_eq HK1.out _ 0 nk1).trans rf0; have rf1 := (Kept.frozen_eq HK1.out _ 1 nk1).trans rf1; have rf2 := (Kept.frozen_eq HK1.out _ 2 nk1).trans rf2; have nk2 := cell_lt rc0; clear k1; dsimp only) | go_values | go_skip | go_guarded | go_step | go_upon)
        try go_region
        all_goals
          repeat (first | go_values | go_skip | go_guarded | go_step | go_upon)
          refine bodyPost_ret (v := .tuple #[.agg #[.int .i64 Pu, .int .i64 z1, .int .i64 z2], .bool true]) (by simp [results, Try.results15, go_sem, *]) rfl ?_
          refine ⟨by rw [HB1.out]; rfl, ?_⟩
          (repeat (first | with_reducible exact (HKk.out.trans HK1.out) | with_reducible apply But.drewN | with_reducible apply But.drew | with_reducible apply But.alloc | (with_reducible refine But.setNew ?_ (by simp) _)))
  · rw [show bookA ps = ((0, 0, 0), false) from if_neg h]
    go_enter Try.func15, Try.ntmps15
    repeat (first | (go_at_call 55; refine (lineOf ps _ _ (hv.kept ((But.refl _ _ w).alloc _)) hn).mono ?_; rintro e w1 hL; have hck1 := Kept.cell_eq hL.2; have hfk1 := Kept.frozen_eq hL.2; have hz1 := hL.2.size; (try simp at hz1); have Kk1 : Kept w w1 := (But.trans (by (repeat (first | with_reducible exact But.refl _ _ _ | with_reducible apply But.drewN | with_reducible apply But.drew | with_reducible apply But.alloc | (with_reducible refine But.setNew ?_ (by simp +arith) _)))) hL.2); have rc0 : w1.cell? ⟨w.heap.size, 0, none⟩ = some (.int .i64 0) := (by rw [hck1 _ _ (by simp +arith)]; simp [go_sem]); have rf0 : w1.frozen? ⟨w.heap.size, 0, none⟩ = false := (by rw [hfk1 _ _ (by simp +arith)]; simp [go_sem]); have rc1 : w1.cell? ⟨w.heap.size, 1, none⟩ = some (.int .i64 0) := (by rw [hck1 _ _ (by simp +arith)]; simp [go_sem]); have rf1 : w1.frozen? ⟨w.heap.size, 1, none⟩ = false := (by rw [hfk1 _ _ (by simp +arith)]; simp [go_sem]); have rc2 : w1.cell? ⟨w.heap.size, 2, none⟩ = some (.int .i64 0) := (by rw [hck1 _ _ (by simp +arith)]; simp [go_sem]); have rf2 : w1.frozen? ⟨w.heap.size, 2, none⟩ = false := (by rw [hfk1 _ _ (by simp +arith)]; simp [go_sem]); have nk1 : w.heap.size < w1.heap.size := (by omega); obtain ⟨rfl, -⟩ := line_no h hL; clear hL; dsimp only) | go_values | go_skip | go_guarded | go_step | go_upon)
    try go_region
    all_goals
      repeat (first | go_values | go_skip | go_guarded | go_step | go_upon)
      refine bodyPost_ret (v := .tuple #[.agg #[.int .i64 0, .int .i64 0, .int .i64 0], .bool false]) (by simp [results, Try.results15, go_sem, *]) rfl ?_
      exact ⟨rfl, by (repeat (first | with_reducible exact Kk1 | with_reducible apply But.drewN | with_reducible apply But.drew | with_reducible apply But.alloc | (with_reducible refine But.setNew ?_ (by simp +arith) _)))⟩

end Go.Proofs.Ythpjjpgahmkpdaa
