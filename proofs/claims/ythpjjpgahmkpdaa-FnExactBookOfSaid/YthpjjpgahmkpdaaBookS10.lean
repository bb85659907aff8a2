/-
  The book of a line, as the specification says it.
-/
import Derived.Test.YthpjjpgahmkpdaaBookM10
import Derived.Test.YthpjjpgahmkpdaaFrac10
import Derived.Test.YthpjjpgahmkpdaaLine10
namespace Go.Proofs.Ythpjjpgahmkpdaa
open Go.ChangeShapes Go.WideShapes Go.ChangeAt Go.RowKit

set_option maxRecDepth 100000
set_option linter.unusedVariables false
set_option linter.unusedSimpArgs false

theorem two_dvd {m : Nat} (h1 : 1 ≤ m) (h2 : m ≤ 12) : 2 * m ∣ 55440 := by
  have : m = 1 ∨ m = 2 ∨ m = 3 ∨ m = 4 ∨ m = 5 ∨ m = 6 ∨ m = 7 ∨ m = 8 ∨ m = 9 ∨ m = 10 ∨ m = 11 ∨ m = 12 := by omega
  rcases this with rfl | rfl | rfl | rfl | rfl | rfl | rfl | rfl | rfl | rfl | rfl | rfl <;> decide
def GcdC (a b g : Int) : Prop := ∀ W : World, Calls Try.prog 72 #[.int .i64 a, .int .i64 b] W fun e w' => e = .returned (.int .i64 g) ∧ Kept W w'
theorem gcdC (a b : Nat) (ha : a ≤ 1000000000000000000) (hb : b ≤ 1000000000000000000) : GcdC (a : Int) (b : Int) (Nat.gcd a b : Int) := fun W => by
  have := sgcd (a : Int) b W (by omega) hb
  simpa [Int.gcd] using this
theorem stepI (parts N D : Nat) (p m : Int) (h : Inv parts N D) (hp : -1000000 ≤ p ∧ p ≤ 1000000) (hm : 1 ≤ m ∧ m ≤ 12) (hs : parts + (if m = 0 then 0 else p.natAbs * p.natAbs * (55440 / (2 * m.toNat))) ≤ 554400000000000000) :
    ∃ g1 e1 d1 g2 k1 k2 n1 D1 g3 N2 D2 : Int, (0 ≤ p * p ∧ p * p ≤ 1000000000000) ∧ GcdC (p * p) (2 * m) g1 ∧ 0 < g1 ∧ (p * p) / g1 = e1 ∧ (2 * m) / g1 = d1 ∧ GcdC (D : Int) d1 g2 ∧ 0 < g2 ∧ d1 / g2 = k1 ∧ (D : Int) / g2 = k2 ∧ (0 ≤ (N : Int) * k1 ∧ (N : Int) * k1 ≤ n1) ∧ (0 ≤ e1 * k2 ∧ e1 * k2 ≤ n1) ∧ ((N : Int) * k1 + e1 * k2 = n1 ∧ n1 ≤ 554400000000000000 ∧ k2 * d1 = D1) ∧ GcdC n1 D1 g3 ∧ 0 < g3 ∧ n1 / g3 = N2 ∧ D1 / g3 = D2 ∧ 0 ≤ e1 ∧ 0 ≤ d1 ∧ ((0 ≤ k1 ∧ k1 ≤ 24) ∧ (0 ≤ k2 ∧ k2 ≤ 55440)) ∧ 0 ≤ n1 ∧ (0 ≤ D1 ∧ D1 ≤ 55440) ∧ (e1 ≤ 1000000000000 ∧ d1 ≤ 24) ∧ ∃ N' D' : Nat, N2 = (N' : Int) ∧ D2 = (D' : Int) ∧ Inv (parts + p.natAbs * p.natAbs * (55440 / (2 * m.toNat))) N' D' := by
  rw [if_neg (by omega)] at hs
  have hd := two_dvd (m := m.toNat) (by omega) (by omega)
  obtain ⟨g1, e1, d1, g2, k1, k2, n1, D1, g3, N2, D2, h1, h2, h3, h4, h5, h6, h7, h8, h9, h10, h11, h12, h13, h14, h15, h16, h17, h18, h19⟩ := h.step (e := p.natAbs * p.natAbs) hd
  have hpn : p.natAbs ≤ 1000000 := by omega
  have hpp : p.natAbs * p.natAbs ≤ 1000000 * 1000000 := Nat.mul_le_mul hpn hpn
  have epp : p * p = ((p.natAbs * p.natAbs : Nat) : Int) := by rw [Int.natCast_mul]; exact (Int.natAbs_mul_self' p).symm
  have em : 2 * m = ((2 * m.toNat : Nat) : Int) := by omega
  have hND := h.le
  generalize p.natAbs * p.natAbs = E at *
  generalize hdd : 2 * m.toNat = d at *
  have b1 : N * k1 ≤ n1 := by omega
  have b3 : k2 ≤ D := by rw [← h8]; exact Nat.div_le_self _ _
  have b4 : k1 ≤ d1 := by rw [← h7]; exact Nat.div_le_self _ _
  have b2 : e1 * k2 ≤ n1 := by omega
  refine ⟨g1, e1, d1, g2, k1, k2, n1, D1, g3, N2, D2, by omega, ?_, by omega, ?_, ?_, ?_, by omega, ?_, ?_, ⟨?_, ?_⟩, ⟨?_, ?_⟩, ⟨?_, by omega, ?_⟩, ?_, by omega, ?_, ?_, by omega, by omega, by omega, by omega, by omega, by omega, N2, D2, rfl, rfl, h19⟩
  · rw [epp, em, ← h1]; exact gcdC _ _ (by omega) (by omega)
  · rw [epp, ← h3]; simp
  · rw [em, ← h4]; simp
  · rw [← h5]; exact gcdC _ _ (by omega) (by omega)
  · rw [← h7]; simp
  · rw [← h8]; simp
  · exact Int.mul_nonneg (by omega) (by omega)
  · rw [← Int.natCast_mul]; omega
  · exact Int.mul_nonneg (by omega) (by omega)
  · rw [← Int.natCast_mul]; omega
  · rw [← h9]; simp
  · rw [← h10]; simp
  · rw [← h11]; exact gcdC _ _ (by omega) (by omega)
  · rw [← h13]; simp
  · rw [← h14]; simp

set_option maxHeartbeats 8000000 in
theorem sbook (ps : List BodyD) (v : Value) (w : World) (hv : BodyAt w v ps) (hn : ps.length ≤ 1048576) :
    Calls Try.prog 26 #[v] w fun e w' => e = .returned (.tuple #[.agg (bookC (bookA ps).1).toArray, .bool (bookA ps).2]) ∧ Kept w w' := by
  obtain ⟨ao, cap, hsl⟩ := row_nil hv
  subst hsl
  by_cases h : LineP ps
  · have dl : decide (LineP ps) = true := decide_eq_true h
    rw [show bookA ps = (bookD ps, true) from if_pos h]
    go_enter Try.func26, Try.ntmps26
    repeat (first | (go_at_call 22; refine (sgoodline ps _ _ (hv.kept ((But.refl _ _ w).alloc _)) hn).mono ?_; rw [dl]; rintro e w1 ⟨rfl, k1⟩; have hck1 := Kept.cell_eq k1; have hfk1 := Kept.frozen_eq k1; have hz1 := k1.size; (try simp at hz1); have Kk1 : Kept w w1 := (But.trans (by (repeat (first | with_reducible exact But.refl _ _ _ | with_reducible apply But.drewN | with_reducible apply But.drew | with_reducible apply But.alloc | (with_reducible refine But.setNew ?_ (by simp +arith) _)))) k1); have rc0 : w1.cell? ⟨w.heap.size, 0, none⟩ = some (.int .i64 0) := (by rw [hck1 _ _ (by simp +arith)]; simp [go_sem]); have rf0 : w1.frozen? ⟨w.heap.size, 0, none⟩ = false := (by rw [hfk1 _ _ (by simp +arith)]; simp [go_sem]); have rc1 : w1.cell? ⟨w.heap.size, 1, none⟩ = some (.int .i64 0) := (by rw [hck1 _ _ (by simp +arith)]; simp [go_sem]); have rf1 : w1.frozen? ⟨w.heap.size, 1, none⟩ = false := (by rw [hfk1 _ _ (by simp +arith)]; simp [go_sem]); have rc2 : w1.cell? ⟨w.heap.size, 2, none⟩ = some (.int .i64 0) := (by rw [hck1 _ _ (by simp +arith)]; simp [go_sem]); have rf2 : w1.frozen? ⟨w.heap.size, 2, none⟩ = false := (by rw [hfk1 _ _ (by simp +arith)]; simp [go_sem]); have nk1 : w.heap.size < w1.heap.size := (by omega); clear k1; dsimp only) | go_values | go_skip | go_guarded | go_step | go_upon)
    have hv1 : BodyAt w1 (.slice ao ps.length cap) ps := hv.kept Kk1
    clear hck1 hfk1 dl
    have HKk : Hid (Kept w w1) := Kk1
    clear Kk1 hv
    have HL : Hid (LineP ps) := h
    have hl20 := h.1
    clear h
    go_loopw [17] (fun i wr => ∃ (j : Nat) (N D : Nat), j ≤ ps.length ∧ i = .int .i64 j ∧ Inv (partS (ps.take j)) N D ∧ Loc wr w1.heap.size [.int .i64 (pushS (ps.take j)), .int .i64 (N : Int), .int .i64 (D : Int)] ∧ Kept w1 wr) (fun i _ => ps.length - (intOf i).toNat)
    case atStart => exact ⟨0, 0, 1, by omega, rfl, Inv.zero, by simpa [pushS] using Loc.new w1 [.int .i64 0, .int .i64 0, .int .i64 1] 29, (But.refl _ _ _).alloc _⟩
    case round =>
      obtain ⟨j, N, D, hj, rfl, hinv, hloc, hkp⟩ := hrel
      have HI : Hid (Inv (partS (ps.take j)) N D) := hinv
      have HK : Hid (Kept w1 wr) := hkp
      obtain ⟨hs1, hs2, hs3⟩ := sums_take HL.out j
      have HS1 : Hid (partS (ps.take j) ≤ 554400000000000000) := hs1
      obtain ⟨hN, hD⟩ := hinv.le
      have hNN : N ≤ 554400000000000000 := by omega
      have hD0 := hinv.pos
      clear hinv hN hs1
      obtain ⟨Pu, hPu⟩ : ∃ z, pushS (ps.take j) = z := ⟨_, rfl⟩
      rw [hPu] at hloc hs2 hs3
      have HPu : Hid (pushS (ps.take j) = Pu) := hPu
      have HLoc : Hid (Loc wr w1.heap.size [.int .i64 Pu, .int .i64 (N : Int), .int .i64 (D : Int)]) := hloc
      have a0 := hloc.cell 0 rfl; have a1 := hloc.cell 1 rfl; have a2 := hloc.cell 2 rfl; have f0 := hloc.frozen 0; have f1 := hloc.frozen 1; have f2 := hloc.frozen 2; have hB := hloc.lt
      clear hPu hloc
      by_cases hlt : j < ps.length
      · obtain ⟨b, hp⟩ : ∃ b, ps[j]? = some b := ⟨_, List.getElem?_eq_getElem hlt⟩
        obtain ⟨bb, o, cap', e, b0, b1, b2, b3⟩ := body_get (hv1.kept hkp) hp
        cases e
        have HT : Hid (ps.take (j + 1) = ps.take j ++ [b]) := take_snoc hp
        have HBP : Hid (BodyP b) := HL.out.body hp
        obtain ⟨⟨x1, x2⟩, ⟨p1, p2⟩, ⟨m1, m2⟩, hm0, _⟩ := HL.out.body hp
        obtain ⟨ss1, ss2, ss3⟩ := sums_take HL.out (j + 1)
        rw [HT.out, pushS_snoc, HPu.out] at ss2 ss3
        rw [HT.out, partS_snoc] at ss1
        have HSS : Hid (partS (ps.take j) + partOf b ≤ 554400000000000000) := ss1
        obtain ⟨x, p, m, r⟩ := b
        dsimp only at b0 b1 b2 b3 x1 x2 p1 p2 m1 m2 hm0 ss2 ss3
        clear hkp hp ss1
        have e0 : IntKind.i64.wrap (Pu + p) = Pu + p := IntWalk.i64_in _ (by omega)
        by_cases hm : m = 0
        · subst hm
          repeat (first | go_values | go_skip | go_guarded | go_step | go_upon)
          refine ⟨⟨j + 1, N, D, hlt, by go_num, ?_, ?_, ?_⟩, by simp [intOf]; omega⟩
          · rw [HT.out, partS_snoc]; simpa [partOf] using HI.out
          · rw [HT.out, pushS_snoc, HPu.out]
            exact (HLoc.out.set 0 _).alloc _
          · exact (HK.out.setNew (Nat.le_refl _) _).alloc _
        · have c0 : (m == 0) = false := by simpa using hm
          obtain ⟨g1, e1, d1, g2, k1, k2, n1, D1, g3, N2, D2, F⟩ := stepI (partS (ps.take j)) N D p m HI.out ⟨p1, p2⟩ ⟨by omega, m2⟩ HSS.out
          obtain ⟨hpp, hG1, g10, q1, q2, hG2, g20, q3, q4, v1, v2, ⟨v3, v4, v5⟩, hG3, g30, q5, q6, z1, z2, z3, z4, z5, z6, hfin⟩ := F
          have HG1 : Hid _ := hG1
          have HG2 : Hid _ := hG2
          have HG3 : Hid _ := hG3
          have HF : Hid _ := hfin
          clear hG1 hG2 hG3 hfin
          repeat (first | go_values | go_skip | go_guarded | go_step | go_upon)
          go_at_call 72
          refine (HG1.out _).mono ?_
          rintro e u1 ⟨rfl, kk1⟩
          have HLoc1 : Hid (Loc u1 w1.heap.size [.int .i64 (Pu + p), .int .i64 (N : Int), .int .i64 (D : Int)]) := (show Loc _ w1.heap.size [.int .i64 (Pu + p), .int .i64 (N : Int), .int .i64 (D : Int)] from (HLoc.out.set 0 _).alloc _).kept kk1
          have HK1 : Hid (Kept w1 u1) := (show Kept w1 _ from (HK.out.setNew (Nat.le_refl _) _).alloc _).trans kk1
          have a0 := HLoc1.out.cell 0 rfl; have a1 := HLoc1.out.cell 1 rfl; have a2 := HLoc1.out.cell 2 rfl; have f0 := HLoc1.out.frozen 0; have f1 := HLoc1.out.frozen 1; have f2 := HLoc1.out.frozen 2; have hB := HLoc1.out.lt
          clear kk1
          dsimp only
          repeat (first | go_values | go_skip | go_guarded | go_step | go_upon)
          go_at_call 72
          refine (HG2.out _).mono ?_
          rintro e u2 ⟨rfl, kk2⟩
          have HLoc2 : Hid (Loc u2 w1.heap.size [.int .i64 (Pu + p), .int .i64 (N : Int), .int .i64 (D : Int)]) := (show Loc _ w1.heap.size [.int .i64 (Pu + p), .int .i64 (N : Int), .int .i64 (D : Int)] from HLoc1.out).kept kk2
          have HK2 : Hid (Kept w1 u2) := (show Kept w1 _ from HK1.out).trans kk2
          have a0 := HLoc2.out.cell 0 rfl; have a1 := HLoc2.out.cell 1 rfl; have a2 := HLoc2.out.cell 2 rfl; have f0 := HLoc2.out.frozen 0; have f1 := HLoc2.out.frozen 1; have f2 := HLoc2.out.frozen 2; have hB := HLoc2.out.lt
          clear kk2
          dsimp only
          repeat (first | go_values | go_skip | go_guarded | go_step | go_upon)
          have i1 : (g2 == 0) = false := by simp; omega
          have i6 : IntKind.i64.wrap k2 = k2 := IntWalk.i64_in _ (by omega)
          have i7 : IntKind.i64.wrap k1 = k1 := IntWalk.i64_in _ (by omega)
          have i2 : IntKind.i64.wrap ((N : Int) * k1) = (N : Int) * k1 := IntWalk.i64_in _ (by omega)
          have i3 : IntKind.i64.wrap (e1 * k2) = e1 * k2 := IntWalk.i64_in _ (by omega)
          have i4 : IntKind.i64.wrap ((N : Int) * k1 + e1 * k2) = (N : Int) * k1 + e1 * k2 := IntWalk.i64_in _ (by omega)
          have i5 : IntKind.i64.wrap (k2 * d1) = k2 * d1 := IntWalk.i64_in _ (by omega)
          refine wp_region_gsp 14 1 (by kernel_rfl) (by kernel_rfl) (by kernel_rfl) (by decide) ?_
          simp only [List.take_succ_cons, List.take_zero, List.drop_succ_cons, List.drop_zero]
          have hcc := GW.cell_eq u2
          repeat (go_big_quiet_step (fail))
          refine wpQuiet_nil ?_
          rintro y2 ⟨⟨w6, k5⟩, h5⟩
          change y2 = w6 at h5
          subst h5
          have HLy2 : Hid (Loc y2 w1.heap.size [.int .i64 (Pu + p), .int .i64 (N : Int), .int .i64 (D : Int)]) := HLoc2.out.kept k5.kept
          have HKy2 : Hid (Kept w1 y2) := HK2.out.trans k5.kept
          have a0 := HLy2.out.cell 0 rfl; have a1 := HLy2.out.cell 1 rfl; have a2 := HLy2.out.cell 2 rfl; have f0 := HLy2.out.frozen 0; have f1 := HLy2.out.frozen 1; have f2 := HLy2.out.frozen 2; have hB := HLy2.out.lt
          clear hcc k5
          repeat (first | go_values | go_skip | go_guarded | go_step | go_upon)
          go_at_call 72
          refine (HG3.out _).mono ?_
          rintro e u3 ⟨rfl, kk3⟩
          have HLoc3 : Hid (Loc u3 w1.heap.size [.int .i64 (Pu + p), .int .i64 n1, .int .i64 D1]) := (show Loc _ w1.heap.size [.int .i64 (Pu + p), .int .i64 n1, .int .i64 D1] from (HLy2.out.set 1 _).set 2 _).kept kk3
          have HK3 : Hid (Kept w1 u3) := (show Kept w1 _ from (HKy2.out.setNew (Nat.le_refl _) _).setNew (Nat.le_refl _) _).trans kk3
          have a0 := HLoc3.out.cell 0 rfl; have a1 := HLoc3.out.cell 1 rfl; have a2 := HLoc3.out.cell 2 rfl; have f0 := HLoc3.out.frozen 0; have f1 := HLoc3.out.frozen 1; have f2 := HLoc3.out.frozen 2; have hB := HLoc3.out.lt
          clear kk3
          dsimp only
          repeat (first | go_values | go_skip | go_guarded | go_step | go_upon)
          obtain ⟨N', D', hN', hD', hI'⟩ := HF.out
          refine ⟨⟨j + 1, N', D', hlt, by go_num, ?_, ?_, (HK3.out.setNew (Nat.le_refl _) _).setNew (Nat.le_refl _) _⟩, by simp [intOf]; omega⟩
          · rw [HT.out, partS_snoc, partOf, if_neg hm]; exact hI'
          · rw [HT.out, pushS_snoc, HPu.out, ← hN', ← hD']
            exact (HLoc3.out.set 1 _).set 2 _
      · have hje : j = ps.length := by omega
        subst hje
        rw [List.take_length] at HPu HI
        have rc0 := Kept.cell HK.out rc0
        have rc1 := Kept.cell HK.out rc1
        have rc2 := Kept.cell HK.out rc2
        have rf0 := (Kept.frozen_eq HK.out _ 0 nk1).trans rf0
        have rf1 := (Kept.frozen_eq HK.out _ 1 nk1).trans rf1
        have rf2 := (Kept.frozen_eq HK.out _ 2 nk1).trans rf2
        obtain ⟨i1, i2⟩ := HI.out.fin
        repeat (first | go_values | go_skip | go_guarded | go_step | go_upon)
        refine bodyPost_ret (v := .tuple #[.agg #[.int .i64 Pu, .int .i64 (N : Int), .int .i64 (D : Int)], .bool true]) (by simp [results, Try.results26, go_sem, *]) rfl ?_
        refine ⟨by rw [bookD, HPu.out, i1, i2]; rfl, ?_⟩
        (repeat (first | with_reducible exact (HKk.out.trans HK.out) | with_reducible apply But.drewN | with_reducible apply But.drew | with_reducible apply But.alloc | (with_reducible refine But.setNew ?_ (by simp) _)))
  · have dl : decide (LineP ps) = false := decide_eq_false h
    rw [show bookA ps = ((0, 0, 0), false) from if_neg h]
    go_enter Try.func26, Try.ntmps26
    repeat (first | (go_at_call 22; refine (sgoodline ps _ _ (hv.kept ((But.refl _ _ w).alloc _)) hn).mono ?_; rw [dl]; rintro e w1 ⟨rfl, k1⟩; have hck1 := Kept.cell_eq k1; have hfk1 := Kept.frozen_eq k1; have hz1 := k1.size; (try simp at hz1); have Kk1 : Kept w w1 := (But.trans (by (repeat (first | with_reducible exact But.refl _ _ _ | with_reducible apply But.drewN | with_reducible apply But.drew | with_reducible apply But.alloc | (with_reducible refine But.setNew ?_ (by simp +arith) _)))) k1); have rc0 : w1.cell? ⟨w.heap.size, 0, none⟩ = some (.int .i64 0) := (by rw [hck1 _ _ (by simp +arith)]; simp [go_sem]); have rf0 : w1.frozen? ⟨w.heap.size, 0, none⟩ = false := (by rw [hfk1 _ _ (by simp +arith)]; simp [go_sem]); have rc1 : w1.cell? ⟨w.heap.size, 1, none⟩ = some (.int .i64 0) := (by rw [hck1 _ _ (by simp +arith)]; simp [go_sem]); have rf1 : w1.frozen? ⟨w.heap.size, 1, none⟩ = false := (by rw [hfk1 _ _ (by simp +arith)]; simp [go_sem]); have rc2 : w1.cell? ⟨w.heap.size, 2, none⟩ = some (.int .i64 0) := (by rw [hck1 _ _ (by simp +arith)]; simp [go_sem]); have rf2 : w1.frozen? ⟨w.heap.size, 2, none⟩ = false := (by rw [hfk1 _ _ (by simp +arith)]; simp [go_sem]); have nk1 : w.heap.size < w1.heap.size := (by omega); clear k1; dsimp only) | go_values | go_skip | go_guarded | go_step | go_upon)
    try go_region
    all_goals
      repeat (first | go_values | go_skip | go_guarded | go_step | go_upon)
      refine bodyPost_ret (v := .tuple #[.agg #[.int .i64 0, .int .i64 0, .int .i64 0], .bool false]) (by simp [results, Try.results26, go_sem, *]) rfl ?_
      exact ⟨rfl, by (repeat (first | with_reducible exact Kk1 | with_reducible apply But.drewN | with_reducible apply But.drew | with_reducible apply But.alloc | (with_reducible refine But.setNew ?_ (by simp +arith) _)))⟩

end Go.Proofs.Ythpjjpgahmkpdaa
