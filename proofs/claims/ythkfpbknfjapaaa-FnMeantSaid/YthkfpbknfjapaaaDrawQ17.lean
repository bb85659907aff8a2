/-
  Presses that are drawn.
-/
import Derived.Test.YthkfpbknfjapaaaDrawP17
import Derived.Deep.CutBlock
import Derived.Deep.CutRange
import Derived.Deep.DeepCutAuto
namespace Go.Proofs.Ythkfpbknfjapaaa
open Go.ChangeShapes Go.WideShapes Go.ChangeAt Go.RowKit

set_option maxRecDepth 100000
set_option linter.unusedVariables false

theorem hide {p : Prop} (h : p) : Hid p := h
set_option maxHeartbeats 16000000 in
theorem presses_ok (w : World) (b : Nat) (K : Int) (h : CurOk w b K) (hK : K ≤ 1152921504606830000) :
    Calls Try.prog 46 #[.pointer (some ⟨b, 0, none⟩)] w fun e w' => ∃ (l : List PressD) (v : Value), e = .returned v ∧ l.length ≤ 300 ∧ PressO w' w.heap.size w'.heap.size v l ∧ CurOk w' b (K + 4000) ∧ But b (b + 1) w w' := by
  have hb := h.lt
  go_enter Try.func46, Try.ntmps46
  repeat (first | go_values | go_skip | go_guarded | go_step | go_upon)
  go_at_call 82
  refine (pick_ok _ b K 16 h (by omega) (by omega)).mono ?_
  rintro e w1 ⟨n, rfl, hn, hC, hg⟩
  dsimp only
  obtain ⟨N, rfl, hN⟩ := nat_of n 16 hn.1 hn.2
  clear hn
  repeat (first | go_values | go_skip | go_guarded | go_step | go_upon)
  go_at_call 85
  refine (one_ok _ b (K + 2) 20 hC (by omega) (by omega)).mono ?_
  rintro e w2 ⟨yes, rfl, hC2, hg2⟩
  dsimp only
  have G2 : But b (b + 1) w w2 := hg.trans hg2
  clear hg hg2 hC
  cases yes
  · (try dsimp only)
    obtain ⟨M, hM, hMl⟩ : ∃ M : Nat, M = N ∧ M ≤ 201 := ⟨N, rfl, by omega⟩
    subst hM
    have HDD : Hid (DrP w w2 b (K + 1000) (.slice none 0 0) []) := ⟨hC2.le (by omega), nil_press _ _ _, G2, hb⟩
    clear hC2 G2
    repeat (first | go_values | go_skip | go_guarded | go_step | go_upon)
    go_loopw [3, 4, 5] (fun x y z wr => ∃ (m t : Nat) (l : List PressD), y = .int .i64 m ∧ z = .int .i64 t ∧ m ≤ 201 ∧ t + 3 * m ≤ 1000 ∧ l.length + m ≤ 201 ∧ DrP w wr b (K + 1000 + 6 * (201 - (m : Int))) x l) (fun x y z _ => (intOf y).toNat)
    case atStart => exact ⟨M, 0, [], rfl, rfl, hMl, by omega, by simp; omega, HDD.out.le (by omega)⟩
    case round =>
      obtain ⟨m, t, l, rfl, rfl, hm, ht, hla, hD⟩ := hrel
      obtain ⟨aoa, ca, hfa⟩ := hD.rx.form
      subst hfa
      by_cases hpos : 0 < m
      · have dp : decide ((0 : Int) < (m : Int)) = true := by simp; omega
        have dp2 : decide (0 < m) = true := by simp; omega
        obtain ⟨m', hm'⟩ : ∃ m', m = m' + 1 := ⟨m - 1, by omega⟩
        have hw1 : IntKind.i64.wrap ((m : Int) - 1) = (m' : Int) := by rw [IntWalk.i64_in _ (by omega)]; omega
        have HM' : Hid (m = m' + 1) := hm'
        obtain ⟨KK, hKK⟩ : ∃ KK : Int, KK = K + 1000 + 6 * (201 - (m : Int)) := ⟨_, rfl⟩
        rw [← hKK] at hD
        have HKK : Hid (KK = K + 1000 + 6 * (201 - (m : Int))) := hKK
        have hKb : KK ≤ K + 3000 := by omega
        have HD1 : Hid (DrP w wr b KK (.slice aoa l.length ca) l) := hD
        clear hm' hpos hD hKK
        repeat (first | go_values | go_skip | go_guarded | go_step | go_upon)
        go_at_call 82
        refine (pick_ok _ _ KK 3 HD1.out.cur (by omega) (by omega)).mono ?_
        rintro e w2 ⟨r1, rfl, hr1, hC2, hg2⟩
        dsimp only
        obtain ⟨R1, rfl, hR1⟩ := nat_of r1 3 hr1.1 hr1.2
        have hsum : IntKind.i64.wrap ((t : Int) + (R1 : Int)) = ((t + R1 : Nat) : Int) := by rw [IntWalk.i64_in _ (by omega)]; omega
        have hsum2 : (t : Int) + (R1 : Int) = ((t + R1 : Nat) : Int) := by omega
        obtain ⟨T, hT, hTl⟩ : ∃ T : Nat, t + R1 = T ∧ T + 3 * m ≤ 1000 + 2 := ⟨t + R1, rfl, by omega⟩
        rw [hT] at hsum hsum2
        have HT : Hid (t + R1 = T) := hT
        have HD2 : Hid (DrP w w2 b (KK + 2) (.slice aoa l.length ca) l) := HD1.out.draw hg2 hC2
        clear hC2 hg2 HD1 hr1 hT
        repeat (first | go_values | go_skip | go_guarded | go_step | go_upon)
        go_at_call 82
        refine (pick_ok _ _ (KK + 2) 5 HD2.out.cur (by omega) (by omega)).mono ?_
        rintro e w3 ⟨r2, rfl, hr2, hC3, hg3⟩
        dsimp only
        have HD3 : Hid (DrP w w3 b (KK + 2 + 2) (.slice aoa l.length ca) l) := HD2.out.draw hg3 hC3
        clear hC3 hg3 HD2 hr2 hsum hsum2
        repeat (first | go_values | go_skip | go_guarded | go_step | go_upon)
        go_at_call 85
        refine (one_ok _ _ (KK + 2 + 2) 3 HD3.out.cur (by omega) (by omega)).mono ?_
        rintro e w4 ⟨yes, rfl, hC4, hg4⟩
        dsimp only
        have HD4 : Hid (DrP w w4 b (KK + 2 + 2 + 2) (.slice aoa l.length ca) l) := HD3.out.draw hg4 hC4
        clear hC4 hg4 HD3
        have h7 := HD4.out.alloc (.cells #[.int .i64 (T : Int), .int .i64 r2, .bool (!yes)] 82)
        have z7 := h7.sz
        repeat (first | (at_builtin; refine forgetL (fun w' => w' = _) rfl ?_) | go_values | go_skip | go_guarded | go_step | go_upon)
        intro W7 hW7
        rw [hW7]
        clear hW7 W7
        refine app_press rfl _ _ rfl rfl h7.rx rfl (one_press (p := ((T : Int), r2, !yes)) (Loc.new w4 [.int .i64 (T : Int), .int .i64 r2, .bool (!yes)] 82)) rfl (by simp; omega) (by omega) ?_
        intro v5 w5 o5 b5
        have h5 := h7.grew o5 b5
        have HD5 : Hid (DrP w w5 b (KK + 2 + 2 + 2) v5 (l ++ [((T : Int), r2, !yes)])) := h5
        clear h7 z7 o5 b5 h5 HD4
        (try dsimp only)
        repeat (first | go_values | go_skip | go_guarded | go_step | go_upon)
        have e1 := HM'.out
        have e2 := HKK.out
        have e3 := HT.out
        refine ⟨⟨m', T, l ++ [((T : Int), r2, !yes)], by first | rfl | (congr 1), rfl, by omega, by omega, by simp; omega, HD5.out.le (K' := K + 1000 + 6 * (201 - (m' : Int))) (by omega)⟩, by simp [intOf]; omega⟩
      · have hm0 : m = 0 := by omega
        subst hm0
        have HDr : Hid (DrP w wr b (K + 3000) (.slice aoa l.length ca) l) := hD.le (by omega)
        clear hD
        repeat (first | go_values | go_skip | go_guarded | go_step | go_upon)
        go_at_call 85
        refine (one_ok _ b (K + 3000) 40 HDr.out.cur (by omega) (by omega)).mono ?_
        rintro e w5 ⟨yes, rfl, hC5, hg5⟩
        dsimp only
        have HD5 : Hid (DrP w w5 b (K + 3000 + 2) (.slice aoa l.length ca) l) := HDr.out.draw hg5 hC5
        clear HDr hC5 hg5
        cases yes
        · repeat (first | go_values | go_skip | go_guarded | go_step | go_upon)
          go_ret
          exact ⟨l, _, rfl, by omega, HD5.out.rx, HD5.out.cur.le (by omega), HD5.out.but⟩
        have h6 := HD5.out.alloc (.cells #[.int .i64 (-1), .int .i64 0, .int .i64 100000, .int .i64 100001] 3)
        have HL : Listed (w5.alloc (.cells #[.int .i64 (-1), .int .i64 0, .int .i64 100000, .int .i64 100001] 3)) w5.heap.size [-1, 0, 100000, 100001] := listed_new w5 [-1, 0, 100000, 100001] 3
        have z5 := HD5.out.sz
        have zl := HD5.out.lo
        have HHL := hide HL
        have HD6 := hide h6
        clear h6 HL HD5
        repeat (first | go_values | go_skip | go_guarded | go_step | go_upon)
        go_at_call 87
        refine (among_ok _ b w5.heap.size (K + 3000 + 2) [-1, 0, 100000, 100001] HD6.out.cur (by omega) (by omega) HHL.out (by simp) (by simp) 4 rfl).mono ?_
        rintro e w6 ⟨q, rfl, hq, hC6, hg6⟩
        dsimp only
        have h6 := HD6.out.draw hg6 hC6
        have h7 := h6.alloc (.cells #[.int .i64 0, .int .i64 99, .int .i64 100, .int .i64 (-1)] 3)
        have HL : Listed (w6.alloc (.cells #[.int .i64 0, .int .i64 99, .int .i64 100, .int .i64 (-1)] 3)) w6.heap.size [0, 99, 100, -1] := listed_new w6 [0, 99, 100, -1] 3
        have z6 := h6.sz
        have HHL := hide HL
        have HD7 := hide h7
        clear h6 h7 HL hC6 hg6 HD6 hq
        repeat (first | go_values | go_skip | go_guarded | go_step | go_upon)
        go_at_call 87
        refine (among_ok _ b w6.heap.size (K + 3000 + 2 + 2) [0, 99, 100, -1] HD7.out.cur (by omega) (by omega) HHL.out (by simp) (by simp) 4 rfl).mono ?_
        rintro e w8 ⟨q2, rfl, hq2, hC8, hg8⟩
        dsimp only
        have h8 := HD7.out.draw hg8 hC8
        have HD8 := hide h8
        clear h8 hC8 hg8 HD7 hq2 HHL
        have h7 := HD8.out.alloc (.cells #[.int .i64 q, .int .i64 q2, .bool false] 82)
        have z7 := h7.sz
        repeat (first | (at_builtin; refine forgetL (fun w' => w' = _) rfl ?_) | go_values | go_skip | go_guarded | go_step | go_upon)
        intro W7 hW7
        rw [hW7]
        clear hW7 W7
        refine app_press rfl _ _ rfl rfl h7.rx rfl (one_press (p := (q, q2, false)) (Loc.new w8 [.int .i64 q, .int .i64 q2, .bool false] 82)) rfl (by simp; omega) (by omega) ?_
        intro v9 w9 o9 b9
        have h9 := h7.grew o9 b9
        have HD9 : Hid (DrP w w9 b (K + 3000 + 2 + 2 + 2) v9 (l ++ [(q, q2, false)])) := h9
        clear h7 z7 o9 b9 h9 HD8
        (try dsimp only)
        repeat (first | go_values | go_skip | go_guarded | go_step | go_upon)
        go_ret
        exact ⟨_, _, rfl, by simp; omega, HD9.out.rx, HD9.out.cur.le (by omega), HD9.out.but⟩
  · repeat (first | go_values | go_skip | go_guarded | go_step | go_upon)
    go_at_call 82
    refine (pick_ok _ b (K + 2 + 2) 2 hC2 (by omega) (by omega)).mono ?_
    rintro e w3 ⟨z, rfl, hz, hC3, hg3⟩
    dsimp only
    obtain ⟨Z, rfl, hZ⟩ := nat_of z 2 hz.1 hz.2
    clear hz
    have hsum : IntKind.i64.wrap (200 + (Z : Int)) = ((200 + Z : Nat) : Int) := by rw [IntWalk.i64_in _ (by omega)]; omega
    have hsum2 : (200 : Int) + (Z : Int) = ((200 + Z : Nat) : Int) := by omega
    obtain ⟨M, hM, hMl⟩ : ∃ M : Nat, 200 + Z = M ∧ M ≤ 201 := ⟨200 + Z, rfl, by omega⟩
    rw [hM] at hsum hsum2
    have HDD : Hid (DrP w w3 b (K + 1000) (.slice none 0 0) []) := ⟨hC3.le (by omega), nil_press _ _ _, G2.trans hg3, hb⟩
    clear hC2 G2 hC3 hg3 hM
    repeat (first | go_values | go_skip | go_guarded | go_step | go_upon)
    clear hsum hsum2
    go_loopw [3, 4, 5] (fun x y z wr => ∃ (m t : Nat) (l : List PressD), y = .int .i64 m ∧ z = .int .i64 t ∧ m ≤ 201 ∧ t + 3 * m ≤ 1000 ∧ l.length + m ≤ 201 ∧ DrP w wr b (K + 1000 + 6 * (201 - (m : Int))) x l) (fun x y z _ => (intOf y).toNat)
    case atStart => exact ⟨M, 0, [], rfl, rfl, hMl, by omega, by simp; omega, HDD.out.le (by omega)⟩
    case round =>
      obtain ⟨m, t, l, rfl, rfl, hm, ht, hla, hD⟩ := hrel
      obtain ⟨aoa, ca, hfa⟩ := hD.rx.form
      subst hfa
      by_cases hpos : 0 < m
      · have dp : decide ((0 : Int) < (m : Int)) = true := by simp; omega
        have dp2 : decide (0 < m) = true := by simp; omega
        obtain ⟨m', hm'⟩ : ∃ m', m = m' + 1 := ⟨m - 1, by omega⟩
        have hw1 : IntKind.i64.wrap ((m : Int) - 1) = (m' : Int) := by rw [IntWalk.i64_in _ (by omega)]; omega
        have HM' : Hid (m = m' + 1) := hm'
        obtain ⟨KK, hKK⟩ : ∃ KK : Int, KK = K + 1000 + 6 * (201 - (m : Int)) := ⟨_, rfl⟩
        rw [← hKK] at hD
        have HKK : Hid (KK = K + 1000 + 6 * (201 - (m : Int))) := hKK
        have hKb : KK ≤ K + 3000 := by omega
        have HD1 : Hid (DrP w wr b KK (.slice aoa l.length ca) l) := hD
        clear hm' hpos hD hKK
        repeat (first | go_values | go_skip | go_guarded | go_step | go_upon)
        go_at_call 82
        refine (pick_ok _ _ KK 3 HD1.out.cur (by omega) (by omega)).mono ?_
        rintro e w2 ⟨r1, rfl, hr1, hC2, hg2⟩
        dsimp only
        obtain ⟨R1, rfl, hR1⟩ := nat_of r1 3 hr1.1 hr1.2
        have hsum : IntKind.i64.wrap ((t : Int) + (R1 : Int)) = ((t + R1 : Nat) : Int) := by rw [IntWalk.i64_in _ (by omega)]; omega
        have hsum2 : (t : Int) + (R1 : Int) = ((t + R1 : Nat) : Int) := by omega
        obtain ⟨T, hT, hTl⟩ : ∃ T : Nat, t + R1 = T ∧ T + 3 * m ≤ 1000 + 2 := ⟨t + R1, rfl, by omega⟩
        rw [hT] at hsum hsum2
        have HT : Hid (t + R1 = T) := hT
        have HD2 : Hid (DrP w w2 b (KK + 2) (.slice aoa l.length ca) l) := HD1.out.draw hg2 hC2
        clear hC2 hg2 HD1 hr1 hT
        repeat (first | go_values | go_skip | go_guarded | go_step | go_upon)
        go_at_call 82
        refine (pick_ok _ _ (KK + 2) 5 HD2.out.cur (by omega) (by omega)).mono ?_
        rintro e w3 ⟨r2, rfl, hr2, hC3, hg3⟩
        dsimp only
        have HD3 : Hid (DrP w w3 b (KK + 2 + 2) (.slice aoa l.length ca) l) := HD2.out.draw hg3 hC3
        clear hC3 hg3 HD2 hr2 hsum hsum2
        repeat (first | go_values | go_skip | go_guarded | go_step | go_upon)
        go_at_call 85
        refine (one_ok _ _ (KK + 2 + 2) 3 HD3.out.cur (by omega) (by omega)).mono ?_
        rintro e w4 ⟨yes, rfl, hC4, hg4⟩
        dsimp only
        have HD4 : Hid (DrP w w4 b (KK + 2 + 2 + 2) (.slice aoa l.length ca) l) := HD3.out.draw hg4 hC4
        clear hC4 hg4 HD3
        have h7 := HD4.out.alloc (.cells #[.int .i64 (T : Int), .int .i64 r2, .bool (!yes)] 82)
        have z7 := h7.sz
        repeat (first | (at_builtin; refine forgetL (fun w' => w' = _) rfl ?_) | go_values | go_skip | go_guarded | go_step | go_upon)
        intro W7 hW7
        rw [hW7]
        clear hW7 W7
        refine app_press rfl _ _ rfl rfl h7.rx rfl (one_press (p := ((T : Int), r2, !yes)) (Loc.new w4 [.int .i64 (T : Int), .int .i64 r2, .bool (!yes)] 82)) rfl (by simp; omega) (by omega) ?_
        intro v5 w5 o5 b5
        have h5 := h7.grew o5 b5
        have HD5 : Hid (DrP w w5 b (KK + 2 + 2 + 2) v5 (l ++ [((T : Int), r2, !yes)])) := h5
        clear h7 z7 o5 b5 h5 HD4
        (try dsimp only)
        repeat (first | go_values | go_skip | go_guarded | go_step | go_upon)
        have e1 := HM'.out
        have e2 := HKK.out
        have e3 := HT.out
        refine ⟨⟨m', T, l ++ [((T : Int), r2, !yes)], by first | rfl | (congr 1), rfl, by omega, by omega, by simp; omega, HD5.out.le (K' := K + 1000 + 6 * (201 - (m' : Int))) (by omega)⟩, by simp [intOf]; omega⟩
      · have hm0 : m = 0 := by omega
        subst hm0
        have HDr : Hid (DrP w wr b (K + 3000) (.slice aoa l.length ca) l) := hD.le (by omega)
        clear hD
        repeat (first | go_values | go_skip | go_guarded | go_step | go_upon)
        go_at_call 85
        refine (one_ok _ b (K + 3000) 40 HDr.out.cur (by omega) (by omega)).mono ?_
        rintro e w5 ⟨yes, rfl, hC5, hg5⟩
        dsimp only
        have HD5 : Hid (DrP w w5 b (K + 3000 + 2) (.slice aoa l.length ca) l) := HDr.out.draw hg5 hC5
        clear HDr hC5 hg5
        cases yes
        · repeat (first | go_values | go_skip | go_guarded | go_step | go_upon)
          go_ret
          exact ⟨l, _, rfl, by omega, HD5.out.rx, HD5.out.cur.le (by omega), HD5.out.but⟩
        have h6 := HD5.out.alloc (.cells #[.int .i64 (-1), .int .i64 0, .int .i64 100000, .int .i64 100001] 3)
        have HL : Listed (w5.alloc (.cells #[.int .i64 (-1), .int .i64 0, .int .i64 100000, .int .i64 100001] 3)) w5.heap.size [-1, 0, 100000, 100001] := listed_new w5 [-1, 0, 100000, 100001] 3
        have z5 := HD5.out.sz
        have zl := HD5.out.lo
        have HHL := hide HL
        have HD6 := hide h6
        clear h6 HL HD5
        repeat (first | go_values | go_skip | go_guarded | go_step | go_upon)
        go_at_call 87
        refine (among_ok _ b w5.heap.size (K + 3000 + 2) [-1, 0, 100000, 100001] HD6.out.cur (by omega) (by omega) HHL.out (by simp) (by simp) 4 rfl).mono ?_
        rintro e w6 ⟨q, rfl, hq, hC6, hg6⟩
        dsimp only
        have h6 := HD6.out.draw hg6 hC6
        have h7 := h6.alloc (.cells #[.int .i64 0, .int .i64 99, .int .i64 100, .int .i64 (-1)] 3)
        have HL : Listed (w6.alloc (.cells #[.int .i64 0, .int .i64 99, .int .i64 100, .int .i64 (-1)] 3)) w6.heap.size [0, 99, 100, -1] := listed_new w6 [0, 99, 100, -1] 3
        have z6 := h6.sz
        have HHL := hide HL
        have HD7 := hide h7
        clear h6 h7 HL hC6 hg6 HD6 hq
        repeat (first | go_values | go_skip | go_guarded | go_step | go_upon)
        go_at_call 87
        refine (among_ok _ b w6.heap.size (K + 3000 + 2 + 2) [0, 99, 100, -1] HD7.out.cur (by omega) (by omega) HHL.out (by simp) (by simp) 4 rfl).mono ?_
        rintro e w8 ⟨q2, rfl, hq2, hC8, hg8⟩
        dsimp only
        have h8 := HD7.out.draw hg8 hC8
        have HD8 := hide h8
        clear h8 hC8 hg8 HD7 hq2 HHL
        have h7 := HD8.out.alloc (.cells #[.int .i64 q, .int .i64 q2, .bool false] 82)
        have z7 := h7.sz
        repeat (first | (at_builtin; refine forgetL (fun w' => w' = _) rfl ?_) | go_values | go_skip | go_guarded | go_step | go_upon)
        intro W7 hW7
        rw [hW7]
        clear hW7 W7
        refine app_press rfl _ _ rfl rfl h7.rx rfl (one_press (p := (q, q2, false)) (Loc.new w8 [.int .i64 q, .int .i64 q2, .bool false] 82)) rfl (by simp; omega) (by omega) ?_
        intro v9 w9 o9 b9
        have h9 := h7.grew o9 b9
        have HD9 : Hid (DrP w w9 b (K + 3000 + 2 + 2 + 2) v9 (l ++ [(q, q2, false)])) := h9
        clear h7 z7 o9 b9 h9 HD8
        (try dsimp only)
        repeat (first | go_values | go_skip | go_guarded | go_step | go_upon)
        go_ret
        exact ⟨_, _, rfl, by simp; omega, HD9.out.rx, HD9.out.cur.le (by omega), HD9.out.but⟩

end Go.Proofs.Ythkfpbknfjapaaa
