/-
  What DrawShareRoom draws.
-/
import Derived.Test.YtaofilinejanjaaDoorDrawS18
namespace Go.Proofs.YtaofilinejanjaaDoor
open Go.ChangeShapes Go.WideShapes Go.ChangeAt Go.RowKit

set_option maxRecDepth 100000
set_option linter.unusedVariables false

set_option maxHeartbeats 16000000 in
theorem drawR (ao : Option Addr) (len cap : Nat) (w : World) (h : Code w ao len) (hl : len ≤ 9223372036854775807) :
    Calls Tryd.prog 5 #[.slice ao len cap] w fun e w' => ∃ (r : Int) (la lb : List Int) (va vb : Value), e = .returned (.tuple #[.int .i64 r, va, vb]) ∧ la.length ≤ 100 ∧ lb.length ≤ 100 ∧ NumAt w' va la ∧ NumAt w' vb lb ∧ Kept w w' := by
  have hC0 := Code.cur (cap := cap) (t := 43) h (by omega)
  have K0 : Kept w (w.alloc (.cells #[.slice ao len cap, .int .i64 0, .int .u64 0] 43)) := (But.refl _ _ w).alloc _
  go_enter Tryd.func5, Tryd.ntmps5
  repeat (first | go_values | go_skip | go_guarded | go_step | go_upon)
  go_at_call 18
  refine (room_ok _ _ 0 (by simpa using hC0) (by omega)).mono ?_
  rintro e w1 ⟨R, rfl, _, hC, hg⟩
  dsimp only
  have K1 : Kept w w1 := But.onto K0 hg (by omega)
  clear hg hC0 K0 h
  repeat (first | go_values | go_skip | go_guarded | go_step | go_upon)
  go_at_call 19
  refine (pick_ok _ _ _ 6 hC (by omega) (by omega)).mono ?_
  rintro e w2 ⟨z, rfl, hz, hC2, hg2⟩
  dsimp only
  have K2 : Kept w w2 := But.onto K1 hg2 (by omega)
  obtain ⟨Z, rfl, hZ⟩ := nat_of z 6 hz.1 hz.2
  clear hg2 hC K1 hz
  repeat (first | go_values | go_skip | go_guarded | go_step | go_upon)
  go_at_call 20
  refine (one_ok _ _ _ 20 hC2 (by omega) (by omega)).mono ?_
  rintro e w3 ⟨yes, rfl, hC3, hg3⟩
  dsimp only
  have K3 : Kept w w3 := But.onto K2 hg3 (by omega)
  clear hg3 hC2 K2
  cases yes
  · (try dsimp only)
    obtain ⟨M, hM, hMl⟩ : ∃ M : Nat, M = Z ∧ M ≤ 41 := ⟨Z, rfl, by omega⟩
    subst hM
    have HDD : Hid (DrS w w3 w.heap.size 1000 (.slice none 0 0) (.slice none 0 0) [] []) := ⟨hC3.le (by omega), nil_num _ _ _, nil_num _ _ _, (fun g hg => by simp [Value.ownBlock] at hg), K3, Nat.le_refl _⟩
    clear hC3 K3
    repeat (first | go_values | go_skip | go_guarded | go_step | go_upon)
    go_loopw [7, 8, 9] (fun x y z wr => ∃ (m : Nat) (la lb : List Int), z = .int .i64 m ∧ m ≤ 41 ∧ la.length + m ≤ 41 ∧ lb.length + m ≤ 41 ∧ DrS w wr w.heap.size (1000 + 4 * (41 - (m : Int))) x y la lb) (fun x y z _ => (intOf z).toNat)
    case atStart => exact ⟨M, [], [], rfl, hMl, by simp; omega, by simp; omega, HDD.out.le (by omega)⟩
    case round =>
      obtain ⟨m, la, lb, rfl, hm, hla, hlb, hD⟩ := hrel
      obtain ⟨aoa, ca, hfa⟩ := hD.rx.form
      obtain ⟨aob, cb, hfb⟩ := hD.ry.form
      subst hfa hfb
      by_cases hpos : 0 < m
      · have dp : decide ((0 : Int) < (m : Int)) = true := by simp; omega
        have dp2 : decide (0 < m) = true := by simp; omega
        obtain ⟨m', hm'⟩ : ∃ m', m = m' + 1 := ⟨m - 1, by omega⟩
        have hw1 : IntKind.i64.wrap ((m : Int) - 1) = (m' : Int) := by rw [IntWalk.i64_in _ (by omega)]; omega
        have HM' : Hid (m = m' + 1) := hm'
        obtain ⟨KK, hKK⟩ : ∃ KK : Int, KK = 1000 + 4 * (41 - (m : Int)) := ⟨_, rfl⟩
        rw [← hKK] at hD
        have HKK : Hid (KK = 1000 + 4 * (41 - (m : Int))) := hKK
        have hKb : KK ≤ 2000 := by omega
        have HD1 : Hid (DrS w wr w.heap.size KK (.slice aoa la.length ca) (.slice aob lb.length cb) la lb) := hD
        clear hm' hpos hD hKK
        repeat (first | go_values | go_skip | go_guarded | go_step | go_upon)
        go_at_call 19
        refine (pick_ok _ _ KK 12 HD1.out.cur (by omega) (by omega)).mono ?_
        rintro e w2 ⟨r1, rfl, hr1, hC2, hg2⟩
        dsimp only
        have HD2 : Hid (DrS w w2 w.heap.size (KK + 2) (.slice aoa la.length ca) (.slice aob lb.length cb) la lb) := HD1.out.draw hg2 hC2
        clear hC2 hg2 HD1
        have h7 := HD2.out.alloc (.cells #[.int .i64 r1] 3)
        have z7 := h7.lt
        repeat (first | (at_builtin; refine forgetL (fun w' => w' = _) rfl ?_) | go_values | go_skip | go_guarded | go_step | go_upon)
        intro W7 hW7
        rw [hW7]
        clear hW7 W7
        refine app1_num rfl _ _ rfl rfl h7.rx r1 rfl (Loc.new w2 [.int .i64 r1] 3) (by omega) (by omega) ?_
        intro v3 w3 o3 b3 h4
        have h3 := h7.grewx o3 b3 h4
        obtain ⟨ao3, c3, hf3⟩ := o3.form
        subst hf3
        have HD3 : Hid (DrS w w3 w.heap.size (KK + 2) (.slice ao3 (la ++ [r1]).length c3) (.slice aob lb.length cb) (la ++ [r1]) lb) := h3
        clear h3 h7 z7 o3 b3 h4 HD2
        (try dsimp only)
        repeat (first | go_values | go_skip | go_guarded | go_step | go_upon)
        go_at_call 19
        refine (pick_ok _ _ (KK + 2) 5 HD3.out.cur (by omega) (by omega)).mono ?_
        rintro e w4 ⟨r2, rfl, hr2, hC4, hg4⟩
        dsimp only
        have HD4 : Hid (DrS w w4 w.heap.size (KK + 2 + 2) (.slice ao3 (la ++ [r1]).length c3) (.slice aob lb.length cb) (la ++ [r1]) lb) := HD3.out.draw hg4 hC4
        clear hC4 hg4 HD3
        have h7 := HD4.out.alloc (.cells #[.int .i64 r2] 3)
        have z7 := h7.lt
        repeat (first | (at_builtin; refine forgetL (fun w' => w' = _) rfl ?_) | go_values | go_skip | go_guarded | go_step | go_upon)
        intro W7 hW7
        rw [hW7]
        clear hW7 W7
        refine app1_num rfl _ _ rfl rfl h7.ry r2 rfl (Loc.new w4 [.int .i64 r2] 3) (by omega) (by omega) ?_
        intro v5 w5 o5 b5 h4
        have h5 := h7.grewy o5 b5 h4
        have HD5 : Hid (DrS w w5 w.heap.size (KK + 2 + 2) (.slice ao3 (la ++ [r1]).length c3) v5 (la ++ [r1]) (lb ++ [r2])) := h5
        clear h5 h7 z7 o5 b5 h4 HD4
        (try dsimp only)
        repeat (first | go_values | go_skip | go_guarded | go_step | go_upon)
        have e1 := HM'.out
        have e2 := HKK.out
        refine ⟨⟨m', la ++ [r1], lb ++ [r2], by first | rfl | (congr 1), by omega, by simp; omega, by simp; omega, (by have q := HD5.out.le (K' := 1000 + 4 * (41 - (m' : Int))) (by omega); simp only [List.length_append, List.length_singleton] at q; exact q)⟩, by simp [intOf]; omega⟩
      · have hm0 : m = 0 := by omega
        subst hm0
        have HDr : Hid (DrS w wr w.heap.size 2000 (.slice aoa la.length ca) (.slice aob lb.length cb) la lb) := hD.le (by omega)
        clear hD
        repeat (first | go_values | go_skip | go_guarded | go_step | go_upon)
        go_at_call 19
        refine (pick_ok _ _ 2000 30 (HDr.out.le (by omega)).cur (by omega) (by omega)).mono ?_
        rintro e w5 ⟨z, rfl, hz, hC5, hg5⟩
        dsimp only
        have HD5 : Hid (DrS w w5 w.heap.size (2000 + 2) (.slice aoa la.length ca) (.slice aob lb.length cb) la lb) := HDr.out.draw hg5 hC5
        clear HDr hC5 hg5
        by_cases e0 : z = 0
        · subst e0
          have h7 := HD5.out.alloc (.cells #[.int .i64 1] 3)
          have z7 := h7.lt
          repeat (first | (at_builtin; refine forgetL (fun w' => w' = _) rfl ?_) | go_values | go_skip | go_guarded | go_step | go_upon)
          intro W7 hW7
          rw [hW7]
          clear hW7 W7
          refine app1_num rfl _ _ rfl rfl h7.rx 1 rfl (Loc.new w5 [.int .i64 1] 3) (by simp; omega) (by omega) ?_
          intro v6 w6 o6 b6 h4
          have h6 := h7.grewx o6 b6 h4
          have HD6 : Hid (DrS w w6 w.heap.size (2000 + 2) v6 (.slice aob lb.length cb) (la ++ [1]) lb) := h6
          clear h6 h7 z7 o6 b6 h4 HD5
          (try dsimp only)
          repeat (first | go_values | go_skip | go_guarded | go_step | go_upon)
          refine bodyPost_ret (v := .tuple #[.int .i64 R, v6, .slice aob lb.length cb]) (by simp [results, Tryd.results5, go_sem]) rfl ?_
          exact ⟨R, _, _, _, _, rfl, by simp; omega, by omega, HD6.out.rx.at, HD6.out.ry.at, HD6.out.kept⟩
        have d0 : (z == 0) = false := beq_eq_false_iff_ne.2 e0
        by_cases e1 : z = 1
        · subst e1
          by_cases hb : 0 < lb.length
          · have db : decide ((0 : Int) < (lb.length : Int)) = true := by simp; omega
            have db2 : decide (0 < lb.length) = true := by simp; omega
            obtain ⟨g, cap, hf, hg1, hg2⟩ := num_form HD5.out.ry (by omega)
            cases hf
            obtain ⟨p, hp⟩ : ∃ p, lb[0]? = some p := ⟨_, List.getElem?_eq_getElem hb⟩
            have HL : Listed (w5.alloc (.cells #[.int .i64 (-1), .int .i64 1000, .int .i64 1001] 3)) w5.heap.size [-1, 1000, 1001] := listed_new w5 [-1, 1000, 1001] 3
            have h7 := HD5.out.alloc (.cells #[.int .i64 (-1), .int .i64 1000, .int .i64 1001] 3)
            have z5 := HD5.out.lt
            have HD7 : Hid (DrS w (w5.alloc (.cells #[.int .i64 (-1), .int .i64 1000, .int .i64 1001] 3)) w.heap.size (2000 + 2) (.slice aoa la.length ca) (.slice (some ⟨g, 0, none⟩) lb.length cb) la lb) := h7
            have HHL : Hid (Listed (w5.alloc (.cells #[.int .i64 (-1), .int .i64 1000, .int .i64 1001] 3)) w5.heap.size [-1, 1000, 1001]) := HL
            clear h7 HL HD5
            repeat (first | go_values | go_skip | go_guarded | go_step | go_upon)
            go_at_call 21
            refine (among_ok _ w.heap.size w5.heap.size (2000 + 2) [-1, 1000, 1001] HD7.out.cur (by omega) (by omega) HHL.out (by simp) (by simp) 3 rfl).mono ?_
            rintro e w6 ⟨q, rfl, hq, hC6, hg6⟩
            dsimp only
            have h6 := HD7.out.draw hg6 hC6
            obtain ⟨c0, cf⟩ := h6.ry.cells hp
            have cf0 := cf 0
            have h8 := h6.sety rfl hp q
            have HD8 : Hid (DrS w (w6.setCell ⟨g, 0, none⟩ (.int .i64 q)) w.heap.size (2000 + 2 + 2) (.slice aoa la.length ca) (.slice (some ⟨g, 0, none⟩) lb.length cb) la (lb.set 0 q)) := h8
            clear h6 h8 hC6 hg6 HD7 HHL cf
            repeat (first | go_values | go_skip | go_guarded | go_step | go_upon)
            refine bodyPost_ret (v := .tuple #[.int .i64 R, .slice aoa la.length ca, .slice (some ⟨g, 0, none⟩) lb.length cb]) (by simp [results, Tryd.results5, go_sem]) rfl ?_
            exact ⟨R, _, _, _, _, rfl, by omega, by rw [List.length_set]; omega, HD8.out.rx.at, HD8.out.ry.at, HD8.out.kept⟩
          · have db : decide ((0 : Int) < (lb.length : Int)) = false := decide_eq_false (by omega)
            have db2 : decide (0 < lb.length) = false := decide_eq_false (by omega)
            repeat (first | go_values | go_skip | go_guarded | go_step | go_upon)
            refine bodyPost_ret (v := .tuple #[.int .i64 R, .slice aoa la.length ca, .slice aob lb.length cb]) (by simp [results, Tryd.results5, go_sem]) rfl ?_
            exact ⟨R, _, _, _, _, rfl, by omega, by omega, HD5.out.rx.at, HD5.out.ry.at, HD5.out.kept⟩
        have d1 : (z == 1) = false := beq_eq_false_iff_ne.2 e1
        repeat (first | go_values | go_skip | go_guarded | go_step | go_upon)
        refine bodyPost_ret (v := .tuple #[.int .i64 R, .slice aoa la.length ca, .slice aob lb.length cb]) (by simp [results, Tryd.results5, go_sem]) rfl ?_
        exact ⟨R, _, _, _, _, rfl, by omega, by omega, HD5.out.rx.at, HD5.out.ry.at, HD5.out.kept⟩
  · repeat (first | go_values | go_skip | go_guarded | go_step | go_upon)
    go_at_call 19
    refine (pick_ok _ _ _ 2 hC3 (by omega) (by omega)).mono ?_
    rintro e w4 ⟨y, rfl, hy, hC4, hg4⟩
    dsimp only
    obtain ⟨Y, rfl, hY⟩ := nat_of y 2 hy.1 hy.2
    clear hy
    have hsum : IntKind.i64.wrap (40 + (Y : Int)) = ((40 + Y : Nat) : Int) := by rw [IntWalk.i64_in _ (by omega)]; omega
    have hsum2 : (40 : Int) + (Y : Int) = ((40 + Y : Nat) : Int) := by omega
    obtain ⟨M, hM, hMl⟩ : ∃ M : Nat, 40 + Y = M ∧ M ≤ 41 := ⟨40 + Y, rfl, by omega⟩
    rw [hM] at hsum hsum2
    have K4 : Kept w w4 := But.onto K3 hg4 (by omega)
    have HDD : Hid (DrS w w4 w.heap.size 1000 (.slice none 0 0) (.slice none 0 0) [] []) := ⟨hC4.le (by omega), nil_num _ _ _, nil_num _ _ _, (fun g hg => by simp [Value.ownBlock] at hg), K4, Nat.le_refl _⟩
    clear hC3 K3 hC4 hg4 hM K4
    repeat (first | go_values | go_skip | go_guarded | go_step | go_upon)
    clear hsum hsum2
    go_loopw [7, 8, 9] (fun x y z wr => ∃ (m : Nat) (la lb : List Int), z = .int .i64 m ∧ m ≤ 41 ∧ la.length + m ≤ 41 ∧ lb.length + m ≤ 41 ∧ DrS w wr w.heap.size (1000 + 4 * (41 - (m : Int))) x y la lb) (fun x y z _ => (intOf z).toNat)
    case atStart => exact ⟨M, [], [], rfl, hMl, by simp; omega, by simp; omega, HDD.out.le (by omega)⟩
    case round =>
      obtain ⟨m, la, lb, rfl, hm, hla, hlb, hD⟩ := hrel
      obtain ⟨aoa, ca, hfa⟩ := hD.rx.form
      obtain ⟨aob, cb, hfb⟩ := hD.ry.form
      subst hfa hfb
      by_cases hpos : 0 < m
      · have dp : decide ((0 : Int) < (m : Int)) = true := by simp; omega
        have dp2 : decide (0 < m) = true := by simp; omega
        obtain ⟨m', hm'⟩ : ∃ m', m = m' + 1 := ⟨m - 1, by omega⟩
        have hw1 : IntKind.i64.wrap ((m : Int) - 1) = (m' : Int) := by rw [IntWalk.i64_in _ (by omega)]; omega
        have HM' : Hid (m = m' + 1) := hm'
        obtain ⟨KK, hKK⟩ : ∃ KK : Int, KK = 1000 + 4 * (41 - (m : Int)) := ⟨_, rfl⟩
        rw [← hKK] at hD
        have HKK : Hid (KK = 1000 + 4 * (41 - (m : Int))) := hKK
        have hKb : KK ≤ 2000 := by omega
        have HD1 : Hid (DrS w wr w.heap.size KK (.slice aoa la.length ca) (.slice aob lb.length cb) la lb) := hD
        clear hm' hpos hD hKK
        repeat (first | go_values | go_skip | go_guarded | go_step | go_upon)
        go_at_call 19
        refine (pick_ok _ _ KK 12 HD1.out.cur (by omega) (by omega)).mono ?_
        rintro e w2 ⟨r1, rfl, hr1, hC2, hg2⟩
        dsimp only
        have HD2 : Hid (DrS w w2 w.heap.size (KK + 2) (.slice aoa la.length ca) (.slice aob lb.length cb) la lb) := HD1.out.draw hg2 hC2
        clear hC2 hg2 HD1
        have h7 := HD2.out.alloc (.cells #[.int .i64 r1] 3)
        have z7 := h7.lt
        repeat (first | (at_builtin; refine forgetL (fun w' => w' = _) rfl ?_) | go_values | go_skip | go_guarded | go_step | go_upon)
        intro W7 hW7
        rw [hW7]
        clear hW7 W7
        refine app1_num rfl _ _ rfl rfl h7.rx r1 rfl (Loc.new w2 [.int .i64 r1] 3) (by omega) (by omega) ?_
        intro v3 w3 o3 b3 h4
        have h3 := h7.grewx o3 b3 h4
        obtain ⟨ao3, c3, hf3⟩ := o3.form
        subst hf3
        have HD3 : Hid (DrS w w3 w.heap.size (KK + 2) (.slice ao3 (la ++ [r1]).length c3) (.slice aob lb.length cb) (la ++ [r1]) lb) := h3
        clear h3 h7 z7 o3 b3 h4 HD2
        (try dsimp only)
        repeat (first | go_values | go_skip | go_guarded | go_step | go_upon)
        go_at_call 19
        refine (pick_ok _ _ (KK + 2) 5 HD3.out.cur (by omega) (by omega)).mono ?_
        rintro e w4 ⟨r2, rfl, hr2, hC4, hg4⟩
        dsimp only
        have HD4 : Hid (DrS w w4 w.heap.size (KK + 2 + 2) (.slice ao3 (la ++ [r1]).length c3) (.slice aob lb.length cb) (la ++ [r1]) lb) := HD3.out.draw hg4 hC4
        clear hC4 hg4 HD3
        have h7 := HD4.out.alloc (.cells #[.int .i64 r2] 3)
        have z7 := h7.lt
        repeat (first | (at_builtin; refine forgetL (fun w' => w' = _) rfl ?_) | go_values | go_skip | go_guarded | go_step | go_upon)
        intro W7 hW7
        rw [hW7]
        clear hW7 W7
        refine app1_num rfl _ _ rfl rfl h7.ry r2 rfl (Loc.new w4 [.int .i64 r2] 3) (by omega) (by omega) ?_
        intro v5 w5 o5 b5 h4
        have h5 := h7.grewy o5 b5 h4
        have HD5 : Hid (DrS w w5 w.heap.size (KK + 2 + 2) (.slice ao3 (la ++ [r1]).length c3) v5 (la ++ [r1]) (lb ++ [r2])) := h5
        clear h5 h7 z7 o5 b5 h4 HD4
        (try dsimp only)
        repeat (first | go_values | go_skip | go_guarded | go_step | go_upon)
        have e1 := HM'.out
        have e2 := HKK.out
        refine ⟨⟨m', la ++ [r1], lb ++ [r2], by first | rfl | (congr 1), by omega, by simp; omega, by simp; omega, (by have q := HD5.out.le (K' := 1000 + 4 * (41 - (m' : Int))) (by omega); simp only [List.length_append, List.length_singleton] at q; exact q)⟩, by simp [intOf]; omega⟩
      · have hm0 : m = 0 := by omega
        subst hm0
        have HDr : Hid (DrS w wr w.heap.size 2000 (.slice aoa la.length ca) (.slice aob lb.length cb) la lb) := hD.le (by omega)
        clear hD
        repeat (first | go_values | go_skip | go_guarded | go_step | go_upon)
        go_at_call 19
        refine (pick_ok _ _ 2000 30 (HDr.out.le (by omega)).cur (by omega) (by omega)).mono ?_
        rintro e w5 ⟨z, rfl, hz, hC5, hg5⟩
        dsimp only
        have HD5 : Hid (DrS w w5 w.heap.size (2000 + 2) (.slice aoa la.length ca) (.slice aob lb.length cb) la lb) := HDr.out.draw hg5 hC5
        clear HDr hC5 hg5
        by_cases e0 : z = 0
        · subst e0
          have h7 := HD5.out.alloc (.cells #[.int .i64 1] 3)
          have z7 := h7.lt
          repeat (first | (at_builtin; refine forgetL (fun w' => w' = _) rfl ?_) | go_values | go_skip | go_guarded | go_step | go_upon)
          intro W7 hW7
          rw [hW7]
          clear hW7 W7
          refine app1_num rfl _ _ rfl rfl h7.rx 1 rfl (Loc.new w5 [.int .i64 1] 3) (by simp; omega) (by omega) ?_
          intro v6 w6 o6 b6 h4
          have h6 := h7.grewx o6 b6 h4
          have HD6 : Hid (DrS w w6 w.heap.size (2000 + 2) v6 (.slice aob lb.length cb) (la ++ [1]) lb) := h6
          clear h6 h7 z7 o6 b6 h4 HD5
          (try dsimp only)
          repeat (first | go_values | go_skip | go_guarded | go_step | go_upon)
          refine bodyPost_ret (v := .tuple #[.int .i64 R, v6, .slice aob lb.length cb]) (by simp [results, Tryd.results5, go_sem]) rfl ?_
          exact ⟨R, _, _, _, _, rfl, by simp; omega, by omega, HD6.out.rx.at, HD6.out.ry.at, HD6.out.kept⟩
        have d0 : (z == 0) = false := beq_eq_false_iff_ne.2 e0
        by_cases e1 : z = 1
        · subst e1
          by_cases hb : 0 < lb.length
          · have db : decide ((0 : Int) < (lb.length : Int)) = true := by simp; omega
            have db2 : decide (0 < lb.length) = true := by simp; omega
            obtain ⟨g, cap, hf, hg1, hg2⟩ := num_form HD5.out.ry (by omega)
            cases hf
            obtain ⟨p, hp⟩ : ∃ p, lb[0]? = some p := ⟨_, List.getElem?_eq_getElem hb⟩
            have HL : Listed (w5.alloc (.cells #[.int .i64 (-1), .int .i64 1000, .int .i64 1001] 3)) w5.heap.size [-1, 1000, 1001] := listed_new w5 [-1, 1000, 1001] 3
            have h7 := HD5.out.alloc (.cells #[.int .i64 (-1), .int .i64 1000, .int .i64 1001] 3)
            have z5 := HD5.out.lt
            have HD7 : Hid (DrS w (w5.alloc (.cells #[.int .i64 (-1), .int .i64 1000, .int .i64 1001] 3)) w.heap.size (2000 + 2) (.slice aoa la.length ca) (.slice (some ⟨g, 0, none⟩) lb.length cb) la lb) := h7
            have HHL : Hid (Listed (w5.alloc (.cells #[.int .i64 (-1), .int .i64 1000, .int .i64 1001] 3)) w5.heap.size [-1, 1000, 1001]) := HL
            clear h7 HL HD5
            repeat (first | go_values | go_skip | go_guarded | go_step | go_upon)
            go_at_call 21
            refine (among_ok _ w.heap.size w5.heap.size (2000 + 2) [-1, 1000, 1001] HD7.out.cur (by omega) (by omega) HHL.out (by simp) (by simp) 3 rfl).mono ?_
            rintro e w6 ⟨q, rfl, hq, hC6, hg6⟩
            dsimp only
            have h6 := HD7.out.draw hg6 hC6
            obtain ⟨c0, cf⟩ := h6.ry.cells hp
            have cf0 := cf 0
            have h8 := h6.sety rfl hp q
            have HD8 : Hid (DrS w (w6.setCell ⟨g, 0, none⟩ (.int .i64 q)) w.heap.size (2000 + 2 + 2) (.slice aoa la.length ca) (.slice (some ⟨g, 0, none⟩) lb.length cb) la (lb.set 0 q)) := h8
            clear h6 h8 hC6 hg6 HD7 HHL cf
            repeat (first | go_values | go_skip | go_guarded | go_step | go_upon)
            refine bodyPost_ret (v := .tuple #[.int .i64 R, .slice aoa la.length ca, .slice (some ⟨g, 0, none⟩) lb.length cb]) (by simp [results, Tryd.results5, go_sem]) rfl ?_
            exact ⟨R, _, _, _, _, rfl, by omega, by rw [List.length_set]; omega, HD8.out.rx.at, HD8.out.ry.at, HD8.out.kept⟩
          · have db : decide ((0 : Int) < (lb.length : Int)) = false := decide_eq_false (by omega)
            have db2 : decide (0 < lb.length) = false := decide_eq_false (by omega)
            repeat (first | go_values | go_skip | go_guarded | go_step | go_upon)
            refine bodyPost_ret (v := .tuple #[.int .i64 R, .slice aoa la.length ca, .slice aob lb.length cb]) (by simp [results, Tryd.results5, go_sem]) rfl ?_
            exact ⟨R, _, _, _, _, rfl, by omega, by omega, HD5.out.rx.at, HD5.out.ry.at, HD5.out.kept⟩
        have d1 : (z == 1) = false := beq_eq_false_iff_ne.2 e1
        repeat (first | go_values | go_skip | go_guarded | go_step | go_upon)
        refine bodyPost_ret (v := .tuple #[.int .i64 R, .slice aoa la.length ca, .slice aob lb.length cb]) (by simp [results, Tryd.results5, go_sem]) rfl ?_
        exact ⟨R, _, _, _, _, rfl, by omega, by omega, HD5.out.rx.at, HD5.out.ry.at, HD5.out.kept⟩

end Go.Proofs.YtaofilinejanjaaDoor
