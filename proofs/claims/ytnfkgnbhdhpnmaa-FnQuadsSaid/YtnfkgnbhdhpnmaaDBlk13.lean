/-
  Blocks that are drawn.
-/
import Derived.Test.YtnfkgnbhdhpnmaaCur
import Derived.Test.YtnfkgnbhdhpnmaaClone13
import Derived.Deep.CutBlock
import Derived.Deep.CutRange
import Derived.Deep.DeepCutAuto
namespace Go.Proofs.Ytnfkgnbhdhpnmaa
open Go.ChangeShapes Go.WideShapes Go.ChangeAt Go.RowKit

set_option maxRecDepth 100000
set_option linter.unusedVariables false
theorem nat_of (r : Int) (n : Nat) (h0 : 0 ≤ r) (h1 : r < n) : ∃ k : Nat, r = k ∧ k < n := ⟨r.toNat, by omega, by omega⟩
theorem forgetK {K : Act → World → Prop} {a : Act} {W : World} (F : World → Prop) (hF : F W) (h : ∀ W', F W' → K a W') : K a W := h W hF
theorem pick_any (w : World) (b : Nat) (K n : Int) (h : CurOk w b K) (hK : K ≤ 1152921504606846900) (h1 : 1 ≤ n) :
    Calls Try.prog 68 #[.pointer (some ⟨b, 0, none⟩), .int .i64 n] w (Drawn b (K + 2) (fun r => 0 ≤ r ∧ r < n) w) := by
  by_cases e : n = 1
  · subst e
    go_enter Try.func68, Try.ntmps68
    go_wp2
    go_ret
    exact ⟨0, rfl, ⟨by omega, by omega⟩, h.le (by omega), But.refl _ _ _⟩
  · exact pick_ok w b K n h hK (by omega)
theorem Loc.cur {w w' : World} {b T : Nat} {cs : List Value} (h : Loc w T cs) (k : But b (b + 1) w w') (hb : b < T) : Loc w' T cs := h.but k (by omega)
theorem listed {W : World} (cs : List Int) (t : TypeId) : Listed (W.alloc (.cells (cs.map fun z => Value.int .i64 z).toArray t)) W.heap.size cs := fun i hi => by
  have := (Loc.new W (cs.map fun z => Value.int .i64 z) t).cell i (v := .int .i64 (cs.getD i 0)) (by rw [List.getElem?_map, List.getD_eq_getElem?_getD, List.getElem?_eq_getElem hi]; rfl)
  exact this
set_option maxHeartbeats 16000000 in
theorem blocks_ok (w : World) (b : Nat) (K : Int) (h : CurOk w b K) (hK : K ≤ 1152921504606000000) :
    Calls Try.prog 60 #[.pointer (some ⟨b, 0, none⟩)] w fun e w' => ∃ (x y z : Int) (l : List Int) (v : Value), e = .returned (.agg #[.int .i64 x, .int .i64 y, .int .i64 z, v]) ∧ l.length ≤ 1000 ∧ NumO w' w.heap.size w'.heap.size v l ∧ CurOk w' b (K + 20000) ∧ But b (b + 1) w w' := by
  have hb := h.lt
  obtain ⟨i0, hi0, hz0, hz1, hz2⟩ := info_parts info_num
  go_enter Try.func60, Try.ntmps60
  repeat (first | go_values | go_skip | go_guarded | go_step | go_upon)
  go_at_call 68
  refine (pick_ok _ b (K) 4 (h.alloc _) (by omega) (by omega)).mono ?_
  rintro e w1 ⟨p1, rfl, hp1, hC1, hg1⟩
  dsimp only
  obtain ⟨x1, rfl, hx1⟩ := nat_of p1 4 hp1.1 hp1.2
  obtain ⟨A1, hA1, hAl1⟩ : ∃ A : Nat, 1 + x1 = A ∧ (1 ≤ A ∧ A ≤ 4) := ⟨_, rfl, by omega⟩
  have ha1 : IntKind.i64.wrap (1 + (x1 : Int)) = (A1 : Int) := by rw [IntWalk.i64_in _ (by omega)]; omega
  have hb1 : (1 : Int) + (x1 : Int) = (A1 : Int) := by omega
  clear hp1 hA1
  repeat (first | go_values | go_skip | go_guarded | go_step | go_upon)
  clear ha1 hb1 hx1
  go_at_call 68
  refine (pick_ok _ b (K + 2) 4 hC1 (by omega) (by omega)).mono ?_
  rintro e w2 ⟨p2, rfl, hp2, hC2, hg2⟩
  dsimp only
  obtain ⟨x2, rfl, hx2⟩ := nat_of p2 4 hp2.1 hp2.2
  obtain ⟨A2, hA2, hAl2⟩ : ∃ A : Nat, 1 + x2 = A ∧ (1 ≤ A ∧ A ≤ 4) := ⟨_, rfl, by omega⟩
  have ha2 : IntKind.i64.wrap (1 + (x2 : Int)) = (A2 : Int) := by rw [IntWalk.i64_in _ (by omega)]; omega
  have hb2 : (1 : Int) + (x2 : Int) = (A2 : Int) := by omega
  clear hp2 hA2
  repeat (first | go_values | go_skip | go_guarded | go_step | go_upon)
  clear ha2 hb2 hx2
  go_at_call 68
  refine (pick_ok _ b (K + 2 + 2) 4 hC2 (by omega) (by omega)).mono ?_
  rintro e w3 ⟨p3, rfl, hp3, hC3, hg3⟩
  dsimp only
  obtain ⟨x3, rfl, hx3⟩ := nat_of p3 4 hp3.1 hp3.2
  obtain ⟨A3, hA3, hAl3⟩ : ∃ A : Nat, 1 + x3 = A ∧ (1 ≤ A ∧ A ≤ 4) := ⟨_, rfl, by omega⟩
  have ha3 : IntKind.i64.wrap (1 + (x3 : Int)) = (A3 : Int) := by rw [IntWalk.i64_in _ (by omega)]; omega
  have hb3 : (1 : Int) + (x3 : Int) = (A3 : Int) := by omega
  clear hp3 hA3
  repeat (first | go_values | go_skip | go_guarded | go_step | go_upon)
  clear ha3 hb3 hx3
  have hG3 : But b (b + 1) w w3 := ((((But.refl _ _ w).alloc _).trans hg1).trans hg2).trans hg3
  have LR : Loc w3 w.heap.size [.int .i64 0, .int .i64 0, .int .i64 0, .slice none 0 0] := (Loc.new w [.int .i64 0, .int .i64 0, .int .i64 0, .slice none 0 0] 25).cur ((hg1.trans hg2).trans hg3) hb
  have s3 := hG3.size
  go_at_call 69
  refine (one_ok _ b (K + 2 + 2 + 2) 24 (hC3.alloc _) (by omega) (by omega)).mono ?_
  rintro e w4 ⟨y4, rfl, hC4, hg4⟩
  dsimp only
  obtain ⟨T5, hT5⟩ : ∃ q, w3.heap.size = q := ⟨_, rfl⟩
  have LT : Loc w4 T5 [.int .i64 (A1 : Int), .int .i64 (A2 : Int), .int .i64 (A3 : Int), .slice none 0 0] := by rw [← hT5]; exact (Loc.new w3 [.int .i64 (A1 : Int), .int .i64 (A2 : Int), .int .i64 (A3 : Int), .slice none 0 0] 25).cur hg4 (by omega)
  have LR4 := (LR.alloc (.cells #[.int .i64 (A1 : Int), .int .i64 (A2 : Int), .int .i64 (A3 : Int), .slice none 0 0] 25)).cur hg4 hb
  have hG4 : But b (b + 1) w w4 := hG3.trans (((But.refl _ _ w3).alloc _).trans hg4)
  have s4 := hg4.size
  simp only [World.size_alloc] at s4
  have hRT : w.heap.size < T5 := by have := LR.lt; omega
  rw [hT5] at s4 s3 ⊢
  clear LR hG3 hg1 hg2 hg3 hg4 hC1 hC2 hC3 hT5 h
  go_upto_if 18 with fail
  go_cut [20] from 19 to 22 (fun _o wx => ∃ A : Nat, A ≤ 9 ∧ Hid (Loc wx T5 [.int .i64 (A : Int), .int .i64 (A2 : Int), .int .i64 (A3 : Int), .slice none 0 0]) ∧ Hid (Loc wx w.heap.size [.int .i64 0, .int .i64 0, .int .i64 0, .slice none 0 0]) ∧ Hid (CurOk wx b (K + 10)) ∧ Hid (But b (b + 1) w wx) ∧ T5 < wx.heap.size)
  case first =>
    cases y4
    · repeat (first | go_values | go_skip | go_guarded | go_step | go_upon)
      go_meet
      case rel => exact ⟨A1, by omega, LT, LR4, hC4.le (by omega), hG4, by omega⟩
    · repeat (first | go_values | go_skip | go_guarded | go_step | go_upon)
      go_at_call 70
      refine (among_ok _ b _ (K + 2 + 2 + 2 + 2) [0, 8, 9] (hC4.alloc _) (by omega) (by omega) (listed [0, 8, 9] 3) (by simp) (by simp) 3 rfl).mono ?_
      rintro e w5 ⟨z5, rfl, hz5, hC5, hg5⟩
      dsimp only
      have hz5' : ∃ A : Nat, z5 = (A : Int) ∧ A ≤ 9 := by
        simp only [List.mem_cons, List.not_mem_nil, or_false] at hz5
        rcases hz5 with rfl | rfl | rfl
        · exact ⟨0, rfl, by omega⟩
        · exact ⟨8, rfl, by omega⟩
        · exact ⟨9, rfl, by omega⟩
      obtain ⟨A, rfl, hA9⟩ := hz5'
      have LT5 := (LT.alloc (.cells #[.int .i64 0, .int .i64 8, .int .i64 9] 3)).cur hg5 (by omega)
      have LR5 := (LR4.alloc (.cells #[.int .i64 0, .int .i64 8, .int .i64 9] 3)).cur hg5 hb
      have hG5 : But b (b + 1) w w5 := hG4.trans (((But.refl _ _ w4).alloc _).trans hg5)
      have s5 := hg5.size
      simp only [World.size_alloc] at s5
      have t0 := LT5.cell 0 rfl
      have tf0 := LT5.frozen 0
      have hset := LT5.set 0 (.int .i64 (A : Int))
      simp only [List.set_cons_zero] at hset
      have HST : Hid (Loc (w5.setCell ⟨T5, 0, none⟩ (.int .i64 (A : Int))) T5 [.int .i64 (A : Int), .int .i64 (A2 : Int), .int .i64 (A3 : Int), .slice none 0 0] ∧ Loc (w5.setCell ⟨T5, 0, none⟩ (.int .i64 (A : Int))) w.heap.size [.int .i64 0, .int .i64 0, .int .i64 0, .slice none 0 0] ∧ CurOk (w5.setCell ⟨T5, 0, none⟩ (.int .i64 (A : Int))) b (K + 10) ∧ But b (b + 1) w (w5.setCell ⟨T5, 0, none⟩ (.int .i64 (A : Int)))) := ⟨hset, LR5.other (by omega) _, (hC5.le (by omega)).set (by omega) 0 _, hG5.setNew (by simp; omega) _⟩
      clear hset LT5 LR5 hC5 hg5 hG5 LT LR4 hG4 hC4
      repeat (first | go_values | go_skip | go_guarded | go_step | go_upon)
      go_meet
      case rel => exact ⟨A, hA9, HST.out.1, HST.out.2.1, HST.out.2.2.1, HST.out.2.2.2, by simp; omega⟩
  case rest =>
    obtain ⟨A, hA9, HT, HR, HC, HG, hTw⟩ := hcut
    repeat (first | go_values | go_skip | go_guarded | go_step | go_upon)
    go_at_call 68
    refine (pick_ok _ b (K + 10) 2 HC.out (by omega) (by omega)).mono ?_
    rintro e w6 ⟨p6, rfl, hp6, hC6, hg6⟩
    dsimp only
    obtain ⟨kd, hkd, hkl⟩ : ∃ q : Int, 1 + p6 = q ∧ (1 ≤ q ∧ q ≤ 2) := ⟨_, rfl, by omega⟩
    have hw6 : IntKind.i64.wrap (1 + p6) = kd := by rw [IntWalk.i64_in _ (by omega)]; exact hkd
    have HT6 : Loc w6 T5 [.int .i64 (A : Int), .int .i64 (A2 : Int), .int .i64 (A3 : Int), .slice none 0 0] := HT.out.cur hg6 (by omega)
    have HR6 : Loc w6 w.heap.size [.int .i64 0, .int .i64 0, .int .i64 0, .slice none 0 0] := HR.out.cur hg6 hb
    have hG6 : But b (b + 1) w w6 := HG.out.trans hg6
    have s6 := hg6.size
    have t0 := HT6.cell 0 rfl
    have t1 := HT6.cell 1 rfl
    have t2 := HT6.cell 2 rfl
    have hm1 : A * A2 ≤ 9 * 4 := Nat.mul_le_mul hA9 hAl2.2
    obtain ⟨AB, hAB⟩ : ∃ q, A * A2 = q := ⟨_, rfl⟩
    have hm2 : AB * A3 ≤ 36 * 4 := Nat.mul_le_mul (by omega) hAl3.2
    obtain ⟨N0, hN0⟩ : ∃ q, AB * A3 = q := ⟨_, rfl⟩
    have e1 : (A : Int) * (A2 : Int) = (AB : Int) := by rw [← hAB]; simp
    have e2 : (AB : Int) * (A3 : Int) = (N0 : Int) := by rw [← hN0]; simp
    have hABl : AB ≤ 36 := by omega
    have hN0l : N0 ≤ 144 := by omega
    have e3 : IntKind.i64.wrap ((A : Int) * (A2 : Int)) = (A : Int) * (A2 : Int) := by rw [e1, IntWalk.i64_in _ (by omega)]
    have e4 : IntKind.i64.wrap ((A : Int) * (A2 : Int) * (A3 : Int)) = (A : Int) * (A2 : Int) * (A3 : Int) := by rw [e1, e2, IntWalk.i64_in _ (by omega)]
    have e5 : IntKind.i64.wrap ((A : Int) * (A2 : Int) * (A3 : Int) + 1) = (A : Int) * (A2 : Int) * (A3 : Int) + 1 := by rw [e1, e2, IntWalk.i64_in _ (by omega)]
    have E12 : Hid ((A : Int) * (A2 : Int) * (A3 : Int) = (N0 : Int)) := by show _ = _; rw [e1, e2]
    clear e1 e2
    have hN : N0 ≤ 144 := by omega
    clear hAB hN0 hm1 hm2 hp6 hg6 HT HR HC HG
    repeat (first | go_values | go_skip | go_guarded | go_step | go_upon)
    clear e3 e4 hw6 hkd t0 t1 t2
    go_at_call 69
    refine (one_ok _ b (K + 10 + 2) 40 hC6 (by omega) (by omega)).mono ?_
    rintro e w7 ⟨y7, rfl, hC7, hg7⟩
    dsimp only
    have HT : Hid (Loc w7 T5 [.int .i64 (A : Int), .int .i64 (A2 : Int), .int .i64 (A3 : Int), .slice none 0 0]) := HT6.cur hg7 (by omega)
    have HR : Hid (Loc w7 w.heap.size [.int .i64 0, .int .i64 0, .int .i64 0, .slice none 0 0]) := HR6.cur hg7 hb
    have HG : Hid (But b (b + 1) w w7) := hG6.trans hg7
    have HC : Hid (CurOk w7 b (K + 14)) := hC7.le (by omega)
    have s7 := hg7.size
    clear HT6 HR6 hG6 hC6 hC7 hg7
    go_upto_if 35 with fail
    go_cut [5] from 36 to 37 (fun v5 wx => ∃ N : Nat, v5 = .int .i64 (N : Int) ∧ N ≤ 145 ∧ wx = w7)
    case first =>
      cases y7
      · repeat (first | go_values | go_skip | go_guarded | go_step | go_upon)
        go_meet
        case rel => exact ⟨N0, congrArg (Value.int IntKind.i64) E12.out, by omega, rfl⟩
      · repeat (first | go_values | go_skip | go_guarded | go_step | go_upon)
        go_meet
        case rel => exact ⟨N0 + 1, congrArg (Value.int IntKind.i64) (by have := E12.out; omega), by omega, rfl⟩
    case rest =>
      obtain ⟨N, rfl, hN1, rfl⟩ := hcut
      clear e5
      repeat (first | go_values | go_skip | go_guarded | go_step | go_upon)
      go_loopw [5] (fun y wr => ∃ (m : Nat) (l : List Int) (ao5 : Option Addr) (c5 : Nat), m + l.length = N ∧ y = .int .i64 m ∧ Hid (Loc wr T5 [.int .i64 (A : Int), .int .i64 (A2 : Int), .int .i64 (A3 : Int), .slice ao5 l.length c5]) ∧ Hid (Loc wr w.heap.size [.int .i64 0, .int .i64 0, .int .i64 0, .slice none 0 0]) ∧ Hid (wr.ownsRow (T5 + 1) 3 1 (.slice ao5 l.length c5) l.length (l.flatMap numC)) ∧ Hid (CurOk wr b (K + 14 + 8 * (l.length : Int))) ∧ Hid (But b (b + 1) w wr) ∧ T5 < wr.heap.size) (fun y _ => (intOf y).toNat)
      case atStart => exact ⟨N, [], none, 0, by simp, rfl, HT, HR, (World.ownsRow_nil _ _ _ _ : World.ownsRow _ _ _ _ _ _ _), (by simpa using HC.out : CurOk _ _ _), HG, by omega⟩
      case round =>
        clear HT HR HC HG
        obtain ⟨m, l, ao5, c5, hm, rfl, HT, HR, HRow, HC, HG, hTw⟩ := hrel
        have HM : Hid (m + l.length = N) := hm
        have hll : l.length ≤ 145 := by omega
        clear hm
        by_cases hpos : 0 < m
        · have dp : decide ((0 : Int) < (m : Int)) = true := by simp; omega
          have dp2 : decide (0 < m) = true := by simp; omega
          repeat (first | go_values | go_skip | go_guarded | go_step | go_upon)
          clear dp dp2
          go_at_call 69
          refine (one_ok _ b (K + 14 + 8 * (l.length : Int)) 3 HC.out (by omega) (by omega)).mono ?_
          rintro e w8 ⟨y8, rfl, hC8, hg8⟩
          dsimp only
          have HT : Hid (Loc w8 T5 [.int .i64 (A : Int), .int .i64 (A2 : Int), .int .i64 (A3 : Int), .slice ao5 l.length c5]) := HT.out.cur hg8 (by omega)
          have HR : Hid (Loc w8 w.heap.size [.int .i64 0, .int .i64 0, .int .i64 0, .slice none 0 0]) := HR.out.cur hg8 hb
          have HG : Hid (But b (b + 1) w w8) := HG.out.trans hg8
          have HRow : Hid (w8.ownsRow (T5 + 1) 3 1 (.slice ao5 l.length c5) l.length (l.flatMap numC)) := own_but HRow.out hg8 (fun g hg => by have := own_lt HRow.out hg; omega)
          have HC : Hid (CurOk w8 b (K + 14 + 8 * (l.length : Int) + 2)) := hC8
          have s8 := hg8.size
          clear hC8 hg8
          go_upto_if 44 with fail
          go_cut [6] from 45 to 48 (fun v6 wx => ∃ k6 : Int, v6 = .int .i64 k6 ∧ Hid (CurOk wx b (K + 14 + 8 * (l.length : Int) + 4)) ∧ Hid (But b (b + 1) w8 wx))
          case first =>
            cases y8
            · repeat (first | go_values | go_skip | go_guarded | go_step | go_upon)
              go_at_call 68
              refine (pick_any _ b _ kd HC.out (by omega) hkl.1).mono ?_
              rintro e w9 ⟨p9, rfl, hp9, hC9, hg9⟩
              dsimp only
              have hw9 : IntKind.i64.wrap (1 + p9) = 1 + p9 := by rw [IntWalk.i64_in _ (by omega)]
              repeat (first | go_values | go_skip | go_guarded | go_step | go_upon)
              go_meet
              case rel => exact ⟨1 + p9, by first | rfl | (congr 1), hC9.le (by omega), hg9⟩
            · repeat (first | go_values | go_skip | go_guarded | go_step | go_upon)
              go_meet
              case rel => exact ⟨0, rfl, HC.out.le (by omega), But.refl _ _ _⟩
          case rest =>
            obtain ⟨k6, rfl, HC6, HG6⟩ := hcut
            refine forgetK (fun u => u = _) rfl ?_
            intro w9 hw9
            rw [← hw9] at HC6 HG6
            clear hw9
            have hg9 := HG6.out
            have HT : Hid (Loc w9 T5 [.int .i64 (A : Int), .int .i64 (A2 : Int), .int .i64 (A3 : Int), .slice ao5 l.length c5]) := HT.out.cur hg9 (by omega)
            have HR : Hid (Loc w9 w.heap.size [.int .i64 0, .int .i64 0, .int .i64 0, .slice none 0 0]) := HR.out.cur hg9 hb
            have HG : Hid (But b (b + 1) w w9) := HG.out.trans hg9
            have HRow : Hid (w9.ownsRow (T5 + 1) 3 1 (.slice ao5 l.length c5) l.length (l.flatMap numC)) := own_but HRow.out hg9 (fun g hg => by have := own_lt HRow.out hg; omega)
            have s9 := hg9.size
            clear hg9 HG6 HC
            repeat (first | go_values | go_skip | go_guarded | go_step | go_upon)
            go_at_call 69
            refine (one_ok _ b (K + 14 + 8 * (l.length : Int) + 4) 2000 HC6.out (by omega) (by omega)).mono ?_
            rintro e w10 ⟨y10, rfl, hC10, hg10⟩
            dsimp only
            have HT : Hid (Loc w10 T5 [.int .i64 (A : Int), .int .i64 (A2 : Int), .int .i64 (A3 : Int), .slice ao5 l.length c5]) := HT.out.cur hg10 (by omega)
            have HR : Hid (Loc w10 w.heap.size [.int .i64 0, .int .i64 0, .int .i64 0, .slice none 0 0]) := HR.out.cur hg10 hb
            have HG : Hid (But b (b + 1) w w10) := HG.out.trans hg10
            have HRow : Hid (w10.ownsRow (T5 + 1) 3 1 (.slice ao5 l.length c5) l.length (l.flatMap numC)) := own_but HRow.out hg10 (fun g hg => by have := own_lt HRow.out hg; omega)
            have HC10 : Hid (CurOk w10 b (K + 14 + 8 * (l.length : Int) + 6)) := hC10.le (by omega)
            have s10 := hg10.size
            clear hg10 hC10 HC6
            go_upto_if 50 with fail
            go_cut [6] from 51 to 53 (fun v6 wx => ∃ k7 : Int, v6 = .int .i64 k7 ∧ Hid (CurOk wx b (K + 14 + 8 * (l.length : Int) + 8)) ∧ Hid (But b (b + 1) w10 wx))
            case first =>
              cases y10
              · repeat (first | go_values | go_skip | go_guarded | go_step | go_upon)
                go_meet
                case rel => exact ⟨k6, rfl, HC10.out.le (by omega), But.refl _ _ _⟩
              · repeat (first | go_values | go_skip | go_guarded | go_step | go_upon)
                go_at_call 70
                refine (among_ok _ b _ (K + 14 + 8 * (l.length : Int) + 6) [-1, 9, 10] (HC10.out.alloc _) (by omega) (by omega) (listed [-1, 9, 10] 3) (by simp) (by simp) 3 rfl).mono ?_
                rintro e w11 ⟨z11, rfl, hz11, hC11, hg11⟩
                dsimp only
                repeat (first | go_values | go_skip | go_guarded | go_step | go_upon)
                go_meet
                case rel => exact ⟨z11, rfl, hC11.le (by omega), ((But.refl _ _ _).alloc _).trans hg11⟩
            case rest =>
              obtain ⟨k7, rfl, HC7, HG7⟩ := hcut
              refine forgetK (fun u => u = _) rfl ?_
              intro w12 hw12
              rw [← hw12] at HC7 HG7
              clear hw12
              have hg12 := HG7.out
              have HT : Hid (Loc w12 T5 [.int .i64 (A : Int), .int .i64 (A2 : Int), .int .i64 (A3 : Int), .slice ao5 l.length c5]) := HT.out.cur hg12 (by omega)
              have HR : Hid (Loc w12 w.heap.size [.int .i64 0, .int .i64 0, .int .i64 0, .slice none 0 0]) := HR.out.cur hg12 hb
              have HG : Hid (But b (b + 1) w w12) := HG.out.trans hg12
              have HRow : Hid (w12.ownsRow (T5 + 1) 3 1 (.slice ao5 l.length c5) l.length (l.flatMap numC)) := own_but HRow.out hg12 (fun g hg => by have := own_lt HRow.out hg; omega)
              have s12 := hg12.size
              clear hg12 HG7 HC10
              have t3 := HT.out.cell 3 rfl
              repeat (first | (at_builtin; refine forgetL (fun w' => w' = _) rfl ?_) | go_values | go_skip | go_guarded | go_step | go_upon)
              intro W7 hW7
              have k7' : Kept w12 W7 := by rw [hW7]; exact (But.refl _ _ _).alloc _
              have N7 : Loc W7 w12.heap.size [.int .i64 k7] := by rw [hW7]; exact Loc.new w12 _ _
              have s7' := k7'.size
              have hRow7 := own_kept HRow.out k7'
              clear hW7 t3
              refine wpList_append_own _ rfl _ _ 23 rfl (T5 + 1) 3 i0 (.int .i64 0) 1 8 Try.underlying23 hi0 hz0 hz1 hz2 rfl (by decide) (.slice ao5 l.length c5) l.length (l.flatMap numC) rfl hRow7 ⟨w12.heap.size, 0, none⟩ 1 1 [.int .i64 k7] rfl rfl (news1 N7) (by simp [Value.oneCell']) (by unfold maxLen; omega) (by omega) (by omega) ?_
              intro v' W8 hown' hgrow _
              obtain ⟨ao6, c6, hf6, _⟩ := own_form hown'
              subst hf6
              have hne : ∀ g, g ≤ T5 → (Value.slice ao5 l.length c5).ownBlock ≠ some g := fun g hg e => by have := own_lt hRow7 e; omega
              have LT8 := (HT.out.kept k7').grown hgrow (hne _ (Nat.le_refl _))
              have LR8 := (HR.out.kept k7').grown hgrow (hne _ (by omega))
              have k8 : But (T5 + 1) W7.heap.size W7 W8 := (But.refl _ _ _).grown hgrow (fun x hx => .inr (own_lt hRow7 hx))
              have C8 := (HC7.out.kept k7').but k8 (by omega)
              have G8 : But b (b + 1) w W8 := (HG.out.transK k7').grown hgrow (fun x hx => .inl (by have := own_lt hRow7 hx; omega))
              have s8' := hgrow.size
              have x3 := LT8.cell 3 rfl
              have xf3 := LT8.frozen 3
              have hset := LT8.set 3 (.slice ao6 (l.length + 1) c6)
              simp only [List.set_cons_zero, List.set_cons_succ] at hset
              have HZ : Hid (Loc (W8.setCell ⟨T5, 3, none⟩ (.slice ao6 (l.length + 1) c6)) T5 [.int .i64 (A : Int), .int .i64 (A2 : Int), .int .i64 (A3 : Int), .slice ao6 (l.length + 1) c6] ∧ Loc (W8.setCell ⟨T5, 3, none⟩ (.slice ao6 (l.length + 1) c6)) w.heap.size [.int .i64 0, .int .i64 0, .int .i64 0, .slice none 0 0] ∧ CurOk (W8.setCell ⟨T5, 3, none⟩ (.slice ao6 (l.length + 1) c6)) b (K + 14 + 8 * (l.length : Int) + 8) ∧ But b (b + 1) w (W8.setCell ⟨T5, 3, none⟩ (.slice ao6 (l.length + 1) c6)) ∧ World.ownsRow (W8.setCell ⟨T5, 3, none⟩ (.slice ao6 (l.length + 1) c6)) (T5 + 1) 3 1 (.slice ao6 (l.length + 1) c6) (l.length + 1) ((l ++ [k7]).flatMap numC)) := ⟨hset, LR8.other (by omega) _, C8.set (by omega) 3 _, G8.setNew (by simp; omega) _, own_but (lo := T5) (hi := T5 + 1) (by rw [List.flatMap_append]; exact hown') ((But.refl _ _ _).setCell (by simp) (by simp) _) (fun g hg => by have := own_lt hown' hg; omega)⟩
              clear hset LT8 LR8 C8 G8 k8 hown' hgrow hRow7 N7 k7' hne HT HR HG HRow HC7
              obtain ⟨m', hm'⟩ : ∃ m', m = m' + 1 := ⟨m - 1, by omega⟩
              have hw1 : IntKind.i64.wrap ((m : Int) - 1) = (m' : Int) := by rw [IntWalk.i64_in _ (by have := HM.out; omega)]; omega
              have HM' : Hid (m = m' + 1) := hm'
              clear hm' hpos
              dsimp only
              repeat (first | go_values | go_skip | go_guarded | go_step | go_upon)
              refine ⟨⟨m', l ++ [k7], ao6, c6, by have := HM.out; have := HM'.out; simp; omega, by first | rfl | (congr 1), ?_, HZ.out.2.1, ?_, ?_, HZ.out.2.2.2.1, by simp; omega⟩, by have := HM'.out; simp [intOf]; omega⟩
              · show Loc _ _ _
                rw [List.length_append]; exact HZ.out.1
              · show World.ownsRow _ _ _ _ _ _ _
                rw [List.length_append]; exact HZ.out.2.2.2.2
              · show CurOk _ _ _
                refine HZ.out.2.2.1.le ?_
                rw [List.length_append]; simp; omega
        · have hm0 : m = 0 := by omega
          subst hm0
          have LT := HT.out
          have LR := HR.out
          have t0 := LT.cell 0 rfl
          have t1 := LT.cell 1 rfl
          have t2 := LT.cell 2 rfl
          have t3 := LT.cell 3 rfl
          have u0 := LR.cell 0 rfl
          have u1' := LR.cell 1 rfl
          have u2' := LR.cell 2 rfl
          have u3' := LR.cell 3 rfl
          have uf0 := LR.frozen 0
          have uf1 := LR.frozen 1
          have uf2 := LR.frozen 2
          have uf3 := LR.frozen 3
          clear LT LR
          repeat (first | go_values | go_skip | go_guarded | go_step | go_upon)
          refine bodyPost_ret (v := .agg #[.int .i64 (A : Int), .int .i64 (A2 : Int), .int .i64 (A3 : Int), .slice ao5 l.length c5]) (by simp [results, Try.results60, go_sem, u0, u1', u2', u3']) rfl ?_
          have hrow := RowO.top HRow.out
          refine ⟨_, _, _, l, _, rfl, by omega, ?_, ?_, ?_⟩
          · exact ((NumO.but (lo' := w.heap.size) (hi' := w.heap.size + 1) hrow (by (repeat (first | with_reducible exact But.refl _ _ _ | (with_reducible refine But.setCell ?_ (by simp; try omega) (by simp; try omega) _)))) (.inr (by omega))).mono (by omega) (Nat.le_refl _)).low
          · exact ((((HC.out.le (by omega)).set hb 0 _).set hb 1 _).set hb 2 _).set hb 3 _
          · (repeat (first | with_reducible exact HG.out | (with_reducible refine But.setNew ?_ (by simp; try omega) _)))

end Go.Proofs.Ytnfkgnbhdhpnmaa
