/-
  A reader on the wire gives a number.
-/
import Derived.Test.YtaadlhcpgjibeaaNext23
import Derived.Laws.BitsLemmas
namespace Go.Proofs.Ytaadlhcpgjibeaa
open Go.ChangeShapes Go.WideShapes Go.ChangeAt Go.RowKit

set_option maxRecDepth 100000
set_option linter.unusedVariables false
set_option linter.unusedSimpArgs false

theorem lor_bit (N B : Nat) (hN : N < 4294967296) (hB : B < 2) : bits .or .i64 (2 * (N : Int)) (B : Int) = ((2 * N + B : Nat) : Int) := by
  rw [bits_join .i64 40 (by decide) (fun n h1 h2 => IntWalk.i64_in _ (by omega)) 1 _ _ (by omega) (by omega) (by omega) (by omega) (by omega) (by omega)]
  simp
set_option maxHeartbeats 4000000 in
theorem inum (l : List UInt8) (n k m br wb : Nat) (ao : Option Addr) (cap : Nat) (lk : Bool) (W0 w : World) (hk : k ≤ n) (hn : n ≤ 4000) (hl : n ≤ 8 * l.length) (hm : m ≤ 32) (hZ : ∀ j, n ≤ j → bitAt l j = 0)
    (hr : BytAt W0 (.slice ao l.length cap) l) (K0 : Kept W0 w) (h1 : W0.heap.size ≤ br) (h2 : W0.heap.size ≤ wb) (h3 : br ≠ wb)
    (hL : Loc w br [.int .i64 (n : Int), .slice ao l.length cap, .int .i64 (k : Int)]) (hW : Loc w wb [.iface 51 (.pointer (some ⟨br, 0, none⟩)), .bool lk]) :
    Calls Try.prog 30 #[.pointer (some ⟨wb, 0, none⟩), .int .i64 (m : Int)] w fun e w' => e = .returned (.int .i64 (takeN l k m : Nat)) ∧ Kept W0 w' ∧ w.heap.size ≤ w'.heap.size ∧
      Loc w' br [.int .i64 (n : Int), .slice ao l.length cap, .int .i64 ((min n (k + m) : Nat) : Int)] ∧ Loc w' wb [.iface 51 (.pointer (some ⟨br, 0, none⟩)), .bool (lk || decide (n < k + m))] := by
  go_enter Try.func30, Try.ntmps30
  repeat (first | go_values | go_skip | go_guarded | go_step | go_upon)
  go_loopw [5, 9] (fun v i wr => ∃ j : Nat, j ≤ m ∧ v = .int .i64 (takeN l k j : Nat) ∧ i = .int .i64 (j : Int) ∧ Kept W0 wr ∧ w.heap.size ≤ wr.heap.size ∧ Hid (Loc wr br [.int .i64 (n : Int), .slice ao l.length cap, .int .i64 ((min n (k + j) : Nat) : Int)]) ∧ Hid (Loc wr wb [.iface 51 (.pointer (some ⟨br, 0, none⟩)), .bool (lk || decide (n < k + j))])) (fun _ i _ => m - (intOf i).toNat)
  case atStart => exact ⟨0, by omega, rfl, rfl, K0, Nat.le_refl _, by rw [Nat.add_zero, Nat.min_eq_right hk]; exact hL, by rw [Nat.add_zero, decide_eq_false (by omega), Bool.or_false]; exact hW⟩
  case round =>
    obtain ⟨j, hj, rfl, rfl, KR, hsz, HL, HW⟩ := hrel
    by_cases hlt : j < m
    · rcases Nat.lt_or_ge (k + j) n with hy | hy
      · -- a bit is there
        have e1 : min n (k + j) = k + j := by omega
        have e2 : min n (k + (j + 1)) = k + j + 1 := by omega
        have e3 : decide (n < k + j) = false := decide_eq_false (by omega)
        have e4 : decide (n < k + (j + 1)) = false := decide_eq_false (by omega)
        have HL := HL.out
        have HW := HW.out
        rw [e1] at HL
        rw [e3, Bool.or_false] at HW
        have HB : Hid (bitAt l (k + j) < 2) := bitAt_lt l (k + j)
        have HT : Hid (takeN l k (j + 1) = 2 * takeN l k j + bitAt l (k + j)) := rfl
        have E2 : Hid _ := e2
        obtain ⟨q, hq⟩ : ∃ q, lk = q := ⟨_, rfl⟩
        rw [hq] at HW
        have HF : Hid ((lk || decide (n < k + (j + 1))) = q) := by show _ = _; rw [e4, hq, Bool.or_false]
        clear hq e1 e2 e4 e3
        have c0 := HW.cell 0 rfl
        obtain ⟨N, hN⟩ : ∃ N, takeN l k j = N := ⟨_, rfl⟩
        have hN1 : N < 4294967296 := hN ▸ takeN_le _ _ _ _ hj hm
        rw [hN] at HT ⊢
        clear hN
        repeat (first | go_values | go_skip | go_guarded | go_step | go_upon)
        refine (inext l _ (k + j) br ao cap wr (by omega) (by omega) (by omega) HL (hr.kept KR)).mono ?_
        rintro e w3 ⟨rfl, k3, L3⟩
        have s3 := k3.size
        have KR3 := KR.onto k3 h1
        have W3 := HW.but k3 (by omega)
        obtain ⟨B, hB⟩ : ∃ B, bitAt l (k + j) = B := ⟨_, rfl⟩
        rw [hB] at HB HT ⊢
        clear hB
        clear k3 HL HW c0 KR
        have c0 := W3.cell 0 rfl
        have c1 := W3.cell 1 rfl
        have hf1 := W3.frozen 1
        have g3 := L3.lt
        have g4 := W3.lt
        have KR3 : Hid _ := KR3
        have L3 : Hid _ := L3
        have W3 : Hid _ := W3
        dsimp only
        have hj1 : j + 1 ≤ m := hlt
        have hn0 : W0.heap.size ≤ w3.heap.size := by omega
        rcases q with _ | _
        all_goals
          repeat (first | go_values | go_skip | go_guarded | go_step | go_upon)
          refine ⟨⟨j + 1, hj1, ?_, by simp, KR3.out.setNew h2 _, by simp; omega, ?_, ?_⟩, by simp [intOf]; omega⟩
          · rw [HT.out, Int.mul_comm, lor_bit N B hN1 HB.out]
          · rw [E2.out]; exact Loc.other L3.out h3 _
          · rw [HF.out]; exact Loc.set W3.out 1 _
      · -- none is left
        have e1 : min n (k + j) = n := by omega
        have e2 : min n (k + (j + 1)) = n := by omega
        have e4 : decide (n < k + (j + 1)) = true := decide_eq_true (by omega)
        have HL := HL.out
        have HW := HW.out
        rw [e1] at HL
        have HT : Hid (takeN l k (j + 1) = 2 * takeN l k j + 0) := by show takeN l k (j + 1) = _; rw [takeN, hZ (k + j) (by omega)]
        obtain ⟨q, hq⟩ : ∃ q, (lk || decide (n < k + j)) = q := ⟨_, rfl⟩
        rw [hq] at HW
        have E2 : Hid _ := e2
        have HF : Hid ((lk || decide (n < k + (j + 1))) = true) := by show _ = _; rw [e4, Bool.or_true]
        clear hq e1 e2 e4
        have c0 := HW.cell 0 rfl
        obtain ⟨N, hN⟩ : ∃ N, takeN l k j = N := ⟨_, rfl⟩
        have hN1 : N < 4294967296 := hN ▸ takeN_le _ _ _ _ hj hm
        rw [hN] at HT ⊢
        clear hN
        repeat (first | go_values | go_skip | go_guarded | go_step | go_upon)
        refine (inext_end l _ n br ao cap wr rfl HL).mono ?_
        rintro e w3 ⟨rfl, k3⟩
        have s3 := k3.size
        have KR3 := KR.trans k3
        have W3 := HW.kept k3
        have L3 := HL.kept k3
        clear k3 HL HW c0 KR
        have c0 := W3.cell 0 rfl
        have c1 := W3.cell 1 rfl
        have hf1 := W3.frozen 1
        have g3 := L3.lt
        have g4 := W3.lt
        have KR3 : Hid _ := KR3
        have L3 : Hid _ := L3
        have W3 : Hid _ := W3
        dsimp only
        have hj1 : j + 1 ≤ m := hlt
        have hn0 : W0.heap.size ≤ w3.heap.size := by omega
        rcases q with _ | _
        all_goals
          repeat (first | go_values | go_skip | go_guarded | go_step | go_upon)
          refine ⟨⟨j + 1, hj1, ?_, by simp, KR3.out.setNew h2 _, by simp; omega, ?_, ?_⟩, by simp [intOf]; omega⟩
          · rw [HT.out, Int.mul_comm, show (0 : Int) = ((0 : Nat) : Int) from rfl, lor_bit N 0 hN1 (by omega)]
          · rw [E2.out]; exact Loc.other L3.out h3 _
          · rw [HF.out]; exact Loc.set W3.out 1 _
    · have hjm : j = m := by omega
      subst hjm
      repeat (first | go_values | go_skip | go_guarded | go_step | go_upon)
      go_ret
      exact ⟨rfl, KR, hsz, HL.out, HW.out⟩

end Go.Proofs.Ytaadlhcpgjibeaa
