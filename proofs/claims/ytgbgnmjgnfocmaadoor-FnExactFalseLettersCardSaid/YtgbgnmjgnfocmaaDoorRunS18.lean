/-
  The rune at the front of a text, in the specification.
-/
import Derived.Test.YtgbgnmjgnfocmaaDoorRunP18
namespace Go.Proofs.YtgbgnmjgnfocmaaDoor
open Go.ChangeShapes Go.WideShapes Go.ChangeAt Go.RowKit

set_option maxRecDepth 100000
set_option linter.unusedVariables false

theorem ret_pair {a b a' b' : Int} (h1 : a = a') (h2 : b = b') : Ending.returned (.tuple #[.int .i64 a, .int .i64 b]) = .returned (.tuple #[.int .i64 a', .int .i64 b']) := by rw [h1, h2]
theorem ix_str (s : ByteArray) (i : Nat) (j : Int) (hj : j = (i : Int)) (h : i < s.size) (W : World) : (Instr.index 9 (.string s) (.int .i64 j)).run Tryd.prog W = .ok (.int .u8 (byt s i)) W := by
  subst hj
  rw [run_index_string W 9 s .i64 (i : Int) Tryd.underlying9, dif_pos ⟨by omega, by omega⟩, byt_ix s i h]
  simp
set_option maxHeartbeats 16000000 in
theorem srune (s : ByteArray) (w : World) (h0 : 0 < s.size) (hs : s.size ≤ 1048576) :
    Calls Tryd.prog 12 #[.string s] w fun e w' => e = .returned (.tuple #[.int .i64 (((runM s 0).1 : Nat) : Int), .int .i64 (((runM s 0).2 : Nat) : Int)]) ∧ w' = w := by
  have ix0 : ∀ W, (Instr.index 9 (.string s) (.int .i64 0)).run Tryd.prog W = .ok (.int .u8 (byt s 0)) W := fun W => ix_str s 0 0 rfl h0 W
  obtain ⟨R, hR⟩ : ∃ R, runM s 0 = R := ⟨_, rfl⟩
  rw [hR]
  have HR : Hid (runM s 0 = R) := hR
  clear hR
  obtain ⟨c0, c0'⟩ := byt_bd s 0
  obtain ⟨c1, c1'⟩ := byt_bd s 1
  obtain ⟨c2, c2'⟩ := byt_bd s 2
  obtain ⟨c3, c3'⟩ := byt_bd s 3
  by_cases r0 : byt s 0 < 128
  · have dA : decide (byt s 0 < 128) = true := decide_eq_true (by omega)
    have hR := HR.out.symm.trans (run_ascii r0)
    subst hR
    clear HR
    go_enter Tryd.func12, Tryd.ntmps12
    go_wp2
    go_ret2
    exact ⟨ret_pair (Int.toNat_of_nonneg c0).symm rfl, rfl⟩
  by_cases r1 : byt s 0 ≤ 193
  · have dA : decide (byt s 0 < 128) = false := decide_eq_false (by omega)
    have dB : decide (194 ≤ byt s 0) = false := decide_eq_false (by omega)
    have dD : decide (224 ≤ byt s 0) = false := decide_eq_false (by omega)
    have dF : decide (240 ≤ byt s 0) = false := decide_eq_false (by omega)
    have hR := HR.out.symm.trans (run_none (.inl ⟨by omega, by omega⟩))
    subst hR
    clear HR
    go_enter Tryd.func12, Tryd.ntmps12
    go_wp2
    go_ret2
    exact ⟨rfl, rfl⟩
  by_cases r2 : byt s 0 ≤ 223
  · have dA : decide (byt s 0 < 128) = false := decide_eq_false (by omega)
    have dB : decide (194 ≤ byt s 0) = true := decide_eq_true (by omega)
    have dC : decide (byt s 0 ≤ 223) = true := decide_eq_true (by omega)
    have HRG : 194 ≤ byt s 0 ∧ byt s 0 ≤ 223 := ⟨by omega, by omega⟩
    by_cases hz : s.size < 2
    · have dS : decide ((s.size : Int) < 2) = true := decide_eq_true (by omega)
      have hR := HR.out.symm.trans (run2_short HRG hz)
      subst hR
      clear HR
      go_enter Tryd.func12, Tryd.ntmps12
      go_wp2
      go_ret2
      exact ⟨rfl, rfl⟩
    have dS : decide ((s.size : Int) < 2) = false := decide_eq_false (by omega)
    have ix1 : ∀ W, (Instr.index 9 (.string s) (.int .i64 1)).run Tryd.prog W = .ok (.int .u8 (byt s 1)) W := fun W => ix_str s 1 1 rfl (by omega) W
    go_enter Tryd.func12, Tryd.ntmps12
    go_wp2
    clear dS
    go_loopw [6, 7] (fun x i wr => wr = w ∧ ((i = .int .i64 1 ∧ x = .int .i64 (byt s 0 - 192)) ∨ (i = .int .i64 2 ∧ x = .int .i64 ((byt s 0 - 192) * 64 + byt s 1 - 128) ∧ Hid (128 ≤ byt s 1 ∧ byt s 1 ≤ 191)))) (fun x i _ => 4 - (intOf i).toNat)
    case atStart => exact ⟨rfl, .inl ⟨rfl, rfl⟩⟩
    case round =>
      obtain ⟨rfl, hh⟩ := hrel
      rcases hh with ⟨rfl, rfl⟩ | ⟨rfl, rfl, H1⟩
      · by_cases q : byt s 1 < 128
        · have dq : decide (byt s 1 < 128) = true := decide_eq_true q
          have hR := HR.out.symm.trans (run2_c1 HRG (.inl q))
          subst hR
          clear HR
          go_wp2
          go_ret2
          exact ⟨rfl, rfl⟩
        have dq : decide (byt s 1 < 128) = false := decide_eq_false q
        by_cases q' : 191 < byt s 1
        · have dq' : decide (191 < byt s 1) = true := decide_eq_true q'
          have hR := HR.out.symm.trans (run2_c1 HRG (.inr q'))
          subst hR
          clear HR
          go_wp2
          go_ret2
          exact ⟨rfl, rfl⟩
        have dq' : decide (191 < byt s 1) = false := decide_eq_false q'
        have HC : Hid (128 ≤ byt s 1 ∧ byt s 1 ≤ 191) := show 128 ≤ byt s 1 ∧ byt s 1 ≤ 191 from ⟨by omega, by omega⟩
        go_wp2
        exact ⟨⟨by trivial, .inr (⟨by go_num, rfl, HC⟩)⟩, by simp [intOf]⟩
      · have hR := HR.out.symm.trans (run2_ok HRG (by omega) H1.out)
        subst hR
        clear HR
        go_wp2
        go_ret2
        exact ⟨ret_pair (by have := HRG; have := H1.out; omega) rfl, rfl⟩
  by_cases r3 : byt s 0 ≤ 239
  · have dA : decide (byt s 0 < 128) = false := decide_eq_false (by omega)
    have dB : decide (194 ≤ byt s 0) = true := decide_eq_true (by omega)
    have dC : decide (byt s 0 ≤ 223) = false := decide_eq_false (by omega)
    have dD : decide (224 ≤ byt s 0) = true := decide_eq_true (by omega)
    have dE : decide (byt s 0 ≤ 239) = true := decide_eq_true (by omega)
    have HRG : 224 ≤ byt s 0 ∧ byt s 0 ≤ 239 := ⟨by omega, by omega⟩
    by_cases hz : s.size < 3
    · have dS : decide ((s.size : Int) < 3) = true := decide_eq_true (by omega)
      have hR := HR.out.symm.trans (run3_short HRG hz)
      subst hR
      clear HR
      go_enter Tryd.func12, Tryd.ntmps12
      go_wp2
      go_ret2
      exact ⟨rfl, rfl⟩
    have dS : decide ((s.size : Int) < 3) = false := decide_eq_false (by omega)
    have ix1 : ∀ W, (Instr.index 9 (.string s) (.int .i64 1)).run Tryd.prog W = .ok (.int .u8 (byt s 1)) W := fun W => ix_str s 1 1 rfl (by omega) W
    have ix2 : ∀ W, (Instr.index 9 (.string s) (.int .i64 2)).run Tryd.prog W = .ok (.int .u8 (byt s 2)) W := fun W => ix_str s 2 2 rfl (by omega) W
    go_enter Tryd.func12, Tryd.ntmps12
    go_wp2
    clear dS
    go_loopw [6, 7] (fun x i wr => wr = w ∧ ((i = .int .i64 1 ∧ x = .int .i64 (byt s 0 - 224)) ∨ (i = .int .i64 2 ∧ x = .int .i64 ((byt s 0 - 224) * 64 + byt s 1 - 128) ∧ Hid (128 ≤ byt s 1 ∧ byt s 1 ≤ 191)) ∨ (i = .int .i64 3 ∧ x = .int .i64 (((byt s 0 - 224) * 64 + byt s 1 - 128) * 64 + byt s 2 - 128) ∧ Hid (128 ≤ byt s 1 ∧ byt s 1 ≤ 191) ∧ Hid (128 ≤ byt s 2 ∧ byt s 2 ≤ 191)))) (fun x i _ => 4 - (intOf i).toNat)
    case atStart => exact ⟨rfl, .inl ⟨rfl, rfl⟩⟩
    case round =>
      obtain ⟨rfl, hh⟩ := hrel
      rcases hh with ⟨rfl, rfl⟩ | ⟨rfl, rfl, H1⟩ | ⟨rfl, rfl, H1, H2⟩
      · by_cases q : byt s 1 < 128
        · have dq : decide (byt s 1 < 128) = true := decide_eq_true q
          have hR := HR.out.symm.trans (run3_c1 HRG (.inl q))
          subst hR
          clear HR
          go_wp2
          go_ret2
          exact ⟨rfl, rfl⟩
        have dq : decide (byt s 1 < 128) = false := decide_eq_false q
        by_cases q' : 191 < byt s 1
        · have dq' : decide (191 < byt s 1) = true := decide_eq_true q'
          have hR := HR.out.symm.trans (run3_c1 HRG (.inr q'))
          subst hR
          clear HR
          go_wp2
          go_ret2
          exact ⟨rfl, rfl⟩
        have dq' : decide (191 < byt s 1) = false := decide_eq_false q'
        have HC : Hid (128 ≤ byt s 1 ∧ byt s 1 ≤ 191) := show 128 ≤ byt s 1 ∧ byt s 1 ≤ 191 from ⟨by omega, by omega⟩
        go_wp2
        exact ⟨⟨by trivial, .inr (.inl ⟨by go_num, rfl, HC⟩)⟩, by simp [intOf]⟩
      · by_cases q : byt s 2 < 128
        · have dq : decide (byt s 2 < 128) = true := decide_eq_true q
          have hR := HR.out.symm.trans (run3_c2 HRG (.inl q))
          subst hR
          clear HR
          go_wp2
          go_ret2
          exact ⟨rfl, rfl⟩
        have dq : decide (byt s 2 < 128) = false := decide_eq_false q
        by_cases q' : 191 < byt s 2
        · have dq' : decide (191 < byt s 2) = true := decide_eq_true q'
          have hR := HR.out.symm.trans (run3_c2 HRG (.inr q'))
          subst hR
          clear HR
          go_wp2
          go_ret2
          exact ⟨rfl, rfl⟩
        have dq' : decide (191 < byt s 2) = false := decide_eq_false q'
        have HC : Hid (128 ≤ byt s 2 ∧ byt s 2 ≤ 191) := show 128 ≤ byt s 2 ∧ byt s 2 ≤ 191 from ⟨by omega, by omega⟩
        go_wp2
        exact ⟨⟨by trivial, .inr (.inr (⟨by go_num, rfl, H1, HC⟩))⟩, by simp [intOf]⟩
      · by_cases q : ((byt s 0 - 224) * 64 + byt s 1 - 128) * 64 + byt s 2 - 128 < 2048
        · have dq : decide (((byt s 0 - 224) * 64 + byt s 1 - 128) * 64 + byt s 2 - 128 < 2048) = true := decide_eq_true q
          have hR := HR.out.symm.trans (run3_low HRG H1.out H2.out q)
          subst hR
          clear HR
          repeat (first | go_values | go_skip | go_guarded | go_step | go_upon)
          go_ret2
          exact ⟨rfl, rfl⟩
        have dq : decide (((byt s 0 - 224) * 64 + byt s 1 - 128) * 64 + byt s 2 - 128 < 2048) = false := decide_eq_false q
        rcases (Decidable.em (55296 ≤ ((byt s 0 - 224) * 64 + byt s 1 - 128) * 64 + byt s 2 - 128 ∧ ((byt s 0 - 224) * 64 + byt s 1 - 128) * 64 + byt s 2 - 128 ≤ 57343)) with q' | q'
        · have dI : decide (55296 ≤ ((byt s 0 - 224) * 64 + byt s 1 - 128) * 64 + byt s 2 - 128 ∧ ((byt s 0 - 224) * 64 + byt s 1 - 128) * 64 + byt s 2 - 128 ≤ 57343) = true := decide_eq_true q'
          have hR := HR.out.symm.trans (run3_sur HRG H1.out H2.out q')
          subst hR
          clear HR q'
          repeat (first | (go_at_call 23; refine (sInG _ _ _ _).mono ?_; rintro e w3 ⟨rfl, hw3⟩; rw [hw3, dI]; clear hw3 w3; dsimp only) | go_values | go_skip | go_guarded | go_step | go_upon)
          go_ret2
          exact ⟨rfl, rfl⟩
        · have dI : decide (55296 ≤ ((byt s 0 - 224) * 64 + byt s 1 - 128) * 64 + byt s 2 - 128 ∧ ((byt s 0 - 224) * 64 + byt s 1 - 128) * 64 + byt s 2 - 128 ≤ 57343) = false := decide_eq_false q'
          have hR := HR.out.symm.trans (run3_ok HRG (by omega) H1.out H2.out q q')
          subst hR
          clear HR q'
          repeat (first | (go_at_call 23; refine (sInG _ _ _ _).mono ?_; rintro e w3 ⟨rfl, hw3⟩; rw [hw3, dI]; clear hw3 w3; dsimp only) | go_values | go_skip | go_guarded | go_step | go_upon)
          go_ret2
          exact ⟨ret_pair (by have := HRG; have := H1.out; have := H2.out; omega) rfl, rfl⟩
  by_cases r4 : byt s 0 ≤ 244
  · have dA : decide (byt s 0 < 128) = false := decide_eq_false (by omega)
    have dB : decide (194 ≤ byt s 0) = true := decide_eq_true (by omega)
    have dC : decide (byt s 0 ≤ 223) = false := decide_eq_false (by omega)
    have dD : decide (224 ≤ byt s 0) = true := decide_eq_true (by omega)
    have dE : decide (byt s 0 ≤ 239) = false := decide_eq_false (by omega)
    have dF : decide (240 ≤ byt s 0) = true := decide_eq_true (by omega)
    have dG : decide (byt s 0 ≤ 244) = true := decide_eq_true (by omega)
    have HRG : 240 ≤ byt s 0 ∧ byt s 0 ≤ 244 := ⟨by omega, by omega⟩
    by_cases hz : s.size < 4
    · have dS : decide ((s.size : Int) < 4) = true := decide_eq_true (by omega)
      have hR := HR.out.symm.trans (run4_short HRG hz)
      subst hR
      clear HR
      go_enter Tryd.func12, Tryd.ntmps12
      go_wp2
      go_ret2
      exact ⟨rfl, rfl⟩
    have dS : decide ((s.size : Int) < 4) = false := decide_eq_false (by omega)
    have ix1 : ∀ W, (Instr.index 9 (.string s) (.int .i64 1)).run Tryd.prog W = .ok (.int .u8 (byt s 1)) W := fun W => ix_str s 1 1 rfl (by omega) W
    have ix2 : ∀ W, (Instr.index 9 (.string s) (.int .i64 2)).run Tryd.prog W = .ok (.int .u8 (byt s 2)) W := fun W => ix_str s 2 2 rfl (by omega) W
    have ix3 : ∀ W, (Instr.index 9 (.string s) (.int .i64 3)).run Tryd.prog W = .ok (.int .u8 (byt s 3)) W := fun W => ix_str s 3 3 rfl (by omega) W
    go_enter Tryd.func12, Tryd.ntmps12
    go_wp2
    clear dS
    go_loopw [6, 7] (fun x i wr => wr = w ∧ ((i = .int .i64 1 ∧ x = .int .i64 (byt s 0 - 240)) ∨ (i = .int .i64 2 ∧ x = .int .i64 ((byt s 0 - 240) * 64 + byt s 1 - 128) ∧ Hid (128 ≤ byt s 1 ∧ byt s 1 ≤ 191)) ∨ (i = .int .i64 3 ∧ x = .int .i64 (((byt s 0 - 240) * 64 + byt s 1 - 128) * 64 + byt s 2 - 128) ∧ Hid (128 ≤ byt s 1 ∧ byt s 1 ≤ 191) ∧ Hid (128 ≤ byt s 2 ∧ byt s 2 ≤ 191)) ∨ (i = .int .i64 4 ∧ x = .int .i64 ((((byt s 0 - 240) * 64 + byt s 1 - 128) * 64 + byt s 2 - 128) * 64 + byt s 3 - 128) ∧ Hid (128 ≤ byt s 1 ∧ byt s 1 ≤ 191) ∧ Hid (128 ≤ byt s 2 ∧ byt s 2 ≤ 191) ∧ Hid (128 ≤ byt s 3 ∧ byt s 3 ≤ 191)))) (fun x i _ => 4 - (intOf i).toNat)
    case atStart => exact ⟨rfl, .inl ⟨rfl, rfl⟩⟩
    case round =>
      obtain ⟨rfl, hh⟩ := hrel
      rcases hh with ⟨rfl, rfl⟩ | ⟨rfl, rfl, H1⟩ | ⟨rfl, rfl, H1, H2⟩ | ⟨rfl, rfl, H1, H2, H3⟩
      · by_cases q : byt s 1 < 128
        · have dq : decide (byt s 1 < 128) = true := decide_eq_true q
          have hR := HR.out.symm.trans (run4_c1 HRG (.inl q))
          subst hR
          clear HR
          go_wp2
          go_ret2
          exact ⟨rfl, rfl⟩
        have dq : decide (byt s 1 < 128) = false := decide_eq_false q
        by_cases q' : 191 < byt s 1
        · have dq' : decide (191 < byt s 1) = true := decide_eq_true q'
          have hR := HR.out.symm.trans (run4_c1 HRG (.inr q'))
          subst hR
          clear HR
          go_wp2
          go_ret2
          exact ⟨rfl, rfl⟩
        have dq' : decide (191 < byt s 1) = false := decide_eq_false q'
        have HC : Hid (128 ≤ byt s 1 ∧ byt s 1 ≤ 191) := show 128 ≤ byt s 1 ∧ byt s 1 ≤ 191 from ⟨by omega, by omega⟩
        go_wp2
        exact ⟨⟨by trivial, .inr (.inl ⟨by go_num, rfl, HC⟩)⟩, by simp [intOf]⟩
      · by_cases q : byt s 2 < 128
        · have dq : decide (byt s 2 < 128) = true := decide_eq_true q
          have hR := HR.out.symm.trans (run4_c2 HRG (.inl q))
          subst hR
          clear HR
          go_wp2
          go_ret2
          exact ⟨rfl, rfl⟩
        have dq : decide (byt s 2 < 128) = false := decide_eq_false q
        by_cases q' : 191 < byt s 2
        · have dq' : decide (191 < byt s 2) = true := decide_eq_true q'
          have hR := HR.out.symm.trans (run4_c2 HRG (.inr q'))
          subst hR
          clear HR
          go_wp2
          go_ret2
          exact ⟨rfl, rfl⟩
        have dq' : decide (191 < byt s 2) = false := decide_eq_false q'
        have HC : Hid (128 ≤ byt s 2 ∧ byt s 2 ≤ 191) := show 128 ≤ byt s 2 ∧ byt s 2 ≤ 191 from ⟨by omega, by omega⟩
        go_wp2
        exact ⟨⟨by trivial, .inr (.inr (.inl ⟨by go_num, rfl, H1, HC⟩))⟩, by simp [intOf]⟩
      · by_cases q : byt s 3 < 128
        · have dq : decide (byt s 3 < 128) = true := decide_eq_true q
          have hR := HR.out.symm.trans (run4_c3 HRG (.inl q))
          subst hR
          clear HR
          go_wp2
          go_ret2
          exact ⟨rfl, rfl⟩
        have dq : decide (byt s 3 < 128) = false := decide_eq_false q
        by_cases q' : 191 < byt s 3
        · have dq' : decide (191 < byt s 3) = true := decide_eq_true q'
          have hR := HR.out.symm.trans (run4_c3 HRG (.inr q'))
          subst hR
          clear HR
          go_wp2
          go_ret2
          exact ⟨rfl, rfl⟩
        have dq' : decide (191 < byt s 3) = false := decide_eq_false q'
        have HC : Hid (128 ≤ byt s 3 ∧ byt s 3 ≤ 191) := show 128 ≤ byt s 3 ∧ byt s 3 ≤ 191 from ⟨by omega, by omega⟩
        go_wp2
        exact ⟨⟨by trivial, .inr (.inr (.inr (⟨by go_num, rfl, H1, H2, HC⟩)))⟩, by simp [intOf]⟩
      · rcases (Decidable.em (65536 ≤ (((byt s 0 - 240) * 64 + byt s 1 - 128) * 64 + byt s 2 - 128) * 64 + byt s 3 - 128 ∧ (((byt s 0 - 240) * 64 + byt s 1 - 128) * 64 + byt s 2 - 128) * 64 + byt s 3 - 128 ≤ 1114111)) with q' | q'
        · have dI : decide (65536 ≤ (((byt s 0 - 240) * 64 + byt s 1 - 128) * 64 + byt s 2 - 128) * 64 + byt s 3 - 128 ∧ (((byt s 0 - 240) * 64 + byt s 1 - 128) * 64 + byt s 2 - 128) * 64 + byt s 3 - 128 ≤ 1114111) = true := decide_eq_true q'
          have hR := HR.out.symm.trans (run4_ok HRG (by omega) H1.out H2.out H3.out q')
          subst hR
          clear HR q'
          repeat (first | (go_at_call 23; refine (sInG _ _ _ _).mono ?_; rintro e w3 ⟨rfl, hw3⟩; rw [hw3, dI]; clear hw3 w3; dsimp only) | go_values | go_skip | go_guarded | go_step | go_upon)
          go_ret2
          exact ⟨ret_pair (by have := HRG; have := H1.out; have := H2.out; have := H3.out; omega) rfl, rfl⟩
        · have dI : decide (65536 ≤ (((byt s 0 - 240) * 64 + byt s 1 - 128) * 64 + byt s 2 - 128) * 64 + byt s 3 - 128 ∧ (((byt s 0 - 240) * 64 + byt s 1 - 128) * 64 + byt s 2 - 128) * 64 + byt s 3 - 128 ≤ 1114111) = false := decide_eq_false q'
          have hR := HR.out.symm.trans (run4_out HRG H1.out H2.out H3.out q')
          subst hR
          clear HR q'
          repeat (first | (go_at_call 23; refine (sInG _ _ _ _).mono ?_; rintro e w3 ⟨rfl, hw3⟩; rw [hw3, dI]; clear hw3 w3; dsimp only) | go_values | go_skip | go_guarded | go_step | go_upon)
          go_ret2
          exact ⟨rfl, rfl⟩
  have dA : decide (byt s 0 < 128) = false := decide_eq_false (by omega)
  have dB : decide (194 ≤ byt s 0) = true := decide_eq_true (by omega)
  have dC : decide (byt s 0 ≤ 223) = false := decide_eq_false (by omega)
  have dD : decide (224 ≤ byt s 0) = true := decide_eq_true (by omega)
  have dE : decide (byt s 0 ≤ 239) = false := decide_eq_false (by omega)
  have dF : decide (240 ≤ byt s 0) = true := decide_eq_true (by omega)
  have dG : decide (byt s 0 ≤ 244) = false := decide_eq_false (by omega)
  have hR := HR.out.symm.trans (run_none (.inr (by omega)))
  subst hR
  clear HR
  go_enter Tryd.func12, Tryd.ntmps12
  go_wp2
  go_ret2
  exact ⟨rfl, rfl⟩

end Go.Proofs.YtgbgnmjgnfocmaaDoor
