/-
  Keys of items, in the program.
-/
import Derived.Test.YtoimpkhgdpkhkaaDoorKey20
namespace Go.Proofs.YtoimpkhgdpkhkaaDoor
open Go.ChangeShapes Go.WideShapes Go.ChangeAt Go.RowKit

set_option maxRecDepth 100000
set_option linter.unusedVariables false
set_option linter.unusedSimpArgs false

def zs5 : List Int := [3, 1, 8, 8, 12]
def tab (i : Nat) : Int := zs5.getD i 0
/-- The program's table lies in block 0. -/
def Tab (w : World) : Prop := ∀ i, i < 5 → w.cell? ⟨0, i, none⟩ = some (.int .i64 (tab i))
theorem Tab.size {w : World} (h : Tab w) : 0 < w.heap.size := by
  have h0 := h 0 (by decide)
  rcases Nat.eq_zero_or_pos w.heap.size with hz | hz
  · simp [World.cell?, Array.eq_empty_of_size_eq_zero hz] at h0
  · exact hz
theorem Tab.kept {w w' : World} (h : Tab w) (k : Kept w w') : Tab w' := fun i hi => by
  rw [Kept.cell_eq k 0 i h.size]
  exact h i hi

theorem or_i64 (a b : Nat) (ha : a < 4611686018427387904) (hb : b < 4611686018427387904) :
    bits .or .i64 (a : Int) (b : Int) = ((a ||| b : Nat) : Int) := by
  have hx : a ||| b < 2 ^ 62 := Nat.or_lt_two_pow (by omega) (by omega)
  have h1 : (BitVec.ofInt 64 (a : Int)).toNat = a := by
    rw [BitVec.ofInt_natCast, BitVec.toNat_ofNat]; exact Nat.mod_eq_of_lt (by omega)
  have h2 : (BitVec.ofInt 64 (b : Int)).toNat = b := by
    rw [BitVec.ofInt_natCast, BitVec.toNat_ofNat]; exact Nat.mod_eq_of_lt (by omega)
  show IntKind.i64.wrap ((BitVec.ofInt 64 (a : Int) ||| BitVec.ofInt 64 (b : Int)).toNat : Int) = _
  rw [BitVec.toNat_or, h1, h2]
  exact IntWalk.i64_in _ (by omega)
theorem or_add (k : Nat) (a b : Int) (ha : 0 ≤ a) (hm : a * ((2 ^ k : Nat) : Int) < 4611686018427387904) (hb : 0 ≤ b) (hbk : b < ((2 ^ k : Nat) : Int)) (hb2 : b < 4611686018427387904) : bits .or .i64 (a * ((2 ^ k : Nat) : Int)) b = a * ((2 ^ k : Nat) : Int) + b := by
  obtain ⟨x, rfl⟩ := Int.eq_ofNat_of_zero_le ha
  obtain ⟨y, rfl⟩ := Int.eq_ofNat_of_zero_le hb
  have e : ((x : Int) * ((2 ^ k : Nat) : Int)) = ((x * 2 ^ k : Nat) : Int) := by push_cast; rfl
  rw [e] at hm ⊢
  rw [or_i64 _ _ (by omega) (by omega)]
  have := Nat.two_pow_add_eq_or_of_lt (b := y) (i := k) (by omega) x
  rw [Nat.mul_comm x (2 ^ k), ← this]
  push_cast
  rfl
theorem or_sum (k : Nat) (M a b : Int) (hM : ((2 ^ k : Nat) : Int) = M) (ha : 0 ≤ a) (hm : a * M < 4611686018427387904) (hb : 0 ≤ b) (hbk : b < M) (hb2 : b < 4611686018427387904) : bits .or .i64 (a * M) b = a * M + b := by
  subst hM
  exact or_add k a b ha hm hb hbk hb2

set_option maxHeartbeats 8000000 in
theorem isort_false (f0 f1 f2 f3 f5 f6 f7 f8 : Int) (w : World) (hT : Tab w) (h : ItemP (f0, f1, f2, f3, false, f5, f6, f7, f8)) : Calls Tryd.prog 8 #[.agg #[.int .i64 f0, .int .i64 f1, .int .i64 f2, .int .i64 f3, .bool false, .int .i64 f5, .int .i64 f6, .int .i64 f7, .int .i64 f8]] w fun e w' => e = .returned (.tuple #[.int .i64 (((f0 * 2 * 256 + f1) * 256 + f2) * 4096 + f3), .bool true]) ∧ Kept w w' := by
  have dP : decide (ItemP (f0, f1, f2, f3, false, f5, f6, f7, f8)) = true := decide_eq_true h
  have PA : Hid (∀ W, Calls Tryd.prog 29 #[.agg #[.int .i64 f0, .int .i64 f1, .int .i64 f2, .int .i64 f3, .bool false, .int .i64 f5, .int .i64 f6, .int .i64 f7, .int .i64 f8]] W fun e w' => e = .returned (.agg #[.int .i64 f0, .int .i64 0, .int .i64 f1, .int .i64 f2, .int .i64 f3]) ∧ Kept W w') := fun W => by have := iparts f0 f1 f2 f3 false f5 f6 f7 f8 W h.1; simp only [Bool.false_eq_true, if_false] at this; exact this
  have OA : Hid (∀ W, Calls Tryd.prog 30 #[.bool false] W fun e w' => e = .returned (.agg #[.int .i64 0, .int .i64 1, .int .i64 2, .int .i64 3, .int .i64 4]) ∧ Kept W w') := fun W => by have := iorder false W; simp only [Bool.false_eq_true, if_false] at this; exact this
  have IA : Hid (∀ W, Calls Tryd.prog 28 #[.agg #[.int .i64 f0, .int .i64 f1, .int .i64 f2, .int .i64 f3, .bool false, .int .i64 f5, .int .i64 f6, .int .i64 f7, .int .i64 f8]] W fun e w' => e = .returned (.bool true) ∧ Kept W w') := fun W => by have := iitem f0 f1 f2 f3 false f5 f6 f7 f8 W; rw [dP] at this; exact this
  obtain ⟨⟨⟨a1, a2⟩, ⟨b1, b2⟩, ⟨c1, c2⟩, d1, d2⟩, _⟩ := h
  dsimp only at a1 a2 b1 b2 c1 c2 d1 d2
  clear dP
  have L := Loc.new w [.int .i64 f0, .int .i64 f1, .int .i64 f2, .int .i64 f3, .bool false, .int .i64 f5, .int .i64 f6, .int .i64 f7, .int .i64 f8] 26
  have hz0 := hT.size
  go_enter Tryd.func8, Tryd.ntmps8
  repeat (first | go_values | go_skip | go_guarded | go_step | go_upon | (go_at_call 28; refine (IA.out _).mono ?_; rintro e u1 ⟨rfl, k1⟩; dsimp only; have L := L.kept k1; have c0 := L.cell 0 rfl; have c1 := L.cell 1 rfl; have c2 := L.cell 2 rfl; have c3 := L.cell 3 rfl; have c4 := L.cell 4 rfl; have c5 := L.cell 5 rfl; have c6 := L.cell 6 rfl; have c7 := L.cell 7 rfl; have c8 := L.cell 8 rfl; have cl := L.lt; have K1 : Kept w u1 := ((But.refl _ _ _).alloc _).trans k1) | (go_at_call 29; refine (PA.out _).mono ?_; rintro e u2 ⟨rfl, k2⟩; dsimp only; clear c0 c1 c2 c3 c4 c5 c6 c7 c8 cl; have K2 := K1.trans k2; have L := L.kept k2; have c4 := L.cell 4 rfl; have cl := L.lt) | (go_at_call 30; refine (OA.out _).mono ?_; rintro e u3 ⟨rfl, k3⟩; dsimp only; have LP := (Loc.new u2 [.int .i64 f0, .int .i64 0, .int .i64 f1, .int .i64 f2, .int .i64 f3] 62).kept k3; have K3 : Kept w u3 := (K2.alloc _).trans k3))
  have hsz := K2.size
  clear c4 cl k1 k2 k3 K1 L PA OA IA
  go_loopw [5, 16] (fun key i wr => Kept u3 wr ∧ ((key = .int .i64 0 ∧ i = .int .i64 0) ∨ (key = .int .i64 f0 ∧ i = .int .i64 1) ∨ (key = .int .i64 (f0 * 2) ∧ i = .int .i64 2) ∨ (key = .int .i64 (f0 * 2 * 256 + f1) ∧ i = .int .i64 3) ∨ (key = .int .i64 ((f0 * 2 * 256 + f1) * 256 + f2) ∧ i = .int .i64 4) ∨ (key = .int .i64 (((f0 * 2 * 256 + f1) * 256 + f2) * 4096 + f3) ∧ i = .int .i64 5))) (fun key i _ => 5 - (intOf i).toNat)
  case atStart => exact ⟨But.refl _ _ _, .inl ⟨rfl, rfl⟩⟩
  case round =>
    obtain ⟨hkp, hrel⟩ := hrel
    have hTT := (hT.kept K3).kept hkp
    have t0 := hTT 0 (by decide)
    have t1 := hTT 1 (by decide)
    have t2 := hTT 2 (by decide)
    have t3 := hTT 3 (by decide)
    have t4 := hTT 4 (by decide)
    simp only [tab, zs5, List.getD_cons_zero, List.getD_cons_succ] at t0 t1 t2 t3 t4
    have l5 := LP.kept hkp
    have p0 := l5.cell 0 rfl
    have p1 := l5.cell 1 rfl
    have p2 := l5.cell 2 rfl
    have p3 := l5.cell 3 rfl
    have p4 := l5.cell 4 rfl
    have pl := l5.lt
    have hz1 := hTT.size
    have HK : Hid (Kept u3 wr) := hkp
    clear hkp hTT l5
    rcases hrel with ⟨rfl, rfl⟩ | ⟨rfl, rfl⟩ | ⟨rfl, rfl⟩ | ⟨rfl, rfl⟩ | ⟨rfl, rfl⟩ | ⟨rfl, rfl⟩
    · have hor : bits .or .i64 0 f0 = f0 := by have := or_sum 3 8 0 f0 rfl (by omega) (by omega) (by omega) (by omega) (by omega); simpa using this
      have hix : ∀ W, Sem.run Tryd.prog (Instr.index 62 (.agg #[.int .i64 0, .int .i64 1, .int .i64 2, .int .i64 3, .int .i64 4]) (.int .i64 0)) W = .ok (.int .i64 0) W := fun W => by kernel_rfl
      repeat (first | go_values | go_skip | go_guarded | go_step | go_upon)
      refine wp_region_kept (by kernel_rfl) (by kernel_rfl) ?_
      have hcc := @KW.cell_eq
      repeat (first | (go_big_quiet_step (fail)) | (go_big_quiet_want; go_big_quiet_op; refine ⟨_, fun _ => (by with_reducible rfl), ?_⟩; go_big_quiet_on))
      refine wpQuiet_nil ?_
      rintro w5 ⟨⟨w8, k5⟩, h9⟩
      change w5 = w8 at h9
      subst h9
      clear hcc t0 t1 t2 t3 t4 p0 p1 p2 p3 p4 pl
      repeat (first | go_values | go_skip | go_guarded | go_step | go_upon)
      exact ⟨⟨HK.out.trans k5, .inr (.inl ⟨rfl, rfl⟩)⟩, by simp [intOf]⟩
    · have hor : bits .or .i64 (f0 * 2) 0 = (f0 * 2) := by have := or_sum 1 2 f0 0 rfl (by omega) (by omega) (by omega) (by omega) (by omega); simpa using this
      have hix : ∀ W, Sem.run Tryd.prog (Instr.index 62 (.agg #[.int .i64 0, .int .i64 1, .int .i64 2, .int .i64 3, .int .i64 4]) (.int .i64 1)) W = .ok (.int .i64 1) W := fun W => by kernel_rfl
      repeat (first | go_values | go_skip | go_guarded | go_step | go_upon)
      refine wp_region_kept (by kernel_rfl) (by kernel_rfl) ?_
      have hcc := @KW.cell_eq
      repeat (first | (go_big_quiet_step (fail)) | (go_big_quiet_want; go_big_quiet_op; refine ⟨_, fun _ => (by with_reducible rfl), ?_⟩; go_big_quiet_on))
      refine wpQuiet_nil ?_
      rintro w5 ⟨⟨w8, k5⟩, h9⟩
      change w5 = w8 at h9
      subst h9
      clear hcc t0 t1 t2 t3 t4 p0 p1 p2 p3 p4 pl
      repeat (first | go_values | go_skip | go_guarded | go_step | go_upon)
      exact ⟨⟨HK.out.trans k5, .inr (.inr (.inl ⟨rfl, rfl⟩))⟩, by simp [intOf]⟩
    · have hor : bits .or .i64 (f0 * 2 * 256) f1 = (f0 * 2 * 256 + f1) := or_sum 8 256 (f0 * 2) f1 rfl (by omega) (by omega) (by omega) (by omega) (by omega)
      have hix : ∀ W, Sem.run Tryd.prog (Instr.index 62 (.agg #[.int .i64 0, .int .i64 1, .int .i64 2, .int .i64 3, .int .i64 4]) (.int .i64 2)) W = .ok (.int .i64 2) W := fun W => by kernel_rfl
      repeat (first | go_values | go_skip | go_guarded | go_step | go_upon)
      refine wp_region_kept (by kernel_rfl) (by kernel_rfl) ?_
      have hcc := @KW.cell_eq
      repeat (first | (go_big_quiet_step (fail)) | (go_big_quiet_want; go_big_quiet_op; refine ⟨_, fun _ => (by with_reducible rfl), ?_⟩; go_big_quiet_on))
      refine wpQuiet_nil ?_
      rintro w5 ⟨⟨w8, k5⟩, h9⟩
      change w5 = w8 at h9
      subst h9
      clear hcc t0 t1 t2 t3 t4 p0 p1 p2 p3 p4 pl
      repeat (first | go_values | go_skip | go_guarded | go_step | go_upon)
      exact ⟨⟨HK.out.trans k5, .inr (.inr (.inr (.inl ⟨rfl, rfl⟩)))⟩, by simp [intOf]⟩
    · have hor : bits .or .i64 ((f0 * 2 * 256 + f1) * 256) f2 = ((f0 * 2 * 256 + f1) * 256 + f2) := or_sum 8 256 (f0 * 2 * 256 + f1) f2 rfl (by omega) (by omega) (by omega) (by omega) (by omega)
      have hix : ∀ W, Sem.run Tryd.prog (Instr.index 62 (.agg #[.int .i64 0, .int .i64 1, .int .i64 2, .int .i64 3, .int .i64 4]) (.int .i64 3)) W = .ok (.int .i64 3) W := fun W => by kernel_rfl
      repeat (first | go_values | go_skip | go_guarded | go_step | go_upon)
      refine wp_region_kept (by kernel_rfl) (by kernel_rfl) ?_
      have hcc := @KW.cell_eq
      repeat (first | (go_big_quiet_step (fail)) | (go_big_quiet_want; go_big_quiet_op; refine ⟨_, fun _ => (by with_reducible rfl), ?_⟩; go_big_quiet_on))
      refine wpQuiet_nil ?_
      rintro w5 ⟨⟨w8, k5⟩, h9⟩
      change w5 = w8 at h9
      subst h9
      clear hcc t0 t1 t2 t3 t4 p0 p1 p2 p3 p4 pl
      repeat (first | go_values | go_skip | go_guarded | go_step | go_upon)
      exact ⟨⟨HK.out.trans k5, .inr (.inr (.inr (.inr (.inl ⟨rfl, rfl⟩))))⟩, by simp [intOf]⟩
    · have hor : bits .or .i64 (((f0 * 2 * 256 + f1) * 256 + f2) * 4096) f3 = (((f0 * 2 * 256 + f1) * 256 + f2) * 4096 + f3) := or_sum 12 4096 ((f0 * 2 * 256 + f1) * 256 + f2) f3 rfl (by omega) (by omega) (by omega) (by omega) (by omega)
      have hix : ∀ W, Sem.run Tryd.prog (Instr.index 62 (.agg #[.int .i64 0, .int .i64 1, .int .i64 2, .int .i64 3, .int .i64 4]) (.int .i64 4)) W = .ok (.int .i64 4) W := fun W => by kernel_rfl
      repeat (first | go_values | go_skip | go_guarded | go_step | go_upon)
      refine wp_region_kept (by kernel_rfl) (by kernel_rfl) ?_
      have hcc := @KW.cell_eq
      repeat (first | (go_big_quiet_step (fail)) | (go_big_quiet_want; go_big_quiet_op; refine ⟨_, fun _ => (by with_reducible rfl), ?_⟩; go_big_quiet_on))
      refine wpQuiet_nil ?_
      rintro w5 ⟨⟨w8, k5⟩, h9⟩
      change w5 = w8 at h9
      subst h9
      clear hcc t0 t1 t2 t3 t4 p0 p1 p2 p3 p4 pl
      repeat (first | go_values | go_skip | go_guarded | go_step | go_upon)
      exact ⟨⟨HK.out.trans k5, .inr (.inr (.inr (.inr (.inr (⟨rfl, rfl⟩)))))⟩, by simp [intOf]⟩
    · clear t0 t1 t2 t3 t4 p0 p1 p2 p3 p4 pl
      repeat (first | go_values | go_skip | go_guarded | go_step | go_upon)
      go_ret2
      exact ⟨rfl, K3.trans HK.out⟩

set_option maxHeartbeats 8000000 in
theorem isort_true (f0 f1 f2 f3 f5 f6 f7 f8 : Int) (w : World) (hT : Tab w) (h : ItemP (f0, f1, f2, f3, true, f5, f6, f7, f8)) : Calls Tryd.prog 8 #[.agg #[.int .i64 f0, .int .i64 f1, .int .i64 f2, .int .i64 f3, .bool true, .int .i64 f5, .int .i64 f6, .int .i64 f7, .int .i64 f8]] w fun e w' => e = .returned (.tuple #[.int .i64 ((((f0 * 2 + 1) * 4096 + (4095 - f3)) * 256 + f1) * 256 + f2), .bool true]) ∧ Kept w w' := by
  have dP : decide (ItemP (f0, f1, f2, f3, true, f5, f6, f7, f8)) = true := decide_eq_true h
  have PA : Hid (∀ W, Calls Tryd.prog 29 #[.agg #[.int .i64 f0, .int .i64 f1, .int .i64 f2, .int .i64 f3, .bool true, .int .i64 f5, .int .i64 f6, .int .i64 f7, .int .i64 f8]] W fun e w' => e = .returned (.agg #[.int .i64 f0, .int .i64 1, .int .i64 f1, .int .i64 f2, .int .i64 (4095 - f3)]) ∧ Kept W w') := fun W => by have := iparts f0 f1 f2 f3 true f5 f6 f7 f8 W h.1; simp only [reduceIte] at this; exact this
  have OA : Hid (∀ W, Calls Tryd.prog 30 #[.bool true] W fun e w' => e = .returned (.agg #[.int .i64 0, .int .i64 1, .int .i64 4, .int .i64 2, .int .i64 3]) ∧ Kept W w') := fun W => by have := iorder true W; simp only [reduceIte] at this; exact this
  have IA : Hid (∀ W, Calls Tryd.prog 28 #[.agg #[.int .i64 f0, .int .i64 f1, .int .i64 f2, .int .i64 f3, .bool true, .int .i64 f5, .int .i64 f6, .int .i64 f7, .int .i64 f8]] W fun e w' => e = .returned (.bool true) ∧ Kept W w') := fun W => by have := iitem f0 f1 f2 f3 true f5 f6 f7 f8 W; rw [dP] at this; exact this
  obtain ⟨⟨⟨a1, a2⟩, ⟨b1, b2⟩, ⟨c1, c2⟩, d1, d2⟩, _⟩ := h
  dsimp only at a1 a2 b1 b2 c1 c2 d1 d2
  clear dP
  have L := Loc.new w [.int .i64 f0, .int .i64 f1, .int .i64 f2, .int .i64 f3, .bool true, .int .i64 f5, .int .i64 f6, .int .i64 f7, .int .i64 f8] 26
  have hz0 := hT.size
  go_enter Tryd.func8, Tryd.ntmps8
  repeat (first | go_values | go_skip | go_guarded | go_step | go_upon | (go_at_call 28; refine (IA.out _).mono ?_; rintro e u1 ⟨rfl, k1⟩; dsimp only; have L := L.kept k1; have c0 := L.cell 0 rfl; have c1 := L.cell 1 rfl; have c2 := L.cell 2 rfl; have c3 := L.cell 3 rfl; have c4 := L.cell 4 rfl; have c5 := L.cell 5 rfl; have c6 := L.cell 6 rfl; have c7 := L.cell 7 rfl; have c8 := L.cell 8 rfl; have cl := L.lt; have K1 : Kept w u1 := ((But.refl _ _ _).alloc _).trans k1) | (go_at_call 29; refine (PA.out _).mono ?_; rintro e u2 ⟨rfl, k2⟩; dsimp only; clear c0 c1 c2 c3 c4 c5 c6 c7 c8 cl; have K2 := K1.trans k2; have L := L.kept k2; have c4 := L.cell 4 rfl; have cl := L.lt) | (go_at_call 30; refine (OA.out _).mono ?_; rintro e u3 ⟨rfl, k3⟩; dsimp only; have LP := (Loc.new u2 [.int .i64 f0, .int .i64 1, .int .i64 f1, .int .i64 f2, .int .i64 (4095 - f3)] 62).kept k3; have K3 : Kept w u3 := (K2.alloc _).trans k3))
  have hsz := K2.size
  clear c4 cl k1 k2 k3 K1 L PA OA IA
  go_loopw [5, 16] (fun key i wr => Kept u3 wr ∧ ((key = .int .i64 0 ∧ i = .int .i64 0) ∨ (key = .int .i64 f0 ∧ i = .int .i64 1) ∨ (key = .int .i64 (f0 * 2 + 1) ∧ i = .int .i64 2) ∨ (key = .int .i64 ((f0 * 2 + 1) * 4096 + (4095 - f3)) ∧ i = .int .i64 3) ∨ (key = .int .i64 (((f0 * 2 + 1) * 4096 + (4095 - f3)) * 256 + f1) ∧ i = .int .i64 4) ∨ (key = .int .i64 ((((f0 * 2 + 1) * 4096 + (4095 - f3)) * 256 + f1) * 256 + f2) ∧ i = .int .i64 5))) (fun key i _ => 5 - (intOf i).toNat)
  case atStart => exact ⟨But.refl _ _ _, .inl ⟨rfl, rfl⟩⟩
  case round =>
    obtain ⟨hkp, hrel⟩ := hrel
    have hTT := (hT.kept K3).kept hkp
    have t0 := hTT 0 (by decide)
    have t1 := hTT 1 (by decide)
    have t2 := hTT 2 (by decide)
    have t3 := hTT 3 (by decide)
    have t4 := hTT 4 (by decide)
    simp only [tab, zs5, List.getD_cons_zero, List.getD_cons_succ] at t0 t1 t2 t3 t4
    have l5 := LP.kept hkp
    have p0 := l5.cell 0 rfl
    have p1 := l5.cell 1 rfl
    have p2 := l5.cell 2 rfl
    have p3 := l5.cell 3 rfl
    have p4 := l5.cell 4 rfl
    have pl := l5.lt
    have hz1 := hTT.size
    have HK : Hid (Kept u3 wr) := hkp
    clear hkp hTT l5
    rcases hrel with ⟨rfl, rfl⟩ | ⟨rfl, rfl⟩ | ⟨rfl, rfl⟩ | ⟨rfl, rfl⟩ | ⟨rfl, rfl⟩ | ⟨rfl, rfl⟩
    · have hor : bits .or .i64 0 f0 = f0 := by have := or_sum 3 8 0 f0 rfl (by omega) (by omega) (by omega) (by omega) (by omega); simpa using this
      have hix : ∀ W, Sem.run Tryd.prog (Instr.index 62 (.agg #[.int .i64 0, .int .i64 1, .int .i64 4, .int .i64 2, .int .i64 3]) (.int .i64 0)) W = .ok (.int .i64 0) W := fun W => by kernel_rfl
      repeat (first | go_values | go_skip | go_guarded | go_step | go_upon)
      refine wp_region_kept (by kernel_rfl) (by kernel_rfl) ?_
      have hcc := @KW.cell_eq
      repeat (first | (go_big_quiet_step (fail)) | (go_big_quiet_want; go_big_quiet_op; refine ⟨_, fun _ => (by with_reducible rfl), ?_⟩; go_big_quiet_on))
      refine wpQuiet_nil ?_
      rintro w5 ⟨⟨w8, k5⟩, h9⟩
      change w5 = w8 at h9
      subst h9
      clear hcc t0 t1 t2 t3 t4 p0 p1 p2 p3 p4 pl
      repeat (first | go_values | go_skip | go_guarded | go_step | go_upon)
      exact ⟨⟨HK.out.trans k5, .inr (.inl ⟨rfl, rfl⟩)⟩, by simp [intOf]⟩
    · have hor : bits .or .i64 (f0 * 2) 1 = (f0 * 2 + 1) := by have := or_sum 1 2 f0 1 rfl (by omega) (by omega) (by omega) (by omega) (by omega); simpa using this
      have hix : ∀ W, Sem.run Tryd.prog (Instr.index 62 (.agg #[.int .i64 0, .int .i64 1, .int .i64 4, .int .i64 2, .int .i64 3]) (.int .i64 1)) W = .ok (.int .i64 1) W := fun W => by kernel_rfl
      repeat (first | go_values | go_skip | go_guarded | go_step | go_upon)
      refine wp_region_kept (by kernel_rfl) (by kernel_rfl) ?_
      have hcc := @KW.cell_eq
      repeat (first | (go_big_quiet_step (fail)) | (go_big_quiet_want; go_big_quiet_op; refine ⟨_, fun _ => (by with_reducible rfl), ?_⟩; go_big_quiet_on))
      refine wpQuiet_nil ?_
      rintro w5 ⟨⟨w8, k5⟩, h9⟩
      change w5 = w8 at h9
      subst h9
      clear hcc t0 t1 t2 t3 t4 p0 p1 p2 p3 p4 pl
      repeat (first | go_values | go_skip | go_guarded | go_step | go_upon)
      exact ⟨⟨HK.out.trans k5, .inr (.inr (.inl ⟨rfl, rfl⟩))⟩, by simp [intOf]⟩
    · have hor : bits .or .i64 ((f0 * 2 + 1) * 4096) (4095 - f3) = ((f0 * 2 + 1) * 4096 + (4095 - f3)) := or_sum 12 4096 (f0 * 2 + 1) (4095 - f3) rfl (by omega) (by omega) (by omega) (by omega) (by omega)
      have hix : ∀ W, Sem.run Tryd.prog (Instr.index 62 (.agg #[.int .i64 0, .int .i64 1, .int .i64 4, .int .i64 2, .int .i64 3]) (.int .i64 2)) W = .ok (.int .i64 4) W := fun W => by kernel_rfl
      repeat (first | go_values | go_skip | go_guarded | go_step | go_upon)
      refine wp_region_kept (by kernel_rfl) (by kernel_rfl) ?_
      have hcc := @KW.cell_eq
      repeat (first | (go_big_quiet_step (fail)) | (go_big_quiet_want; go_big_quiet_op; refine ⟨_, fun _ => (by with_reducible rfl), ?_⟩; go_big_quiet_on))
      refine wpQuiet_nil ?_
      rintro w5 ⟨⟨w8, k5⟩, h9⟩
      change w5 = w8 at h9
      subst h9
      clear hcc t0 t1 t2 t3 t4 p0 p1 p2 p3 p4 pl
      repeat (first | go_values | go_skip | go_guarded | go_step | go_upon)
      exact ⟨⟨HK.out.trans k5, .inr (.inr (.inr (.inl ⟨rfl, rfl⟩)))⟩, by simp [intOf]⟩
    · have hor : bits .or .i64 (((f0 * 2 + 1) * 4096 + (4095 - f3)) * 256) f1 = (((f0 * 2 + 1) * 4096 + (4095 - f3)) * 256 + f1) := or_sum 8 256 ((f0 * 2 + 1) * 4096 + (4095 - f3)) f1 rfl (by omega) (by omega) (by omega) (by omega) (by omega)
      have hix : ∀ W, Sem.run Tryd.prog (Instr.index 62 (.agg #[.int .i64 0, .int .i64 1, .int .i64 4, .int .i64 2, .int .i64 3]) (.int .i64 3)) W = .ok (.int .i64 2) W := fun W => by kernel_rfl
      repeat (first | go_values | go_skip | go_guarded | go_step | go_upon)
      refine wp_region_kept (by kernel_rfl) (by kernel_rfl) ?_
      have hcc := @KW.cell_eq
      repeat (first | (go_big_quiet_step (fail)) | (go_big_quiet_want; go_big_quiet_op; refine ⟨_, fun _ => (by with_reducible rfl), ?_⟩; go_big_quiet_on))
      refine wpQuiet_nil ?_
      rintro w5 ⟨⟨w8, k5⟩, h9⟩
      change w5 = w8 at h9
      subst h9
      clear hcc t0 t1 t2 t3 t4 p0 p1 p2 p3 p4 pl
      repeat (first | go_values | go_skip | go_guarded | go_step | go_upon)
      exact ⟨⟨HK.out.trans k5, .inr (.inr (.inr (.inr (.inl ⟨rfl, rfl⟩))))⟩, by simp [intOf]⟩
    · have hor : bits .or .i64 ((((f0 * 2 + 1) * 4096 + (4095 - f3)) * 256 + f1) * 256) f2 = ((((f0 * 2 + 1) * 4096 + (4095 - f3)) * 256 + f1) * 256 + f2) := or_sum 8 256 (((f0 * 2 + 1) * 4096 + (4095 - f3)) * 256 + f1) f2 rfl (by omega) (by omega) (by omega) (by omega) (by omega)
      have hix : ∀ W, Sem.run Tryd.prog (Instr.index 62 (.agg #[.int .i64 0, .int .i64 1, .int .i64 4, .int .i64 2, .int .i64 3]) (.int .i64 4)) W = .ok (.int .i64 3) W := fun W => by kernel_rfl
      repeat (first | go_values | go_skip | go_guarded | go_step | go_upon)
      refine wp_region_kept (by kernel_rfl) (by kernel_rfl) ?_
      have hcc := @KW.cell_eq
      repeat (first | (go_big_quiet_step (fail)) | (go_big_quiet_want; go_big_quiet_op; refine ⟨_, fun _ => (by with_reducible rfl), ?_⟩; go_big_quiet_on))
      refine wpQuiet_nil ?_
      rintro w5 ⟨⟨w8, k5⟩, h9⟩
      change w5 = w8 at h9
      subst h9
      clear hcc t0 t1 t2 t3 t4 p0 p1 p2 p3 p4 pl
      repeat (first | go_values | go_skip | go_guarded | go_step | go_upon)
      exact ⟨⟨HK.out.trans k5, .inr (.inr (.inr (.inr (.inr (⟨rfl, rfl⟩)))))⟩, by simp [intOf]⟩
    · clear t0 t1 t2 t3 t4 p0 p1 p2 p3 p4 pl
      repeat (first | go_values | go_skip | go_guarded | go_step | go_upon)
      go_ret2
      exact ⟨rfl, K3.trans HK.out⟩

end Go.Proofs.YtoimpkhgdpkhkaaDoor
