/-
  PutBits of the specification.
-/
import Derived.Test.YtaadlhcpgjibeaaPutB23
import Derived.Test.YtaadlhcpgjibeaaOwn23
namespace Go.Proofs.Ytaadlhcpgjibeaa
open Go.ChangeShapes Go.WideShapes Go.ChangeAt Go.RowKit

set_option maxRecDepth 100000
set_option linter.unusedVariables false
set_option linter.unusedSimpArgs false

set_option maxHeartbeats 8000000 in
theorem sputB (c : BitsD) (x m : Int) (v : Value) (w : World) (hv : BitsAt w v c) (hn : c.2.length ≤ 9000000000000000000) (hz : -9223372036854775808 ≤ c.1 ∧ c.1 ≤ 9223372036854775807) :
    Calls Try.prog 11 #[v, .int .i64 x, .int .i64 m] w fun e w' => ∃ v', e = .returned (.tuple #[v', .bool (putA c x m).2]) ∧ BitsO w' w.heap.size w'.heap.size v' (putA c x m).1 ∧ Kept w w' := by
  obtain ⟨ao, cap, hfm⟩ := hv.form
  subst hfm
  have hr := hv.row
  rcases (Decidable.em (BitsP c)).symm with h1 | h1
  · have d1 : decide (BitsP c) = false := decide_eq_false h1
    have H1 : Hid _ := h1
    clear h1
    rw [putA_no (fun h => H1.out h.1)]
    go_enter Try.func11, Try.ntmps11
    repeat (first | (go_at_call 7; refine (sgood c _ _ (hv.kept (((But.refl _ _ w).alloc (.cells #[.int .i64 c.1, .slice ao c.2.length cap] 27)).alloc (.cells #[.int .i64 0, .slice none 0 0] 27))) hn hz).mono ?_; rintro e w3 ⟨rfl, k3⟩; have L3 := ((Loc.new w [.int .i64 c.1, .slice ao c.2.length cap] 27).alloc (.cells #[.int .i64 0, .slice none 0 0] 27)).kept k3; have R3 := (Loc.new (w.alloc (.cells #[.int .i64 c.1, .slice ao c.2.length cap] 27)) [.int .i64 0, .slice none 0 0] 27).kept k3; simp only [World.size_alloc] at R3; have b0 := L3.cell 0 rfl; have b1 := L3.cell 1 rfl; have e0 := R3.cell 0 rfl; have e1 := R3.cell 1 rfl; have f0 := R3.frozen 0; have f1 := R3.frozen 1; have bz := R3.lt; have K3 : Hid (Kept w w3) := (((But.refl _ _ w).alloc (.cells #[.int .i64 c.1, .slice ao c.2.length cap] 27)).alloc (.cells #[.int .i64 0, .slice none 0 0] 27)).trans k3; have R3 : Hid _ := R3; clear k3 L3; rw [d1]; dsimp only) | (go_at_call 18; refine (sin _ _ _ _).mono ?_; rintro e w4 ⟨rfl, hw4⟩; rw [hw4]; clear hw4 w4; (first | rw [d2] | rw [d3]); dsimp only) | go_values | go_skip | go_guarded | go_step | go_upon)
    refine bodyPost_ret (v := .tuple #[.agg #[.int .i64 0, .slice none 0 0], .bool false]) (by simp [results, Try.results11, go_sem, *]) rfl ?_
    exact ⟨_, rfl, ⟨_, rfl, nil_byt _ _ _⟩, But.setNew (But.setNew K3.out (Nat.le_succ _) _) (Nat.le_succ _) _⟩
  have d1 : decide (BitsP c) = true := decide_eq_true h1
  have z1 := h1.1
  have z2 := h1.2.1
  have H1 : Hid _ := h1
  clear h1
  rcases (Decidable.em (0 ≤ m ∧ m ≤ 32)).symm with h2 | h2
  · have d2 : decide (0 ≤ m ∧ m ≤ 32) = false := decide_eq_false h2
    have H2 : Hid _ := h2
    clear h2
    rw [putA_no (fun h => H2.out h.2.1)]
    go_enter Try.func11, Try.ntmps11
    repeat (first | (go_at_call 7; refine (sgood c _ _ (hv.kept (((But.refl _ _ w).alloc (.cells #[.int .i64 c.1, .slice ao c.2.length cap] 27)).alloc (.cells #[.int .i64 0, .slice none 0 0] 27))) hn hz).mono ?_; rintro e w3 ⟨rfl, k3⟩; have L3 := ((Loc.new w [.int .i64 c.1, .slice ao c.2.length cap] 27).alloc (.cells #[.int .i64 0, .slice none 0 0] 27)).kept k3; have R3 := (Loc.new (w.alloc (.cells #[.int .i64 c.1, .slice ao c.2.length cap] 27)) [.int .i64 0, .slice none 0 0] 27).kept k3; simp only [World.size_alloc] at R3; have b0 := L3.cell 0 rfl; have b1 := L3.cell 1 rfl; have e0 := R3.cell 0 rfl; have e1 := R3.cell 1 rfl; have f0 := R3.frozen 0; have f1 := R3.frozen 1; have bz := R3.lt; have K3 : Hid (Kept w w3) := (((But.refl _ _ w).alloc (.cells #[.int .i64 c.1, .slice ao c.2.length cap] 27)).alloc (.cells #[.int .i64 0, .slice none 0 0] 27)).trans k3; have R3 : Hid _ := R3; clear k3 L3; rw [d1]; dsimp only) | (go_at_call 18; refine (sin _ _ _ _).mono ?_; rintro e w4 ⟨rfl, hw4⟩; rw [hw4]; clear hw4 w4; (first | rw [d2] | rw [d3]); dsimp only) | go_values | go_skip | go_guarded | go_step | go_upon)
    refine bodyPost_ret (v := .tuple #[.agg #[.int .i64 0, .slice none 0 0], .bool false]) (by simp [results, Try.results11, go_sem, *]) rfl ?_
    exact ⟨_, rfl, ⟨_, rfl, nil_byt _ _ _⟩, But.setNew (But.setNew K3.out (Nat.le_succ _) _) (Nat.le_succ _) _⟩
  have d2 : decide (0 ≤ m ∧ m ≤ 32) = true := decide_eq_true h2
  obtain ⟨y, rfl⟩ := Int.eq_ofNat_of_zero_le h2.1
  have hp2 := pow_le32 y (by omega)
  have hp1 : 0 < 2 ^ y := Nat.two_pow_pos y
  have hpw : (2 : Int) ^ y = ((2 ^ y : Nat) : Int) := by simp
  have hw : wrap64 (wrap64 (2 ^ y) - 1) = 2 ^ y - 1 := by rw [hpw, IntWalk.wrap64_in ((2 ^ y : Nat) : Int) (by omega), IntWalk.wrap64_in _ (by omega)]
  rcases (Decidable.em (0 ≤ x ∧ x ≤ 2 ^ y - 1)).symm with h3 | h3
  · have d3 : decide (0 ≤ x ∧ x ≤ wrap64 (wrap64 (2 ^ y) - 1)) = false := by first | (rw [hw]; exact decide_eq_false h3) | exact decide_eq_false h3
    have H3 : Hid _ := h3
    clear h3 hw hpw
    rw [putA_no (fun h => H3.out h.2.2.1)]
    go_enter Try.func11, Try.ntmps11
    repeat (first | (go_at_call 7; refine (sgood c _ _ (hv.kept (((But.refl _ _ w).alloc (.cells #[.int .i64 c.1, .slice ao c.2.length cap] 27)).alloc (.cells #[.int .i64 0, .slice none 0 0] 27))) hn hz).mono ?_; rintro e w3 ⟨rfl, k3⟩; have L3 := ((Loc.new w [.int .i64 c.1, .slice ao c.2.length cap] 27).alloc (.cells #[.int .i64 0, .slice none 0 0] 27)).kept k3; have R3 := (Loc.new (w.alloc (.cells #[.int .i64 c.1, .slice ao c.2.length cap] 27)) [.int .i64 0, .slice none 0 0] 27).kept k3; simp only [World.size_alloc] at R3; have b0 := L3.cell 0 rfl; have b1 := L3.cell 1 rfl; have e0 := R3.cell 0 rfl; have e1 := R3.cell 1 rfl; have f0 := R3.frozen 0; have f1 := R3.frozen 1; have bz := R3.lt; have K3 : Hid (Kept w w3) := (((But.refl _ _ w).alloc (.cells #[.int .i64 c.1, .slice ao c.2.length cap] 27)).alloc (.cells #[.int .i64 0, .slice none 0 0] 27)).trans k3; have R3 : Hid _ := R3; clear k3 L3; rw [d1]; dsimp only) | (go_at_call 18; refine (sin _ _ _ _).mono ?_; rintro e w4 ⟨rfl, hw4⟩; rw [hw4]; clear hw4 w4; (first | rw [d2] | rw [d3]); dsimp only) | go_values | go_skip | go_guarded | go_step | go_upon)
    refine bodyPost_ret (v := .tuple #[.agg #[.int .i64 0, .slice none 0 0], .bool false]) (by simp [results, Try.results11, go_sem, *]) rfl ?_
    exact ⟨_, rfl, ⟨_, rfl, nil_byt _ _ _⟩, But.setNew (But.setNew K3.out (Nat.le_succ _) _) (Nat.le_succ _) _⟩
  have d3 : decide (0 ≤ x ∧ x ≤ wrap64 (wrap64 (2 ^ y) - 1)) = true := by first | (rw [hw]; exact decide_eq_true h3) | exact decide_eq_true h3
  obtain ⟨u, rfl⟩ := Int.eq_ofNat_of_zero_le h3.1
  have hu : u < 4294967296 := by have h5 := h3.2; rw [hpw] at h5; omega
  clear hw hpw
  have H3 : Hid _ := h3
  clear h3
  rcases (Decidable.em (c.1 ≤ 4000 - (y : Int))).symm with h4 | h4
  · have d4 : decide (c.1 > 4000 - (y : Int)) = true := decide_eq_true (by omega)
    rw [putA_no (fun h => h4 h.2.2.2)]
    go_enter Try.func11, Try.ntmps11
    repeat (first | (go_at_call 7; refine (sgood c _ _ (hv.kept (((But.refl _ _ w).alloc (.cells #[.int .i64 c.1, .slice ao c.2.length cap] 27)).alloc (.cells #[.int .i64 0, .slice none 0 0] 27))) hn hz).mono ?_; rintro e w3 ⟨rfl, k3⟩; have L3 := ((Loc.new w [.int .i64 c.1, .slice ao c.2.length cap] 27).alloc (.cells #[.int .i64 0, .slice none 0 0] 27)).kept k3; have R3 := (Loc.new (w.alloc (.cells #[.int .i64 c.1, .slice ao c.2.length cap] 27)) [.int .i64 0, .slice none 0 0] 27).kept k3; simp only [World.size_alloc] at R3; have b0 := L3.cell 0 rfl; have b1 := L3.cell 1 rfl; have e0 := R3.cell 0 rfl; have e1 := R3.cell 1 rfl; have f0 := R3.frozen 0; have f1 := R3.frozen 1; have bz := R3.lt; have K3 : Hid (Kept w w3) := (((But.refl _ _ w).alloc (.cells #[.int .i64 c.1, .slice ao c.2.length cap] 27)).alloc (.cells #[.int .i64 0, .slice none 0 0] 27)).trans k3; have R3 : Hid _ := R3; clear k3 L3; rw [d1]; dsimp only) | (go_at_call 18; refine (sin _ _ _ _).mono ?_; rintro e w4 ⟨rfl, hw4⟩; rw [hw4]; clear hw4 w4; (first | rw [d2] | rw [d3]); dsimp only) | go_values | go_skip | go_guarded | go_step | go_upon)
    refine bodyPost_ret (v := .tuple #[.agg #[.int .i64 0, .slice none 0 0], .bool false]) (by simp [results, Try.results11, go_sem, *]) rfl ?_
    exact ⟨_, rfl, ⟨_, rfl, nil_byt _ _ _⟩, But.setNew (But.setNew K3.out (Nat.le_succ _) _) (Nat.le_succ _) _⟩
  have d4 : decide (c.1 > 4000 - (y : Int)) = false := decide_eq_false (by omega)
  rw [putA_yes ⟨H1.out, h2, H3.out, h4⟩]
  simp only [Int.toNat_natCast]
  have en : ((c.1.toNat : Nat) : Int) = c.1 := by omega
  have EN : Hid _ := en
  clear en
  go_enter Try.func11, Try.ntmps11
  repeat (first | (go_at_call 7; refine (sgood c _ _ (hv.kept (((But.refl _ _ w).alloc (.cells #[.int .i64 c.1, .slice ao c.2.length cap] 27)).alloc (.cells #[.int .i64 0, .slice none 0 0] 27))) hn hz).mono ?_; rintro e w3 ⟨rfl, k3⟩; have L3 := ((Loc.new w [.int .i64 c.1, .slice ao c.2.length cap] 27).alloc (.cells #[.int .i64 0, .slice none 0 0] 27)).kept k3; have R3 := (Loc.new (w.alloc (.cells #[.int .i64 c.1, .slice ao c.2.length cap] 27)) [.int .i64 0, .slice none 0 0] 27).kept k3; simp only [World.size_alloc] at R3; have b0 := L3.cell 0 rfl; have b1 := L3.cell 1 rfl; have e0 := R3.cell 0 rfl; have e1 := R3.cell 1 rfl; have f0 := R3.frozen 0; have f1 := R3.frozen 1; have bz := R3.lt; have K3 : Hid (Kept w w3) := (((But.refl _ _ w).alloc (.cells #[.int .i64 c.1, .slice ao c.2.length cap] 27)).alloc (.cells #[.int .i64 0, .slice none 0 0] 27)).trans k3; have R3 : Hid _ := R3; clear k3 L3; rw [d1]; dsimp only) | (go_at_call 18; refine (sin _ _ _ _).mono ?_; rintro e w4 ⟨rfl, hw4⟩; rw [hw4]; clear hw4 w4; (first | rw [d2] | rw [d3]); dsimp only) | go_values | go_skip | go_guarded | go_step | go_upon)
  go_at_call 22
  refine (sown c _ _ (hv.kept K3.out) (by omega)).mono ?_
  rintro e w5 ⟨v5, rfl, o5, k5⟩
  have K5 := K3.out.trans k5
  have s53 := k5.size
  have R5 := Loc.kept R3.out k5
  clear k5 K3 R3 b0 b1 e0 e1 f0 f1
  have s5 := K5.size
  obtain ⟨a5, p5, hf⟩ := o5.form
  subst hf
  dsimp only
  repeat (first | go_values | go_skip | go_guarded | go_step | go_upon)
  go_at_call 21
  refine (sput c.1.toNat c.2 u y w3.heap.size w5.heap.size _ w5 (by rw [EN.out]; exact o5) (by omega) (by omega) (by omega) (by omega) (by omega) hu).mono ?_
  rintro e w6 ⟨v6, rfl, o6, k6⟩
  rw [show ((c.1.toNat + y : Nat) : Int) = c.1 + y by have := EN.out; omega] at o6
  obtain ⟨a6, p6, hf⟩ := o6.form
  subst hf
  have K6 : Hid (Kept w w6) := K5.onto k6 (by omega)
  have R6 := R5.but k6 (by omega)
  have e0 := R6.cell 0 rfl
  have e1 := R6.cell 1 rfl
  have f0 := R6.frozen 0
  have f1 := R6.frozen 1
  have bz := R6.lt
  have O6 : Hid (BytO w6 w3.heap.size w6.heap.size (.slice a6 (layM c.1.toNat c.2 u y y).length p6) (layM c.1.toNat c.2 u y y)) := BitsO.row o6
  clear k6 R6 R5 K5 o5 o6
  dsimp only
  repeat (first | go_values | go_skip | go_guarded | go_step | go_upon)
  have q := own_away O6.out (but_in (i := 1) (but_in (i := 0) (But.refl (w.heap.size + 1) (w.heap.size + 2) w6) (b := w.heap.size + 1) (Nat.le_refl _) (by omega) (.int .i64 (c.1 + y))) (b := w.heap.size + 1) (Nat.le_refl _) (by omega) (.slice a6 (layM c.1.toNat c.2 u y y).length p6)) (fun g hg => .inr (by have := (own_lt O6.out.1 hg).1; omega))
  refine bodyPost_ret (v := .tuple #[.agg #[.int .i64 (c.1 + y), .slice a6 (layM c.1.toNat c.2 u y y).length p6], .bool true]) (by simp [results, Try.results11, go_sem, *]) rfl ?_
  exact ⟨_, rfl, ⟨_, rfl, (BytO.mono q (by omega) (Nat.le_refl _)).low⟩, But.setNew (But.setNew K6.out (Nat.le_succ _) _) (Nat.le_succ _) _⟩

end Go.Proofs.Ytaadlhcpgjibeaa
