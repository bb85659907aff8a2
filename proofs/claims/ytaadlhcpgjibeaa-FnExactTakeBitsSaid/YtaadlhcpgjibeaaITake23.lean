/-
  TakeBits of the program.
-/
import Derived.Test.YtaadlhcpgjibeaaNum23
import Derived.Test.YtaadlhcpgjibeaaSTakeB23
namespace Go.Proofs.Ytaadlhcpgjibeaa
open Go.ChangeShapes Go.WideShapes Go.ChangeAt Go.RowKit

set_option maxRecDepth 100000
set_option linter.unusedVariables false
set_option linter.unusedSimpArgs false

theorem iwidth (n : Int) (w : World) : Calls Try.prog 23 #[.int .i64 n] w fun e w' => e = .returned (.bool (decide (0 ≤ n ∧ n ≤ 32))) ∧ w' = w := by
  by_cases h1 : 0 ≤ n
  · by_cases h2 : n ≤ 32
    · have d1 : decide (0 ≤ n) = true := decide_eq_true h1
      have d2 : decide (n ≤ 32) = true := decide_eq_true h2
      rw [decide_eq_true (And.intro h1 h2)]
      go_enter Try.func23, Try.ntmps23
      go_wp2
      go_ret
      simp
    · have d1 : decide (0 ≤ n) = true := decide_eq_true h1
      have d2 : decide (n ≤ 32) = false := decide_eq_false h2
      rw [decide_eq_false (fun h => h2 h.2)]
      go_enter Try.func23, Try.ntmps23
      go_wp2
      go_ret
      simp
  · have d1 : decide (0 ≤ n) = false := decide_eq_false h1
    rw [decide_eq_false (fun h => h1 h.1)]
    go_enter Try.func23, Try.ntmps23
    go_wp2
    go_ret
    simp

theorem low_zero (x k : Nat) (hx : x < 256) (hk : k < 8) (h : x * 2 ^ k % 256 = 0) (i : Nat) (hi : k ≤ i) (hi2 : i < 8) : x / 2 ^ (7 - i) % 2 = 0 := by
  have H : ∀ k : Fin 8, ∀ x : Fin 256, x.1 * 2 ^ k.1 % 256 = 0 → ∀ i : Fin 8, k.1 ≤ i.1 → x.1 / 2 ^ (7 - i.1) % 2 = 0 := by decide +kernel
  exact H ⟨k, hk⟩ ⟨x, hx⟩ h ⟨i, hi2⟩ hi
/-- Behind the last bit of good bits there are noughts. -/
theorem bits_zero {c : BitsD} (h : BitsP c) (j : Nat) (hj : c.1 ≤ (j : Int)) : bitAt c.2 j = 0 := by
  obtain ⟨⟨h1, h2⟩, h3, h4⟩ := h
  by_cases hl : c.2.length ≤ j / 8
  · rw [bitAt, List.getElem?_eq_none hl]; simp
  · have hl : j / 8 < c.2.length := by omega
    have e : j / 8 = c.2.length - 1 := by omega
    rcases h4 with h4 | h4
    · omega
    · obtain ⟨x, hx, hl2⟩ := last_at (l := c.2) (n := c.2.length - 1) (by omega)
      unfold LowP at h4
      rw [hl2] at h4
      rw [bitAt, e, hx]
      have h5 : x.toNat * 2 ^ (c.1 % 8).toNat % 256 = 0 := by
        have h6 : ((x.toNat * 2 ^ (c.1 % 8).toNat % 256 : Nat) : Int) = 0 := by simpa using h4
        exact_mod_cast h6
      exact low_zero x.toNat (c.1 % 8).toNat x.toNat_lt (by omega) h5 (j % 8) (by omega) (by omega)

set_option maxHeartbeats 4000000 in
theorem itakeB (c : BitsD) (a m : Int) (v : Value) (w : World) (hv : BitsAt w v c) (hn : c.2.length ≤ 9000000000000000000) (hz : -9223372036854775808 ≤ c.1 ∧ c.1 ≤ 9223372036854775807) :
    Calls Try.prog 16 #[v, .int .i64 a, .int .i64 m] w fun e w' => e = .returned (.tuple #[.int .i64 (takeA c a m).1, .bool (takeA c a m).2]) ∧ Kept w w' := by
  obtain ⟨ao, cap, hfm⟩ := hv.form
  subst hfm
  have hr := hv.row
  rcases (Decidable.em (BitsP c)).symm with h1 | h1
  · have d1 : decide (BitsP c) = false := decide_eq_false h1
    have H1 : Hid _ := h1
    clear h1
    rw [takeA_no (fun h => H1.out h.1)]
    go_enter Try.func16, Try.ntmps16
    repeat (first | (go_at_call 9; refine (igood c _ _ (hv.kept ((But.refl _ _ _).alloc _)) hn hz).mono ?_; rintro e w3 ⟨rfl, k3⟩; have L3 := (Loc.new w [.int .i64 c.1, .slice ao c.2.length cap] 27).kept k3; have b0 := L3.cell 0 rfl; have b1 := L3.cell 1 rfl; have K3 : Hid (Kept w w3) := ((But.refl _ _ _).alloc _).trans k3; clear k3 L3; rw [d1]; dsimp only) | (go_at_call 23; refine (iwidth _ _).mono ?_; rintro e w4 ⟨rfl, hw4⟩; rw [hw4]; clear hw4 w4; rw [d2]; dsimp only) | go_values | go_skip | go_guarded | go_step | go_upon)
    go_ret2
    exact ⟨rfl, K3.out⟩
  have d1 : decide (BitsP c) = true := decide_eq_true h1
  have z1 := h1.1
  have z2 := h1.2.1
  have H1 : Hid _ := h1
  clear h1
  rcases (Decidable.em (0 ≤ m ∧ m ≤ 32)).symm with h2 | h2
  · have d2 : decide (0 ≤ m ∧ m ≤ 32) = false := decide_eq_false h2
    have H2 : Hid _ := h2
    clear h2
    rw [takeA_no (fun h => H2.out h.2.1)]
    go_enter Try.func16, Try.ntmps16
    repeat (first | (go_at_call 9; refine (igood c _ _ (hv.kept ((But.refl _ _ _).alloc _)) hn hz).mono ?_; rintro e w3 ⟨rfl, k3⟩; have L3 := (Loc.new w [.int .i64 c.1, .slice ao c.2.length cap] 27).kept k3; have b0 := L3.cell 0 rfl; have b1 := L3.cell 1 rfl; have K3 : Hid (Kept w w3) := ((But.refl _ _ _).alloc _).trans k3; clear k3 L3; rw [d1]; dsimp only) | (go_at_call 23; refine (iwidth _ _).mono ?_; rintro e w4 ⟨rfl, hw4⟩; rw [hw4]; clear hw4 w4; rw [d2]; dsimp only) | go_values | go_skip | go_guarded | go_step | go_upon)
    go_ret2
    exact ⟨rfl, K3.out⟩
  have d2 : decide (0 ≤ m ∧ m ≤ 32) = true := decide_eq_true h2
  rcases (Decidable.em (0 ≤ a)).symm with h3 | h3
  · have d3 : decide (a < 0) = true := by simp; omega
    rw [takeA_no (fun h => h3 h.2.2.1)]
    go_enter Try.func16, Try.ntmps16
    repeat (first | (go_at_call 9; refine (igood c _ _ (hv.kept ((But.refl _ _ _).alloc _)) hn hz).mono ?_; rintro e w3 ⟨rfl, k3⟩; have L3 := (Loc.new w [.int .i64 c.1, .slice ao c.2.length cap] 27).kept k3; have b0 := L3.cell 0 rfl; have b1 := L3.cell 1 rfl; have K3 : Hid (Kept w w3) := ((But.refl _ _ _).alloc _).trans k3; clear k3 L3; rw [d1]; dsimp only) | (go_at_call 23; refine (iwidth _ _).mono ?_; rintro e w4 ⟨rfl, hw4⟩; rw [hw4]; clear hw4 w4; rw [d2]; dsimp only) | go_values | go_skip | go_guarded | go_step | go_upon)
    go_ret2
    exact ⟨rfl, K3.out⟩
  have d3 : decide (a < 0) = false := by simp; omega
  rcases (Decidable.em (a ≤ c.1 - m)).symm with h4 | h4
  · have d4 : decide (a > c.1 - m) = true := by simp; omega
    rw [takeA_no (fun h => h4 h.2.2.2)]
    go_enter Try.func16, Try.ntmps16
    repeat (first | (go_at_call 9; refine (igood c _ _ (hv.kept ((But.refl _ _ _).alloc _)) hn hz).mono ?_; rintro e w3 ⟨rfl, k3⟩; have L3 := (Loc.new w [.int .i64 c.1, .slice ao c.2.length cap] 27).kept k3; have b0 := L3.cell 0 rfl; have b1 := L3.cell 1 rfl; have K3 : Hid (Kept w w3) := ((But.refl _ _ _).alloc _).trans k3; clear k3 L3; rw [d1]; dsimp only) | (go_at_call 23; refine (iwidth _ _).mono ?_; rintro e w4 ⟨rfl, hw4⟩; rw [hw4]; clear hw4 w4; rw [d2]; dsimp only) | go_values | go_skip | go_guarded | go_step | go_upon)
    go_ret2
    exact ⟨rfl, K3.out⟩
  have d4 : decide (a > c.1 - m) = false := by simp; omega
  rw [takeA_yes ⟨H1.out, h2, h3, h4⟩]
  obtain ⟨x, rfl⟩ := Int.eq_ofNat_of_zero_le h3
  obtain ⟨y, rfl⟩ := Int.eq_ofNat_of_zero_le h2.1
  simp only [Int.toNat_natCast]
  go_enter Try.func16, Try.ntmps16
  repeat (first | (go_at_call 9; refine (igood c _ _ (hv.kept ((But.refl _ _ _).alloc _)) hn hz).mono ?_; rintro e w3 ⟨rfl, k3⟩; have L3 := (Loc.new w [.int .i64 c.1, .slice ao c.2.length cap] 27).kept k3; have b0 := L3.cell 0 rfl; have b1 := L3.cell 1 rfl; have K3 : Hid (Kept w w3) := ((But.refl _ _ _).alloc _).trans k3; clear k3 L3; rw [d1]; dsimp only) | (go_at_call 23; refine (iwidth _ _).mono ?_; rintro e w4 ⟨rfl, hw4⟩; rw [hw4]; clear hw4 w4; rw [d2]; dsimp only) | go_values | go_skip | go_guarded | go_step | go_upon)
  have hZ : ∀ j, c.1.toNat ≤ j → bitAt c.2 j = 0 := fun j hj => bits_zero H1.out j (by omega)
  have en : ((c.1.toNat : Nat) : Int) = c.1 := by omega
  have LB := (Loc.new w3 [.int .i64 c.1, .slice ao c.2.length cap, .int .i64 (x : Int)] 53).alloc (.cells #[.iface 51 (.pointer (some ⟨w3.heap.size, 0, none⟩)), .bool false] 57)
  have LW := Loc.new (w3.alloc (.cells #[.int .i64 c.1, .slice ao c.2.length cap, .int .i64 (x : Int)] 53)) [.iface 51 (.pointer (some ⟨w3.heap.size, 0, none⟩)), .bool false] 57
  simp only [World.size_alloc] at LW
  refine (inum c.2 c.1.toNat x y w3.heap.size (w3.heap.size + 1) ao cap false w3 _ (by omega) (by omega) (by omega) (by omega) hZ (hr.kept K3.out) (((But.refl _ _ _).alloc _).alloc _) (Nat.le_refl _) (by omega) (by omega) (by rw [en]; exact LB) LW).mono ?_
  rintro e w5 ⟨rfl, k5, -⟩
  have K5 : Hid _ := K3.out.trans k5
  clear k5 K3 LB LW
  dsimp only
  repeat (first | go_values | go_skip | go_guarded | go_step | go_upon)
  go_ret2
  exact ⟨rfl, K5.out⟩

end Go.Proofs.Ytaadlhcpgjibeaa
