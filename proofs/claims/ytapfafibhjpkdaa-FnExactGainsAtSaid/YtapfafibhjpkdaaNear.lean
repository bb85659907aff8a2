/-
  What l1Near answers: the quotient to the nearest, of two as near the greater, cut to the fixed numbers.
-/
import Derived.Test.YtapfafibhjpkdaaOver
namespace Go.Proofs.Ytapfafibhjpkdaa
open Go.ChangeShapes Go.WideShapes Go.ChangeAt Go.RowKit Plain

theorem cut_any (n : Int) (w : World) (h1 : -4611686018427387904 ≤ n) (h2 : n ≤ 4611686018427387904) :
    Calls Try.prog 114 #[.int .i64 n] w fun e w' => e = .returned (.int .i64 (cutM n)) ∧ w' = w := by
  go_enter Try.func114, Try.ntmps114
  go_wp2
  · go_ret; exact ⟨retI (by unfold cutM; rw [if_pos (by omega)]), rfl⟩
  · go_ret; exact ⟨retI (by unfold cutM; rw [if_neg (by omega), if_pos (by omega)]), rfl⟩
  · go_ret; exact ⟨retI (by unfold cutM; rw [if_neg (by omega), if_neg (by omega)]), rfl⟩

theorem some_set {w : World} {p q : Addr} {x : Value} (h : (w.cell? q).isSome = true) : ((w.setCell p x).cell? q).isSome = true := by
  obtain ⟨v, hv⟩ := Option.isSome_iff_exists.1 h
  obtain ⟨v', hv'⟩ := cell?_setCell_some (p := p) (x := x) hv
  rw [hv']; rfl

set_option maxHeartbeats 400000 in
theorem near_pos (p b : Int) (w : World) (hp : 0 ≤ p) (hp' : p < 2417851639229258349412352) (hb : 0 < b) (hb' : b ≤ 1099511627776) :
    Calls Try.prog 78 #[.bool false, .agg #[.int .u64 (p/18446744073709551616), .int .u64 (p%18446744073709551616)], .int .u64 b] w fun e w' => e = .returned (.int .i64 (nearM p b)) ∧ Grown w w' := by
  go_enter Try.func78, Try.ntmps78
  go_wp2_with fail
  refine (sum_any p p _ hp (by omega) hp (by omega)).mono ?_
  rintro e w1 ⟨rfl, hg1⟩
  have z1 : w.heap.size < w1.heap.size := by have := hg1.2.2; simp at this; omega
  go_wp2_with fail
  refine (plus_any (p + p) b _ (by omega) (by omega) (by omega) (by omega)).mono ?_
  rintro e w2 ⟨rfl, hg2⟩
  have z2 : w1.heap.size < w2.heap.size := by have := hg2.2.2; simp at this; omega
  have k0 : w2.cell? ⟨w1.heap.size, 0, none⟩ = some (.int .u64 ((p+p)/18446744073709551616)) := by rw [gcell hg2 _ _ (by simp)]; simp [go_sem]
  have k1 : w2.cell? ⟨w1.heap.size, 1, none⟩ = some (.int .u64 ((p+p)%18446744073709551616)) := by rw [gcell hg2 _ _ (by simp)]; simp [go_sem]
  have f0 : w2.frozen? ⟨w1.heap.size, 0, none⟩ = false := by rw [hg2.2.1]; simp [go_sem]
  have s1 : ∀ u v, (((w2.setCell ⟨w1.heap.size, 0, none⟩ u).setCell ⟨w1.heap.size, 1, none⟩ v).cell? ⟨w1.heap.size, 1, none⟩).isSome = true := fun _ _ => some_set (some_set (by rw [k1]; rfl))
  have s2 : ∀ u v, (((w2.setCell ⟨w1.heap.size, 0, none⟩ u).setCell ⟨w1.heap.size, 1, none⟩ v).cell? ⟨w1.heap.size, 0, none⟩).isSome = true := fun _ _ => some_set (some_set (by rw [k0]; rfl))
  have s3 : ∀ u v x, ((((w2.setCell ⟨w1.heap.size, 0, none⟩ u).setCell ⟨w1.heap.size, 1, none⟩ v).setCell ⟨w1.heap.size, 0, none⟩ x).cell? ⟨w1.heap.size, 1, none⟩).isSome = true := fun _ _ _ => some_set (some_set (some_set (by rw [k1]; rfl)))
  have f1 : w2.frozen? ⟨w1.heap.size, 1, none⟩ = false := by rw [hg2.2.1]; simp [go_sem]
  go_wp2_with fail
  refine (over_any (p + p + b) (2 * b) 4398046511104 _ (by omega) (by omega) (by omega) (by omega) (by omega)).mono ?_
  rintro e w3 ⟨⟨q, rfl, q0, q1, q2, q3⟩, hg3⟩
  go_wp2_with fail
  refine (cut_any _ _ (by omega) (by omega)).mono ?_
  rintro e w4 ⟨rfl, rfl⟩
  go_wp2
  go_ret
  refine ⟨retI (near_of_pos p b q hb q2 q3), ?_⟩
  refine gtrans ?_ hg3
  have g12 : Grown w w2 := gtrans (gtrans ((Grown.refl _).alloc _ _) hg1) (gtrans ((Grown.refl _).alloc _ _) hg2)
  exact (g12.setCell (by simp; omega) _).setCell (by simp; omega) _

set_option maxHeartbeats 400000 in
theorem near_neg (p b : Int) (w : World) (hp : 0 ≤ p) (hp' : p < 2417851639229258349412352) (hb : 0 < b) (hb' : b ≤ 1099511627776) :
    Calls Try.prog 78 #[.bool true, .agg #[.int .u64 (p/18446744073709551616), .int .u64 (p%18446744073709551616)], .int .u64 b] w fun e w' => e = .returned (.int .i64 (nearM (-p) b)) ∧ Grown w w' := by
  go_enter Try.func78, Try.ntmps78
  go_wp2_with fail
  refine (sum_any p p _ hp (by omega) hp (by omega)).mono ?_
  rintro e w1 ⟨rfl, hg1⟩
  have z1 : w.heap.size < w1.heap.size := by have := hg1.2.2; simp at this; omega
  go_wp2_with fail
  refine (plus_any (p + p) b _ (by omega) (by omega) (by omega) (by omega)).mono ?_
  rintro e w2 ⟨rfl, hg2⟩
  have z2 : w1.heap.size < w2.heap.size := by have := hg2.2.2; simp at this; omega
  have k0 : w2.cell? ⟨w1.heap.size, 0, none⟩ = some (.int .u64 ((p+p)/18446744073709551616)) := by rw [gcell hg2 _ _ (by simp)]; simp [go_sem]
  have k1 : w2.cell? ⟨w1.heap.size, 1, none⟩ = some (.int .u64 ((p+p)%18446744073709551616)) := by rw [gcell hg2 _ _ (by simp)]; simp [go_sem]
  have f0 : w2.frozen? ⟨w1.heap.size, 0, none⟩ = false := by rw [hg2.2.1]; simp [go_sem]
  have s1 : ∀ u v, (((w2.setCell ⟨w1.heap.size, 0, none⟩ u).setCell ⟨w1.heap.size, 1, none⟩ v).cell? ⟨w1.heap.size, 1, none⟩).isSome = true := fun _ _ => some_set (some_set (by rw [k1]; rfl))
  have s2 : ∀ u v, (((w2.setCell ⟨w1.heap.size, 0, none⟩ u).setCell ⟨w1.heap.size, 1, none⟩ v).cell? ⟨w1.heap.size, 0, none⟩).isSome = true := fun _ _ => some_set (some_set (by rw [k0]; rfl))
  have s3 : ∀ u v x, ((((w2.setCell ⟨w1.heap.size, 0, none⟩ u).setCell ⟨w1.heap.size, 1, none⟩ v).setCell ⟨w1.heap.size, 0, none⟩ x).cell? ⟨w1.heap.size, 1, none⟩).isSome = true := fun _ _ _ => some_set (some_set (some_set (by rw [k1]; rfl)))
  have f1 : w2.frozen? ⟨w1.heap.size, 1, none⟩ = false := by rw [hg2.2.1]; simp [go_sem]
  have b0 : 0 < (p + p + b) / 18446744073709551616 ∨ 0 < (p + p + b) % 18446744073709551616 := by omega
  have b1 : 0 ≤ (p + p + b) / 18446744073709551616 := by omega
  have b2 : (p + p + b) / 18446744073709551616 < 4611686018427387904 := by omega
  have b3 : 0 ≤ (p + p + b) % 18446744073709551616 := by omega
  have b4 : (p + p + b) % 18446744073709551616 < 18446744073709551616 := by omega
  generalize eH : (p + p + b) / 18446744073709551616 = H at *
  generalize eL : (p + p + b) % 18446744073709551616 = L at *
  have HH : Hid ((p + p + b) / 18446744073709551616 = H) := eH
  have HL : Hid ((p + p + b) % 18446744073709551616 = L) := eL
  clear eH eL
  by_cases hz : L = 0
  · have hz' : (L == 0) = true := beq_iff_eq.2 hz
    have b5 : 0 < H := by omega
    have b6 : L ≤ 0 := by omega
    clear hz b0 b4
    go_wp2_with fail
    have a1 : H - 1 = (p + p + b - 1) / 18446744073709551616 := by have := HH.out; have := HL.out; omega
    have a2 : IntKind.u64.wrap (L - 1) = (p + p + b - 1) % 18446744073709551616 := by have := HL.out; rw [IntKind.wrap_u64]; omega
    rw [a1, a2]
    clear a1 a2
    refine (over_any (p + p + b - 1) (2 * b) 4398046511104 _ (by omega) (by omega) (by omega) (by omega) (by omega)).mono ?_
    rintro e w3 ⟨⟨q, rfl, q0, q1, q2, q3⟩, hg3⟩
    go_wp2_with fail
    refine (cut_any _ _ (by omega) (by omega)).mono ?_
    rintro e w4 ⟨rfl, rfl⟩
    go_wp2
    go_ret
    refine ⟨retI (near_of_neg p b q hb q2 q3), ?_⟩
    refine gtrans ?_ hg3
    have g12 : Grown w w2 := gtrans (gtrans ((Grown.refl _).alloc _ _) hg1) (gtrans ((Grown.refl _).alloc _ _) hg2)
    exact (((g12.setCell (by simp; omega) _).setCell (by simp; omega) _).setCell (by simp; omega) _).setCell (by simp; omega) _
  · have hz' : (L == 0) = false := by simpa using hz
    have b5 : 0 < L := by omega
    clear hz b0
    go_wp2_with fail
    have a1 : H = (p + p + b - 1) / 18446744073709551616 := by have := HH.out; have := HL.out; omega
    have a2 : L - 1 = (p + p + b - 1) % 18446744073709551616 := by have := HL.out; omega
    rw [a2]
    conv => enter [3, 1, 1, 1]; rw [a1]
    clear a1 a2
    refine (over_any (p + p + b - 1) (2 * b) 4398046511104 _ (by omega) (by omega) (by omega) (by omega) (by omega)).mono ?_
    rintro e w3 ⟨⟨q, rfl, q0, q1, q2, q3⟩, hg3⟩
    go_wp2_with fail
    refine (cut_any _ _ (by omega) (by omega)).mono ?_
    rintro e w4 ⟨rfl, rfl⟩
    go_wp2
    go_ret
    refine ⟨retI (near_of_neg p b q hb q2 q3), ?_⟩
    refine gtrans ?_ hg3
    have g12 : Grown w w2 := gtrans (gtrans ((Grown.refl _).alloc _ _) hg1) (gtrans ((Grown.refl _).alloc _ _) hg2)
    exact ((g12.setCell (by simp; omega) _).setCell (by simp; omega) _).setCell (by simp; omega) _
end Go.Proofs.Ytapfafibhjpkdaa
