/-
  Lists of meant ones marked, and their marks found again.
-/
import Derived.Test.YthkfpbknfjapaaaMeant
import Derived.Test.YthkfpbknfjapaaaText
import Derived.Test.YthkfpbknfjapaaaQuiet
namespace Go.Proofs.Ythkfpbknfjapaaa
open Go.ChangeShapes Go.WideShapes Go.ChangeAt Go.RowKit

set_option maxRecDepth 100000
set_option linter.unusedVariables false

def mMeant (k i : Nat) : MeantD := (((k + 3 * i : Nat) : Int), mtext (k + 3 * i + 1), (((k + 3 * i : Nat) : Int) + 1 + 1) % 3 == 0)
def mMeants (k n : Nat) : List MeantD := (List.range n).map (mMeant k)
theorem mMeants_len (k n : Nat) : (mMeants k n).length = n := by simp [mMeants]
theorem mMeants_get (k n i : Nat) (h : i < n) : (mMeants k n)[i]? = some (mMeant k i) := by simp [mMeants, h]
set_option maxHeartbeats 4000000 in
theorem markMeantS (ps : List MeantD) (v : Value) (k lo hi : Nat) (w : World) (hv : MeantO w lo hi v ps) (hb : k + 3 * ps.length ≤ 1000000000000) :
    Calls Try.prog 30 #[v, .int .i64 (k : Int)] w fun e w' => e = .returned (.int .i64 ((k + 3 * ps.length : Nat) : Int)) ∧ MeantO w' lo hi v (mMeants k ps.length) ∧ But (blo v) (bhi v) w w' := by
  obtain ⟨ao, cap, hsl, _⟩ := own_form hv.1
  subst hsl
  go_enter Try.func30, Try.ntmps30
  go_wp2
  go_loopw [1, 5] (fun kk i wr => ∃ (j : Nat), j ≤ ps.length ∧ i = .int .i64 j ∧ kk = .int .i64 ((k + 3 * j : Nat) : Int) ∧ MeantO wr lo hi (.slice ao ps.length cap) (mix (mMeants k ps.length) ps j) ∧ But (blo (.slice ao ps.length cap)) (bhi (.slice ao ps.length cap)) w wr) (fun kk i _ => ps.length - (intOf i).toNat)
  case atStart => exact ⟨0, by omega, rfl, rfl, by rw [mix_zero]; exact hv, But.refl _ _ _⟩
  case round =>
    obtain ⟨j, hj, rfl, rfl, ho, hkp⟩ := hrel
    by_cases hlt : j < ps.length
    · obtain ⟨p, hp⟩ : ∃ p, ps[j]? = some p := ⟨_, List.getElem?_eq_getElem hlt⟩
      have hmg : (mix (mMeants k ps.length) ps j)[j]? = some p := by rw [mix_get _ _ _ (mMeants_len _ _) hlt]; exact hp
      have hml : ps.length = (mix (mMeants k ps.length) ps j).length := (mix_len _ _ _ (mMeants_len _ _) hj).symm
      obtain ⟨b, o, cap1, e, _⟩ := meant_get ho.at hmg
      rw [← hml] at e
      cases e
      obtain ⟨g', cap', hfm, _⟩ : ∃ g cap', Value.slice (some ⟨b, o, none⟩) ps.length cap = .slice (some ⟨g, 0, none⟩) ps.length cap' ∧ True := by
        rcases ho.1.2 with ⟨hf, _⟩ | ⟨g, c2, cur, hf, _⟩
        · cases hf
        · rw [← hml] at hf; exact ⟨g, c2, hf, trivial⟩
      cases hfm
      have hkb : k + 3 * j + 3 ≤ 1000000000000 := by omega
      have hmp : (mMeants k ps.length)[j]? = some (mMeant k j) := mMeants_get k _ j hlt
      unfold mMeant at hmp
      generalize hK : k + 3 * j = K at *
      have HST : Hid ((mix (mMeants k ps.length) ps j).set j (((K : Nat) : Int), mtext (K + 1), (((K : Nat) : Int) + 1 + 1) % 3 == 0) = mix (mMeants k ps.length) ps (j + 1)) := mix_set _ _ j _ (mMeants_len k ps.length) hmp
      have HK : Hid (k + 3 * j = K) := hK
      have HB : Hid (But (blo (.slice (some ⟨b, 0, none⟩) ps.length cap)) (bhi (.slice (some ⟨b, 0, none⟩) ps.length cap)) w wr) := hkp
      obtain ⟨ys, hys⟩ : ∃ ys, mix (mMeants k ps.length) ps j = ys := ⟨_, rfl⟩
      rw [hys] at ho hmg hml HST
      obtain ⟨p0, p1, p2⟩ := p
      have hjy : j < ys.length := by omega
      obtain ⟨d0, d1, d2, dz⟩ := ho.cells hmg
      dsimp only at d0 d1 d2
      have X1 := ho.set hml hmg 0 (by omega) (.int .i64 (K : Int)) (q := ((K : Int), p1, p2)) rfl
      have g1 : (ys.set j ((K : Int), p1, p2))[j]? = some ((K : Int), p1, p2) := by simp [hjy]
      have HX : Hid (MeantO (wr.setCell ⟨b, j * 3 + 0, none⟩ (.int .i64 (K : Int))) lo hi (.slice (some ⟨b, 0, none⟩) ps.length cap) (ys.set j ((K : Int), p1, p2)) ∧ (ys.set j ((K : Int), p1, p2))[j]? = some ((K : Int), p1, p2)) := ⟨X1, g1⟩
      have dz0 := dz (j * 3)
      have HL : Hid (ps.length = ys.length) := hml
      have MTX : Hid (∀ W, Calls Try.prog 67 #[.int .i64 ((K : Int) + 1)] W fun e w' => e = .returned (.string (mtext (K + 1))) ∧ Kept W w') := fun W => by have := markText (K + 1) (by omega) W; simpa using this
      clear hK ho hkp hv hml hmg hys dz X1 g1 hmp hp
      repeat (first
        | (go_at_call 67; refine (MTX.out _).mono ?_
           rintro e w2 ⟨rfl, k2⟩
           have X2 := HX.out.1.kept k2
           obtain ⟨e0, e1, e2, ez⟩ := X2.cells HX.out.2
           dsimp only at e0 e1 e2
           have ez1 := ez (j * 3 + 1)
           have X3 := X2.set (by rw [List.length_set]; exact HL.out) HX.out.2 1 (by omega) (.string (mtext (K + 1))) (q := ((K : Int), mtext (K + 1), p2)) rfl
           have g3 : ((ys.set j ((K : Int), p1, p2)).set j ((K : Int), mtext (K + 1), p2))[j]? = some ((K : Int), mtext (K + 1), p2) := by simp [hjy]
           obtain ⟨f0, f1, f2, fz⟩ := X3.cells g3
           dsimp only at f0 f1 f2
           have fz2 := fz (j * 3 + 2)
           have X4 := X3.set (by rw [List.length_set, List.length_set]; exact HL.out) g3 2 (by omega) (.bool ((((K : Nat) : Int) + 1 + 1) % 3 == 0)) (q := (((K : Nat) : Int), mtext (K + 1), (((K : Nat) : Int) + 1 + 1) % 3 == 0)) rfl
           rw [List.set_set, List.set_set] at X4
           have HX4 : Hid (MeantO _ lo hi (.slice (some ⟨b, 0, none⟩) ps.length cap) (ys.set j (((K : Nat) : Int), mtext (K + 1), (((K : Nat) : Int) + 1 + 1) % 3 == 0))) := X4
           have HB2 : Hid (But (blo (.slice (some ⟨b, 0, none⟩) ps.length cap)) (bhi (.slice (some ⟨b, 0, none⟩) ps.length cap)) w w2) := (HB.out.trans (but_set _ _ _ _ _ _)).transK k2
           clear X2 X3 X4 g3 ez fz k2 f0 f1 e0 e2
           dsimp only)
        | go_values | go_skip | go_guarded | go_step | go_upon)
      have hK := HK.out
      refine ⟨⟨j + 1, hlt, by go_num, by congr 1; omega, by rw [← HST.out]; exact HX4.out, ?_⟩, by simp [intOf]; omega⟩
      exact (HB2.out.trans (but_set _ _ _ _ _ _)).trans (but_set _ _ _ _ _ _)
    · have hke : j = ps.length := by omega
      subst hke
      go_wp2
      go_ret
      refine ⟨rfl, ?_, hkp⟩
      rw [mix_all _ _ _ (mMeants_len _ _) rfl] at ho
      exact ho
set_option maxHeartbeats 4000000 in
theorem heldMeantS (n : Nat) (v : Value) (k : Nat) (w : World) (hv : MeantAt w v (mMeants k n)) (hb : k + 3 * n ≤ 1000000000000) :
    Calls Try.prog 31 #[v, .int .i64 (k : Int)] w fun e w' => e = .returned (.int .i64 ((k + 3 * n : Nat) : Int)) ∧ Kept w w' := by
  obtain ⟨ao, cap, hsl⟩ := row_nil hv
  rw [mMeants_len] at hsl
  subst hsl
  go_enter Try.func31, Try.ntmps31
  go_wp2
  go_loopw [1, 5] (fun kk i wr => ∃ (j : Nat), j ≤ n ∧ i = .int .i64 j ∧ kk = .int .i64 ((k + 3 * j : Nat) : Int) ∧ Kept w wr) (fun kk i _ => n - (intOf i).toNat)
  case atStart => exact ⟨0, by omega, rfl, rfl, But.refl _ _ _⟩
  case round =>
    obtain ⟨j, hj, rfl, rfl, hkp⟩ := hrel
    by_cases hlt : j < n
    · obtain ⟨b, o, cap1, e, c0, c1, c2⟩ := meant_get (hv.kept hkp) (mMeants_get k n j hlt)
      rw [mMeants_len] at e
      cases e
      have hkb : k + 3 * j + 3 ≤ 1000000000000 := by omega
      simp only [mMeant] at c0 c1 c2
      generalize hK : k + 3 * j = K at *
      have HK : Hid (k + 3 * j = K) := hK
      have HB : Hid (Kept w wr) := hkp
      have z1 : (0 : Int) ≤ (j : Int) := by omega
      have z2 : (j : Int) < (n : Int) := by omega
      have hgw : b < wr.heap.size := World.block_lt_of_cell? _ _ c0
      have MTX : Hid (∀ W, Calls Try.prog 67 #[.int .i64 ((K : Int) + 1)] W fun e w' => e = .returned (.string (mtext (K + 1))) ∧ Kept W w') := fun W => by have := markText (K + 1) (by omega) W; simpa using this
      clear hK hkp hv
      repeat (first | go_values | go_skip | go_guarded | go_step | go_upon)
      refine wp_region_kept (by kernel_rfl) (by kernel_rfl) ?_
      have hcc := @KW.cell_eq
      repeat (go_big_quiet_step (first | (go_at_call 67; exact kw_call (MTX.out _))))
      refine wpQuiet_nil ?_
      rintro w5 ⟨⟨w8, k5⟩, h9⟩
      change w5 = w8 at h9
      subst h9
      clear hcc
      have c2 := Kept.cell k5 c2
      repeat (first | go_values | go_skip | go_guarded | go_step | go_upon)
      have hK := HK.out
      exact ⟨⟨j + 1, hlt, by go_num, by congr 1; omega, HB.out.trans k5⟩, by simp [intOf]; omega⟩
    · have hke : j = n := by omega
      subst hke
      go_wp2
      go_ret
      exact ⟨rfl, hkp⟩

end Go.Proofs.Ythkfpbknfjapaaa
