/-
  Lists of changes marked.
-/
import Derived.Test.YtklgjhemcofhhaaDoorChg
import Derived.Test.YtklgjhemcofhhaaDoorText
import Derived.Test.YtklgjhemcofhhaaDoorQuiet
namespace Go.Proofs.YtklgjhemcofhhaaDoor
open Go.ChangeShapes Go.WideShapes Go.ChangeAt Go.RowKit

set_option maxRecDepth 100000
set_option linter.unusedVariables false
set_option linter.unusedSimpArgs false

def mChg (k i : Nat) : ChgD := (((k + 5 * i : Nat) : Int), ((k + 5 * i : Nat) : Int) + 1, mtext (k + 5 * i + 2), mtext (k + 5 * i + 3), ((k + 5 * i : Nat) : Int) + 1 + 1 + 1 + 1)
def mChgs (k n : Nat) : List ChgD := (List.range n).map (mChg k)
theorem mChgs_len (k n : Nat) : (mChgs k n).length = n := by simp [mChgs]
theorem mChgs_get (k n i : Nat) (h : i < n) : (mChgs k n)[i]? = some (mChg k i) := by simp [mChgs, h]
set_option maxHeartbeats 8000000 in
theorem markChgS (ps : List ChgD) (v : Value) (k lo hi : Nat) (w : World) (hv : ChgO w lo hi v ps) (hb : k + 5 * ps.length ≤ 1000000000000) :
    Calls Tryd.prog 20 #[v, .int .i64 (k : Int)] w fun e w' => e = .returned (.int .i64 ((k + 5 * ps.length : Nat) : Int)) ∧ ChgO w' lo hi v (mChgs k ps.length) ∧ But (blo v) (bhi v) w w' := by
  obtain ⟨ao, cap, hsl, _⟩ := own_form hv.1
  subst hsl
  go_enter Tryd.func20, Tryd.ntmps20
  go_wp2
  go_loopw [1, 5] (fun kk i wr => ∃ (j : Nat), j ≤ ps.length ∧ i = .int .i64 j ∧ kk = .int .i64 ((k + 5 * j : Nat) : Int) ∧ ChgO wr lo hi (.slice ao ps.length cap) (mix (mChgs k ps.length) ps j) ∧ But (blo (.slice ao ps.length cap)) (bhi (.slice ao ps.length cap)) w wr) (fun kk i _ => ps.length - (intOf i).toNat)
  case atStart => exact ⟨0, by omega, rfl, rfl, by rw [mix_zero]; exact hv, But.refl _ _ _⟩
  case round =>
    obtain ⟨j, hj, rfl, rfl, ho, hkp⟩ := hrel
    by_cases hlt : j < ps.length
    · obtain ⟨p, hp⟩ : ∃ p, ps[j]? = some p := ⟨_, List.getElem?_eq_getElem hlt⟩
      have hmg : (mix (mChgs k ps.length) ps j)[j]? = some p := by rw [mix_get _ _ _ (mChgs_len _ _) hlt]; exact hp
      have hml : ps.length = (mix (mChgs k ps.length) ps j).length := (mix_len _ _ _ (mChgs_len _ _) hj).symm
      obtain ⟨b, o, cap1, e, _⟩ := chg_get ho.at hmg
      rw [← hml] at e
      cases e
      obtain ⟨g', cap', hfm, _⟩ : ∃ g cap', Value.slice (some ⟨b, o, none⟩) ps.length cap = .slice (some ⟨g, 0, none⟩) ps.length cap' ∧ True := by
        rcases ho.1.2 with ⟨hf, _⟩ | ⟨g, c2, cur, hf, _⟩
        · cases hf
        · rw [← hml] at hf; exact ⟨g, c2, hf, trivial⟩
      cases hfm
      have hkb : k + 5 * j + 5 ≤ 1000000000000 := by omega
      have hmp : (mChgs k ps.length)[j]? = some (mChg k j) := mChgs_get k _ j hlt
      unfold mChg at hmp
      generalize hK : k + 5 * j = K at *
      have HST : Hid ((mix (mChgs k ps.length) ps j).set j (((K : Nat) : Int), ((K : Nat) : Int) + 1, mtext (K + 2), mtext (K + 3), ((K : Nat) : Int) + 1 + 1 + 1 + 1) = mix (mChgs k ps.length) ps (j + 1)) := mix_set _ _ j _ (mChgs_len k ps.length) hmp
      have HK : Hid (k + 5 * j = K) := hK
      have HB : Hid (But (blo (.slice (some ⟨b, 0, none⟩) ps.length cap)) (bhi (.slice (some ⟨b, 0, none⟩) ps.length cap)) w wr) := hkp
      obtain ⟨ys, hys⟩ : ∃ ys, mix (mChgs k ps.length) ps j = ys := ⟨_, rfl⟩
      rw [hys] at ho hmg hml HST
      obtain ⟨p0, p1, p2, p3, p4⟩ := p
      have HJY : Hid (j < ys.length) := by show j < ys.length; omega
      have HL : Hid (ps.length = ys.length) := hml
      have MT2 : Hid (∀ W, Calls Tryd.prog 29 #[.int .i64 ((K : Int) + 1 + 1)] W fun e w' => e = .returned (.string (mtext (K + 2))) ∧ Kept W w') := fun W => by have := markText (K + 2) (by omega) W; simpa [Int.add_assoc] using this
      have MT3 : Hid (∀ W, Calls Tryd.prog 29 #[.int .i64 ((K : Int) + 1 + 1 + 1)] W fun e w' => e = .returned (.string (mtext (K + 3))) ∧ Kept W w') := fun W => by have := markText (K + 3) (by omega) W; simpa [Int.add_assoc] using this
      obtain ⟨e0, e1, e2, e3, e4, ez⟩ := ho.cells hmg
      dsimp only at e0 e1 e2 e3 e4
      have ey0 := ez (j * 5)
      have ey1 := ez (j * 5 + 1)
      clear ez e2 e3 e4
      have X1 := ho.set (by (repeat rw [List.length_set]); exact HL.out) hmg 0 (by omega) (.int .i64 (((K : Nat) : Int))) (q := (((K : Nat) : Int), p1, p2, p3, p4)) rfl
      (try rw [List.set_set] at X1)
      have g1 : (ys.set j (((K : Nat) : Int), p1, p2, p3, p4))[j]? = some (((K : Nat) : Int), p1, p2, p3, p4) := by simp [HJY.out]
      have X2 := X1.set (by (repeat rw [List.length_set]); exact HL.out) g1 1 (by omega) (.int .i64 (((K : Nat) : Int) + 1)) (q := (((K : Nat) : Int), ((K : Nat) : Int) + 1, p2, p3, p4)) rfl
      (try rw [List.set_set] at X2)
      have g2 : (ys.set j (((K : Nat) : Int), ((K : Nat) : Int) + 1, p2, p3, p4))[j]? = some (((K : Nat) : Int), ((K : Nat) : Int) + 1, p2, p3, p4) := by simp [HJY.out]
      have HX2 : Hid (ChgO ((wr.setCell ⟨b, j * 5, none⟩ (.int .i64 (((K : Nat) : Int)))).setCell ⟨b, j * 5 + 1, none⟩ (.int .i64 (((K : Nat) : Int) + 1))) lo hi (.slice (some ⟨b, 0, none⟩) ps.length cap) (ys.set j (((K : Nat) : Int), ((K : Nat) : Int) + 1, p2, p3, p4)) ∧ (ys.set j (((K : Nat) : Int), ((K : Nat) : Int) + 1, p2, p3, p4))[j]? = some (((K : Nat) : Int), ((K : Nat) : Int) + 1, p2, p3, p4)) := ⟨X2, g2⟩
      have HB2 : Hid (But (blo (.slice (some ⟨b, 0, none⟩) ps.length cap)) (bhi (.slice (some ⟨b, 0, none⟩) ps.length cap)) w ((wr.setCell ⟨b, j * 5, none⟩ (.int .i64 (((K : Nat) : Int)))).setCell ⟨b, j * 5 + 1, none⟩ (.int .i64 (((K : Nat) : Int) + 1)))) := ((HB.out.trans (but_set _ _ _ _ _ _)).trans (but_set _ _ _ _ _ _))
      clear hK ho hkp hv hml hmg hys hmp hp X1 g1 X2 g2
      repeat (first
        | (go_at_call 29; with_reducible refine (MT2.out _).mono ?_
           rintro e w2 ⟨rfl, k2⟩
           have Y2 := HX2.out.1.kept k2
           have y2 := HX2.out.2
           obtain ⟨e0, e1, e2, e3, e4, ez⟩ := Y2.cells y2
           dsimp only at e0 e1 e2 e3 e4
           have ey2 := ez (j * 5 + 2)
           clear ez e0 e1 e3 e4
           have X3 := Y2.set (by (repeat rw [List.length_set]); exact HL.out) y2 2 (by omega) (.string (mtext (K + 2))) (q := (((K : Nat) : Int), ((K : Nat) : Int) + 1, mtext (K + 2), p3, p4)) rfl
           (try rw [List.set_set] at X3)
           have g3 : (ys.set j (((K : Nat) : Int), ((K : Nat) : Int) + 1, mtext (K + 2), p3, p4))[j]? = some (((K : Nat) : Int), ((K : Nat) : Int) + 1, mtext (K + 2), p3, p4) := by simp [HJY.out]
           have HX3 : Hid (ChgO (w2.setCell ⟨b, j * 5 + 2, none⟩ (.string (mtext (K + 2)))) lo hi (.slice (some ⟨b, 0, none⟩) ps.length cap) (ys.set j (((K : Nat) : Int), ((K : Nat) : Int) + 1, mtext (K + 2), p3, p4)) ∧ (ys.set j (((K : Nat) : Int), ((K : Nat) : Int) + 1, mtext (K + 2), p3, p4))[j]? = some (((K : Nat) : Int), ((K : Nat) : Int) + 1, mtext (K + 2), p3, p4)) := ⟨X3, g3⟩
           have HB3 : Hid (But (blo (.slice (some ⟨b, 0, none⟩) ps.length cap)) (bhi (.slice (some ⟨b, 0, none⟩) ps.length cap)) w (w2.setCell ⟨b, j * 5 + 2, none⟩ (.string (mtext (K + 2))))) := (HB2.out.transK k2).trans (but_set _ _ _ _ _ _)
           clear Y2 y2 k2 X3 g3
           dsimp only)
        | (go_at_call 29; with_reducible refine (MT3.out _).mono ?_
           rintro e w3 ⟨rfl, k3⟩
           have Y3 := HX3.out.1.kept k3
           have y3 := HX3.out.2
           obtain ⟨e0, e1, e2, e3, e4, ez⟩ := Y3.cells y3
           dsimp only at e0 e1 e2 e3 e4
           have ey3 := ez (j * 5 + 3)
           have ey4 := ez (j * 5 + 4)
           clear ez e0 e1 e2
           have X4 := Y3.set (by (repeat rw [List.length_set]); exact HL.out) y3 3 (by omega) (.string (mtext (K + 3))) (q := (((K : Nat) : Int), ((K : Nat) : Int) + 1, mtext (K + 2), mtext (K + 3), p4)) rfl
           (try rw [List.set_set] at X4)
           have g4 : (ys.set j (((K : Nat) : Int), ((K : Nat) : Int) + 1, mtext (K + 2), mtext (K + 3), p4))[j]? = some (((K : Nat) : Int), ((K : Nat) : Int) + 1, mtext (K + 2), mtext (K + 3), p4) := by simp [HJY.out]
           have X5 := X4.set (by (repeat rw [List.length_set]); exact HL.out) g4 4 (by omega) (.int .i64 (((K : Nat) : Int) + 1 + 1 + 1 + 1)) (q := (((K : Nat) : Int), ((K : Nat) : Int) + 1, mtext (K + 2), mtext (K + 3), ((K : Nat) : Int) + 1 + 1 + 1 + 1)) rfl
           (try rw [List.set_set] at X5)
           have g5 : (ys.set j (((K : Nat) : Int), ((K : Nat) : Int) + 1, mtext (K + 2), mtext (K + 3), ((K : Nat) : Int) + 1 + 1 + 1 + 1))[j]? = some (((K : Nat) : Int), ((K : Nat) : Int) + 1, mtext (K + 2), mtext (K + 3), ((K : Nat) : Int) + 1 + 1 + 1 + 1) := by simp [HJY.out]
           have HX5 : Hid (ChgO ((w3.setCell ⟨b, j * 5 + 3, none⟩ (.string (mtext (K + 3)))).setCell ⟨b, j * 5 + 4, none⟩ (.int .i64 (((K : Nat) : Int) + 1 + 1 + 1 + 1))) lo hi (.slice (some ⟨b, 0, none⟩) ps.length cap) (ys.set j (((K : Nat) : Int), ((K : Nat) : Int) + 1, mtext (K + 2), mtext (K + 3), ((K : Nat) : Int) + 1 + 1 + 1 + 1)) ∧ (ys.set j (((K : Nat) : Int), ((K : Nat) : Int) + 1, mtext (K + 2), mtext (K + 3), ((K : Nat) : Int) + 1 + 1 + 1 + 1))[j]? = some (((K : Nat) : Int), ((K : Nat) : Int) + 1, mtext (K + 2), mtext (K + 3), ((K : Nat) : Int) + 1 + 1 + 1 + 1)) := ⟨X5, g5⟩
           have HB5 : Hid (But (blo (.slice (some ⟨b, 0, none⟩) ps.length cap)) (bhi (.slice (some ⟨b, 0, none⟩) ps.length cap)) w ((w3.setCell ⟨b, j * 5 + 3, none⟩ (.string (mtext (K + 3)))).setCell ⟨b, j * 5 + 4, none⟩ (.int .i64 (((K : Nat) : Int) + 1 + 1 + 1 + 1)))) := ((HB3.out.transK k3).trans (but_set _ _ _ _ _ _)).trans (but_set _ _ _ _ _ _)
           clear Y3 y3 k3 X4 g4 X5 g5
           dsimp only)
        | go_values | go_skip | go_guarded | go_step | go_upon)
      have hK := HK.out
      exact ⟨⟨j + 1, hlt, by go_num, by congr 1; omega, by rw [← HST.out]; exact HX5.out.1, HB5.out⟩, by simp [intOf]; omega⟩
    · have hke : j = ps.length := by omega
      subst hke
      go_wp2
      go_ret
      refine ⟨rfl, ?_, hkp⟩
      rw [mix_all _ _ _ (mChgs_len _ _) rfl] at ho
      exact ho

end Go.Proofs.YtklgjhemcofhhaaDoor
