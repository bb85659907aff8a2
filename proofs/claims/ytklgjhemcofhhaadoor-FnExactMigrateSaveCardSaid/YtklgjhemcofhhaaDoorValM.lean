/-
  Lists of values marked.
-/
import Derived.Test.YtklgjhemcofhhaaDoorVal
import Derived.Test.YtklgjhemcofhhaaDoorText
import Derived.Test.YtklgjhemcofhhaaDoorQuiet
namespace Go.Proofs.YtklgjhemcofhhaaDoor
open Go.ChangeShapes Go.WideShapes Go.ChangeAt Go.RowKit

set_option maxRecDepth 100000
set_option linter.unusedVariables false
set_option linter.unusedSimpArgs false

def mVal (k i : Nat) : ValD := (mtext (k + 3 * i), ((k + 3 * i : Nat) : Int) + 1, mtext (k + 3 * i + 2))
def mVals (k n : Nat) : List ValD := (List.range n).map (mVal k)
theorem mVals_len (k n : Nat) : (mVals k n).length = n := by simp [mVals]
theorem mVals_get (k n i : Nat) (h : i < n) : (mVals k n)[i]? = some (mVal k i) := by simp [mVals, h]
set_option maxHeartbeats 8000000 in
theorem markValS (ps : List ValD) (v : Value) (k lo hi : Nat) (w : World) (hv : ValO w lo hi v ps) (hb : k + 3 * ps.length ≤ 1000000000000) :
    Calls Tryd.prog 11 #[v, .int .i64 (k : Int)] w fun e w' => e = .returned (.int .i64 ((k + 3 * ps.length : Nat) : Int)) ∧ ValO w' lo hi v (mVals k ps.length) ∧ But (blo v) (bhi v) w w' := by
  obtain ⟨ao, cap, hsl, _⟩ := own_form hv.1
  subst hsl
  go_enter Tryd.func11, Tryd.ntmps11
  go_wp2
  go_loopw [1, 5] (fun kk i wr => ∃ (j : Nat), j ≤ ps.length ∧ i = .int .i64 j ∧ kk = .int .i64 ((k + 3 * j : Nat) : Int) ∧ ValO wr lo hi (.slice ao ps.length cap) (mix (mVals k ps.length) ps j) ∧ But (blo (.slice ao ps.length cap)) (bhi (.slice ao ps.length cap)) w wr) (fun kk i _ => ps.length - (intOf i).toNat)
  case atStart => exact ⟨0, by omega, rfl, rfl, by rw [mix_zero]; exact hv, But.refl _ _ _⟩
  case round =>
    obtain ⟨j, hj, rfl, rfl, ho, hkp⟩ := hrel
    by_cases hlt : j < ps.length
    · obtain ⟨p, hp⟩ : ∃ p, ps[j]? = some p := ⟨_, List.getElem?_eq_getElem hlt⟩
      have hmg : (mix (mVals k ps.length) ps j)[j]? = some p := by rw [mix_get _ _ _ (mVals_len _ _) hlt]; exact hp
      have hml : ps.length = (mix (mVals k ps.length) ps j).length := (mix_len _ _ _ (mVals_len _ _) hj).symm
      obtain ⟨b, o, cap1, e, _⟩ := val_get ho.at hmg
      rw [← hml] at e
      cases e
      obtain ⟨g', cap', hfm, _⟩ : ∃ g cap', Value.slice (some ⟨b, o, none⟩) ps.length cap = .slice (some ⟨g, 0, none⟩) ps.length cap' ∧ True := by
        rcases ho.1.2 with ⟨hf, _⟩ | ⟨g, c2, cur, hf, _⟩
        · cases hf
        · rw [← hml] at hf; exact ⟨g, c2, hf, trivial⟩
      cases hfm
      have hkb : k + 3 * j + 3 ≤ 1000000000000 := by omega
      have hmp : (mVals k ps.length)[j]? = some (mVal k j) := mVals_get k _ j hlt
      unfold mVal at hmp
      generalize hK : k + 3 * j = K at *
      have HST : Hid ((mix (mVals k ps.length) ps j).set j (mtext (K), ((K : Nat) : Int) + 1, mtext (K + 2)) = mix (mVals k ps.length) ps (j + 1)) := mix_set _ _ j _ (mVals_len k ps.length) hmp
      have HK : Hid (k + 3 * j = K) := hK
      have HB : Hid (But (blo (.slice (some ⟨b, 0, none⟩) ps.length cap)) (bhi (.slice (some ⟨b, 0, none⟩) ps.length cap)) w wr) := hkp
      obtain ⟨ys, hys⟩ : ∃ ys, mix (mVals k ps.length) ps j = ys := ⟨_, rfl⟩
      rw [hys] at ho hmg hml HST
      obtain ⟨p0, p1, p2⟩ := p
      have HJY : Hid (j < ys.length) := by show j < ys.length; omega
      have HL : Hid (ps.length = ys.length) := hml
      have MT0 : Hid (∀ W, Calls Tryd.prog 29 #[.int .i64 ((K : Int))] W fun e w' => e = .returned (.string (mtext (K))) ∧ Kept W w') := fun W => markText K (by omega) W
      have MT2 : Hid (∀ W, Calls Tryd.prog 29 #[.int .i64 ((K : Int) + 1 + 1)] W fun e w' => e = .returned (.string (mtext (K + 2))) ∧ Kept W w') := fun W => by have := markText (K + 2) (by omega) W; simpa [Int.add_assoc] using this
      have HX0 : Hid (ValO wr lo hi (.slice (some ⟨b, 0, none⟩) ps.length cap) ys ∧ ys[j]? = some (p0, p1, p2)) := ⟨ho, hmg⟩
      have HB0 : Hid (But (blo (.slice (some ⟨b, 0, none⟩) ps.length cap)) (bhi (.slice (some ⟨b, 0, none⟩) ps.length cap)) w wr) := HB.out
      clear hK ho hkp hv hml hmg hys hmp hp
      repeat (first
        | (go_at_call 29; with_reducible refine (MT0.out _).mono ?_
           rintro e w0 ⟨rfl, k0⟩
           have Y0 := HX0.out.1.kept k0
           have y0 := HX0.out.2
           obtain ⟨e0, e1, e2, ez⟩ := Y0.cells y0
           dsimp only at e0 e1 e2
           have ey0 := ez (j * 3)
           have ey1 := ez (j * 3 + 1)
           clear ez e2
           have X1 := Y0.set (by (repeat rw [List.length_set]); exact HL.out) y0 0 (by omega) (.string (mtext (K))) (q := (mtext (K), p1, p2)) rfl
           (try rw [List.set_set] at X1)
           have g1 : (ys.set j (mtext (K), p1, p2))[j]? = some (mtext (K), p1, p2) := by simp [HJY.out]
           have X2 := X1.set (by (repeat rw [List.length_set]); exact HL.out) g1 1 (by omega) (.int .i64 (((K : Nat) : Int) + 1)) (q := (mtext (K), ((K : Nat) : Int) + 1, p2)) rfl
           (try rw [List.set_set] at X2)
           have g2 : (ys.set j (mtext (K), ((K : Nat) : Int) + 1, p2))[j]? = some (mtext (K), ((K : Nat) : Int) + 1, p2) := by simp [HJY.out]
           have HX2 : Hid (ValO ((w0.setCell ⟨b, j * 3, none⟩ (.string (mtext (K)))).setCell ⟨b, j * 3 + 1, none⟩ (.int .i64 (((K : Nat) : Int) + 1))) lo hi (.slice (some ⟨b, 0, none⟩) ps.length cap) (ys.set j (mtext (K), ((K : Nat) : Int) + 1, p2)) ∧ (ys.set j (mtext (K), ((K : Nat) : Int) + 1, p2))[j]? = some (mtext (K), ((K : Nat) : Int) + 1, p2)) := ⟨X2, g2⟩
           have HB2 : Hid (But (blo (.slice (some ⟨b, 0, none⟩) ps.length cap)) (bhi (.slice (some ⟨b, 0, none⟩) ps.length cap)) w ((w0.setCell ⟨b, j * 3, none⟩ (.string (mtext (K)))).setCell ⟨b, j * 3 + 1, none⟩ (.int .i64 (((K : Nat) : Int) + 1)))) := ((HB0.out.transK k0).trans (but_set _ _ _ _ _ _)).trans (but_set _ _ _ _ _ _)
           clear Y0 y0 k0 X1 g1 X2 g2
           dsimp only)
        | (go_at_call 29; with_reducible refine (MT2.out _).mono ?_
           rintro e w2 ⟨rfl, k2⟩
           have Y2 := HX2.out.1.kept k2
           have y2 := HX2.out.2
           obtain ⟨e0, e1, e2, ez⟩ := Y2.cells y2
           dsimp only at e0 e1 e2
           have ey2 := ez (j * 3 + 2)
           clear ez e0 e1
           have X3 := Y2.set (by (repeat rw [List.length_set]); exact HL.out) y2 2 (by omega) (.string (mtext (K + 2))) (q := (mtext (K), ((K : Nat) : Int) + 1, mtext (K + 2))) rfl
           (try rw [List.set_set] at X3)
           have g3 : (ys.set j (mtext (K), ((K : Nat) : Int) + 1, mtext (K + 2)))[j]? = some (mtext (K), ((K : Nat) : Int) + 1, mtext (K + 2)) := by simp [HJY.out]
           have HX3 : Hid (ValO (w2.setCell ⟨b, j * 3 + 2, none⟩ (.string (mtext (K + 2)))) lo hi (.slice (some ⟨b, 0, none⟩) ps.length cap) (ys.set j (mtext (K), ((K : Nat) : Int) + 1, mtext (K + 2))) ∧ (ys.set j (mtext (K), ((K : Nat) : Int) + 1, mtext (K + 2)))[j]? = some (mtext (K), ((K : Nat) : Int) + 1, mtext (K + 2))) := ⟨X3, g3⟩
           have HB3 : Hid (But (blo (.slice (some ⟨b, 0, none⟩) ps.length cap)) (bhi (.slice (some ⟨b, 0, none⟩) ps.length cap)) w (w2.setCell ⟨b, j * 3 + 2, none⟩ (.string (mtext (K + 2))))) := (HB2.out.transK k2).trans (but_set _ _ _ _ _ _)
           clear Y2 y2 k2 X3 g3
           dsimp only)
        | go_values | go_skip | go_guarded | go_step | go_upon)
      have hK := HK.out
      exact ⟨⟨j + 1, hlt, by go_num, by congr 1; omega, by rw [← HST.out]; exact HX3.out.1, HB3.out⟩, by simp [intOf]; omega⟩
    · have hke : j = ps.length := by omega
      subst hke
      go_wp2
      go_ret
      refine ⟨rfl, ?_, hkp⟩
      rw [mix_all _ _ _ (mVals_len _ _) rfl] at ho
      exact ho
set_option maxHeartbeats 8000000 in
theorem heldValS (n : Nat) (v : Value) (k : Nat) (w : World) (hv : ValAt w v (mVals k n)) (hb : k + 3 * n ≤ 1000000000000) :
    Calls Tryd.prog 12 #[v, .int .i64 (k : Int)] w fun e w' => e = .returned (.int .i64 ((k + 3 * n : Nat) : Int)) ∧ Kept w w' := by
  obtain ⟨ao, cap, hsl⟩ := row_nil hv
  rw [mVals_len] at hsl
  subst hsl
  go_enter Tryd.func12, Tryd.ntmps12
  go_wp2
  go_loopw [1, 5] (fun kk i wr => ∃ (j : Nat), j ≤ n ∧ i = .int .i64 j ∧ kk = .int .i64 ((k + 3 * j : Nat) : Int) ∧ Kept w wr) (fun kk i _ => n - (intOf i).toNat)
  case atStart => exact ⟨0, by omega, rfl, rfl, But.refl _ _ _⟩
  case round =>
    obtain ⟨j, hj, rfl, rfl, hkp⟩ := hrel
    by_cases hlt : j < n
    · obtain ⟨b, o, cap1, e, c0, c1, c2⟩ := val_get (hv.kept hkp) (mVals_get k n j hlt)
      rw [mVals_len] at e
      cases e
      have hkb : k + 3 * j + 3 ≤ 1000000000000 := by omega
      simp only [mVal] at c0 c1 c2
      generalize hK : k + 3 * j = K at *
      have HK : Hid (k + 3 * j = K) := hK
      have HB : Hid (Kept w wr) := hkp
      have z1 : (0 : Int) ≤ (j : Int) := by omega
      have z2 : (j : Int) < (n : Int) := by omega
      have hgw : b < wr.heap.size := World.block_lt_of_cell? _ _ c0
      have MT0 : Hid (∀ W, Calls Tryd.prog 29 #[.int .i64 ((K : Int))] W fun e w' => e = .returned (.string (mtext (K))) ∧ Kept W w') := fun W => markText K (by omega) W
      have MT2 : Hid (∀ W, Calls Tryd.prog 29 #[.int .i64 ((K : Int) + 1 + 1)] W fun e w' => e = .returned (.string (mtext (K + 2))) ∧ Kept W w') := fun W => by have := markText (K + 2) (by omega) W; simpa [Int.add_assoc] using this
      clear hK hkp hv
      repeat (first | go_values | go_skip | go_guarded | go_step | go_upon)
      refine wp_region_kept (by kernel_rfl) (by kernel_rfl) ?_
      have hne := kw_some wr
      have hcc := KW.cell_eq wr
      have hcf := fun (x : KW wr) (b o : Nat) (hb : b < wr.heap.size) => x.k.frozen_eq b o hb
      repeat (first | (go_big_quiet_step (first | (go_at_call 29; with_reducible exact kw_call (MT0.out _)))) | (go_big_quiet_want; go_big_quiet_op; refine ⟨_, fun _ => (by with_reducible rfl), ?_⟩; go_big_quiet_on))
      refine wpQuiet_nil ?_
      rintro v0 ⟨⟨u0, k0⟩, h9⟩
      change v0 = u0 at h9
      subst h9
      clear hcc hne hcf
      have c1 := Kept.cell k0 c1
      have c2 := Kept.cell k0 c2
      have hgw := Nat.lt_of_lt_of_le hgw k0.size
      have HB0 : Hid (Kept w v0) := HB.out.trans k0
      clear k0
      repeat (first | go_values | go_skip | go_guarded | go_step | go_upon)
      refine wp_region_kept (by kernel_rfl) (by kernel_rfl) ?_
      have hne := kw_some v0
      have hcc := KW.cell_eq v0
      have hcf := fun (x : KW v0) (b o : Nat) (hb : b < v0.heap.size) => x.k.frozen_eq b o hb
      repeat (first | (go_big_quiet_step (first | (go_at_call 29; with_reducible exact kw_call (MT2.out _)))) | (go_big_quiet_want; go_big_quiet_op; refine ⟨_, fun _ => (by with_reducible rfl), ?_⟩; go_big_quiet_on))
      refine wpQuiet_nil ?_
      rintro v2 ⟨⟨u2, k2⟩, h9⟩
      change v2 = u2 at h9
      subst h9
      clear hcc hne hcf
      have HB1 : Hid (Kept w v2) := HB0.out.trans k2
      clear k2
      repeat (first | go_values | go_skip | go_guarded | go_step | go_upon)
      have hK := HK.out
      exact ⟨⟨j + 1, hlt, by go_num, by congr 1; omega, HB1.out⟩, by simp [intOf]; omega⟩
    · have hke : j = n := by omega
      subst hke
      go_wp2
      go_ret
      exact ⟨rfl, hkp⟩

end Go.Proofs.YtklgjhemcofhhaaDoor
