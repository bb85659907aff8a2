/-
  Marks written over a list of voices.
-/
import Derived.Test.YtapfafibhjpkdaaVPut15
namespace Go.Proofs.Ytapfafibhjpkdaa
open Go.ChangeShapes Go.WideShapes Go.ChangeAt Go.RowKit

set_option maxRecDepth 100000
set_option linter.unusedVariables false

def vMk (ps : List VoiceE) : Nat := (ps.map fun p => p.1.2.length + 5).sum
theorem vMk_snoc (l : List VoiceE) (p : VoiceE) : vMk (l ++ [p]) = vMk l + (p.1.2.length + 5) := by simp [vMk]
theorem vMk_take (l : List VoiceE) (k : Nat) : vMk (l.take k) ≤ vMk l := by
  have h := congrArg vMk (List.take_append_drop k l)
  have h2 : ∀ a b : List VoiceE, vMk (a ++ b) = vMk a + vMk b := fun a b => by simp [vMk]
  rw [h2] at h
  omega
def mkT (s : Value) (K n M : Nat) : VoiceE := ((s, mNum K n), (M : Int), (((M : Int) + 1) % 3 == 0), (M : Int) + 1 + 1, (M : Int) + 1 + 1 + 1, (M : Int) + 1 + 1 + 1 + 1)
def mk1 (k : Nat) (p : VoiceE) : VoiceE := mkT p.1.1 k p.1.2.length (k + p.1.2.length)
def mkE : Nat → List VoiceE → List VoiceE
  | _, [] => []
  | k, p :: ps => mk1 k p :: mkE (k + (p.1.2.length + 5)) ps
theorem mkE_len : ∀ (k : Nat) (ps : List VoiceE), (mkE k ps).length = ps.length
  | _, [] => rfl
  | k, p :: ps => by rw [mkE, List.length_cons, mkE_len, List.length_cons]
theorem mkE_snoc : ∀ (k : Nat) (ps : List VoiceE) (p : VoiceE), mkE k (ps ++ [p]) = mkE k ps ++ [mk1 (k + vMk ps) p]
  | k, [], p => by simp [mkE, vMk]
  | k, q :: ps, p => by
    rw [List.cons_append, mkE, mkE, mkE_snoc, List.cons_append]
    congr 3
    simp [vMk]
    congr 1
    omega
theorem mkE_get : ∀ (k : Nat) (ps : List VoiceE) (j : Nat) (p : VoiceE), ps[j]? = some p → (mkE k ps)[j]? = some (mk1 (k + vMk (ps.take j)) p)
  | k, [], j, p, h => by simp at h
  | k, q :: ps, 0, p, h => by
    simp at h
    subst h
    simp [mkE, vMk]
  | k, q :: ps, j + 1, p, h => by
    simp at h
    rw [mkE, List.getElem?_cons_succ, mkE_get _ ps j p h]
    congr 2
    simp [vMk]
    omega
theorem mix_at {k j : Nat} {ps : List VoiceE} {p : VoiceE} (hp : ps[j]? = some p) : (mkE k (ps.take j) ++ ps.drop j)[j]? = some p ∧ ∀ q, (mkE k (ps.take j) ++ ps.drop j).set j q = mkE k (ps.take j) ++ q :: ps.drop (j + 1) := by
  have hj : j < ps.length := (List.getElem?_eq_some_iff.1 hp).1
  have hl : (mkE k (ps.take j)).length = j := by rw [mkE_len, List.length_take]; omega
  have hd : ps.drop j = p :: ps.drop (j + 1) := by
    rw [List.drop_eq_getElem_cons hj]
    congr 1
    have := List.getElem?_eq_getElem hj
    rw [hp] at this
    exact (Option.some.inj this).symm
  rw [hd]
  refine ⟨by rw [List.getElem?_append_right (by omega), hl]; simp, fun q => ?_⟩
  rw [List.set_append_right _ _ (by omega), hl]
  simp

set_option maxHeartbeats 4000000 in
theorem markVs (ps : List VoiceE) (v : Value) (k lo hi : Nat) (w : World) (hv : VoiceO w lo hi v ps) (hb : k + vMk ps ≤ 1000000000) (hn : ps.length ≤ 1000000000) :
    Calls Try.prog 20 #[v, .int .i64 (k : Int)] w fun e w' => e = .returned (.int .i64 ((k + vMk ps : Nat) : Int)) ∧ VoiceO w' lo hi v (mkE k ps) ∧ But lo hi w w' := by
  obtain ⟨ao, cap, hsl⟩ := hv.form
  subst hsl
  go_enter Try.func20, Try.ntmps20
  go_wp2
  go_loopw [1, 5] (fun kk i wr => ∃ (j : Nat), j ≤ ps.length ∧ i = .int .i64 j ∧ kk = .int .i64 ((k + vMk (ps.take j) : Nat) : Int) ∧ VoiceO wr lo hi (.slice ao ps.length cap) (mkE k (ps.take j) ++ ps.drop j) ∧ But lo hi w wr) (fun kk i _ => ps.length - (intOf i).toNat)
  case atStart => exact ⟨0, by omega, rfl, by simp [vMk], by simpa [mkE] using hv, But.refl _ _ _⟩
  case round =>
    obtain ⟨j, hj, rfl, rfl, ho, hkp⟩ := hrel
    by_cases hlt : j < ps.length
    · obtain ⟨p, hp⟩ : ∃ y, ps[j]? = some y := ⟨_, List.getElem?_eq_getElem (by omega)⟩
      have hmix := mix_at (k := k) hp
      have hsn := vMk_snoc (ps.take j) p
      rw [← take_snoc hp] at hsn
      have hse : mkE k (ps.take (j + 1)) = mkE k (ps.take j) ++ [mk1 (k + vMk (ps.take j)) p] := by rw [take_snoc hp, mkE_snoc]
      have hst := vMk_take ps (j + 1)
      have hyl : (mkE k (ps.take j) ++ ps.drop j).length = ps.length := by rw [List.length_append, mkE_len, List.length_take, List.length_drop]; omega
      obtain ⟨ys, hys⟩ : ∃ ys, mkE k (ps.take j) ++ ps.drop j = ys := ⟨_, rfl⟩
      rw [hys] at ho hmix hyl
      have hkb : k + vMk (ps.take j) + (p.1.2.length + 5) ≤ 1000000000 := by omega
      generalize hK : k + vMk (ps.take j) = K at *
      have HE : Hid (ys.set j (mk1 K p) = mkE k (ps.take (j + 1)) ++ ps.drop (j + 1)) := by
        show _ = _
        rw [hmix.2, hse]
        simp
      have HKK : Hid (k + vMk (ps.take (j + 1)) = K + (p.1.2.length + 5)) := by show _ = _; omega
      have hy := hmix.1
      obtain ⟨b, o, cap1, e, _⟩ := voice_get ho.at hy
      rw [hyl] at e
      cases e
      obtain ⟨g', cap', hfm, _⟩ : ∃ g cap', Value.slice (some ⟨b, o, none⟩) ps.length cap = .slice (some ⟨g, 0, none⟩) ps.length cap' ∧ True := by
        rcases ho.row.1.2 with ⟨hf, _⟩ | ⟨g, c2, cur, hf, _⟩
        · cases hf
        · rw [hyl] at hf; exact ⟨g, c2, hf, trivial⟩
      cases hfm
      obtain ⟨⟨s, l⟩, y1, y2, y3, y4, y5⟩ := p
      dsimp only at hkb
      obtain ⟨a3, p3, hsl3⟩ := row_nil (ho.inn j _ hy).at
      dsimp only at hsl3
      subst hsl3
      have d0 := ho.get0 hy
      have hjy : j < ys.length := by omega
      have HTL := hyl.symm
      have HO : Hid (VoiceO wr lo hi (.slice (some ⟨b, 0, none⟩) ps.length cap) ys) := ho
      have HB : Hid (But lo hi w wr) := hkp
      have HY : Hid (ys[j]? = some ((.slice a3 l.length p3, l), y1, y2, y3, y4, y5)) := hy
      obtain ⟨M, hM⟩ : ∃ M : Nat, K + l.length = M := ⟨_, rfl⟩
      have hMb : M + 5 ≤ 1000000000 := by omega
      have HM : Hid (K + l.length = M) := hM
      have HKB : Hid (K + l.length ≤ 1000000000000) := by show _ ≤ _; omega
      clear hM hsn hse hst hyl hmix hys hkp hv hy hK hkb ho
      dsimp only at d0
      repeat (first
        | (go_at_call 57
           refine (markNumS l _ K lo hi _ (HO.out.inn j _ HY.out) HKB.out).mono ?_
           rintro e w4 ⟨rfl, o4, b4⟩
           rw [HM.out]
           have X0 := VoiceO.inner HO.out HY.out b4 o4
           dsimp only at X0
           have g1 : (ys.set j ((.slice a3 l.length p3, mNum K l.length), y1, y2, y3, y4, y5))[j]? = some ((.slice a3 l.length p3, mNum K l.length), y1, y2, y3, y4, y5) := get_self _ hjy
           have x1 := (X0.cells g1).1 1 _ rfl
           have xf1 := (X0.cells g1).2 (j * 6 + 1)
           have X1 := X0.put (by rw [List.length_set]; exact HTL) g1 1 (by omega) (.int .i64 ((M : Int))) ((.slice a3 l.length p3, mNum K l.length), (M : Int), y2, y3, y4, y5) rfl rfl
           rw [set2] at X1
           have g2 : (ys.set j ((.slice a3 l.length p3, mNum K l.length), (M : Int), y2, y3, y4, y5))[j]? = some ((.slice a3 l.length p3, mNum K l.length), (M : Int), y2, y3, y4, y5) := get_self _ hjy
           have x2 := (X1.cells g2).1 2 _ rfl
           have xf2 := (X1.cells g2).2 (j * 6 + 2)
           have X2 := X1.put (by rw [List.length_set]; exact HTL) g2 2 (by omega) (.bool (((M : Int) + 1) % 3 == 0)) ((.slice a3 l.length p3, mNum K l.length), (M : Int), (((M : Int) + 1) % 3 == 0), y3, y4, y5) rfl rfl
           rw [set2] at X2
           have g3 : (ys.set j ((.slice a3 l.length p3, mNum K l.length), (M : Int), (((M : Int) + 1) % 3 == 0), y3, y4, y5))[j]? = some ((.slice a3 l.length p3, mNum K l.length), (M : Int), (((M : Int) + 1) % 3 == 0), y3, y4, y5) := get_self _ hjy
           have x3 := (X2.cells g3).1 3 _ rfl
           have xf3 := (X2.cells g3).2 (j * 6 + 3)
           have X3 := X2.put (by rw [List.length_set]; exact HTL) g3 3 (by omega) (.int .i64 ((M : Int) + 1 + 1)) ((.slice a3 l.length p3, mNum K l.length), (M : Int), (((M : Int) + 1) % 3 == 0), (M : Int) + 1 + 1, y4, y5) rfl rfl
           rw [set2] at X3
           have g4 : (ys.set j ((.slice a3 l.length p3, mNum K l.length), (M : Int), (((M : Int) + 1) % 3 == 0), (M : Int) + 1 + 1, y4, y5))[j]? = some ((.slice a3 l.length p3, mNum K l.length), (M : Int), (((M : Int) + 1) % 3 == 0), (M : Int) + 1 + 1, y4, y5) := get_self _ hjy
           have x4 := (X3.cells g4).1 4 _ rfl
           have xf4 := (X3.cells g4).2 (j * 6 + 4)
           have X4 := X3.put (by rw [List.length_set]; exact HTL) g4 4 (by omega) (.int .i64 ((M : Int) + 1 + 1 + 1)) ((.slice a3 l.length p3, mNum K l.length), (M : Int), (((M : Int) + 1) % 3 == 0), (M : Int) + 1 + 1, (M : Int) + 1 + 1 + 1, y5) rfl rfl
           rw [set2] at X4
           have g5 : (ys.set j ((.slice a3 l.length p3, mNum K l.length), (M : Int), (((M : Int) + 1) % 3 == 0), (M : Int) + 1 + 1, (M : Int) + 1 + 1 + 1, y5))[j]? = some ((.slice a3 l.length p3, mNum K l.length), (M : Int), (((M : Int) + 1) % 3 == 0), (M : Int) + 1 + 1, (M : Int) + 1 + 1 + 1, y5) := get_self _ hjy
           have x5 := (X4.cells g5).1 5 _ rfl
           have xf5 := (X4.cells g5).2 (j * 6 + 5)
           have X5 := X4.put (by rw [List.length_set]; exact HTL) g5 5 (by omega) (.int .i64 ((M : Int) + 1 + 1 + 1 + 1)) ((.slice a3 l.length p3, mNum K l.length), (M : Int), (((M : Int) + 1) % 3 == 0), (M : Int) + 1 + 1, (M : Int) + 1 + 1 + 1, (M : Int) + 1 + 1 + 1 + 1) rfl rfl
           rw [set2] at X5
           clear g1 g2 g3 g4 g5
           have HX5 : Hid (VoiceO _ lo hi (.slice (some ⟨b, 0, none⟩) ps.length cap) (ys.set j ((.slice a3 l.length p3, mNum K l.length), (M : Int), (((M : Int) + 1) % 3 == 0), (M : Int) + 1 + 1, (M : Int) + 1 + 1 + 1, (M : Int) + 1 + 1 + 1 + 1))) := X5
           have HB4 : Hid (But lo hi w w4) := HB.out.trans (But.inner b4 o4)
           clear X0 X1 X2 X3 X4 X5 b4 o4
           dsimp only)
        | go_values | go_skip | go_guarded | go_step | go_upon)
      have hE := HE.out
      have hKK := HKK.out
      have hMM := HM.out
      dsimp only at hKK
      have e1 : mk1 K ((.slice a3 l.length p3, l), y1, y2, y3, y4, y5) = ((.slice a3 l.length p3, mNum K l.length), (M : Int), (((M : Int) + 1) % 3 == 0), (M : Int) + 1 + 1, (M : Int) + 1 + 1 + 1, (M : Int) + 1 + 1 + 1 + 1) := by
        unfold mk1 mkT
        dsimp only
        rw [hMM]
      rw [e1] at hE
      have R := HX5.out.row
      refine ⟨⟨j + 1, hlt, by go_num, by congr 1; omega, by rw [← hE]; exact HX5.out, ?_⟩, by simp [intOf]; omega⟩
      exact ((((HB4.out.trans (But.inner (but_set _ _ _ _ _ _) R)).trans (But.inner (but_set _ _ _ _ _ _) R)).trans (But.inner (but_set _ _ _ _ _ _) R)).trans (But.inner (but_set _ _ _ _ _ _) R)).trans (But.inner (but_set _ _ _ _ _ _) R)
    · have hke : j = ps.length := by omega
      subst hke
      go_wp2
      go_ret
      rw [List.take_length] at ho ⊢
      simp only [List.drop_length, List.append_nil] at ho
      exact ⟨rfl, ho, hkp⟩

end Go.Proofs.Ytapfafibhjpkdaa
