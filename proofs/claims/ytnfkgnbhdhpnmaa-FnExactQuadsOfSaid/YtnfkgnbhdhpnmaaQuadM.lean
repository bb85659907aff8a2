/-
  Marks written over a list, and found again.
-/
import Derived.Test.YtnfkgnbhdhpnmaaRows
import Derived.Test.YtnfkgnbhdhpnmaaQuad
import Derived.Test.YtnfkgnbhdhpnmaaText
namespace Go.Proofs.Ytnfkgnbhdhpnmaa
open Go.ChangeShapes Go.WideShapes Go.ChangeAt Go.RowKit

theorem but_set7 (w : World) (g n cap j0 j1 j2 j3 j4 j5 j6 : Nat) (u0 u1 u2 u3 u4 u5 u6 : Value) : But (blo (.slice (some ⟨g, 0, none⟩) n cap)) (bhi (.slice (some ⟨g, 0, none⟩) n cap)) w (((((((w.setCell ⟨g, j0, none⟩ u0).setCell ⟨g, j1, none⟩ u1).setCell ⟨g, j2, none⟩ u2).setCell ⟨g, j3, none⟩ u3).setCell ⟨g, j4, none⟩ u4).setCell ⟨g, j5, none⟩ u5).setCell ⟨g, j6, none⟩ u6) :=
  (((((((but_set w g n cap j0 u0)).trans (but_set _ g n cap j1 u1)).trans (but_set _ g n cap j2 u2)).trans (but_set _ g n cap j3 u3)).trans (but_set _ g n cap j4 u4)).trans (but_set _ g n cap j5 u5)).trans (but_set _ g n cap j6 u6)

def mQuad (k i : Nat) : QuadD := (((k + 7 * i : Nat) : Int), ((k + 7 * i : Nat) : Int) + 1, ((k + 7 * i : Nat) : Int) + 1 + 1, ((k + 7 * i : Nat) : Int) + 1 + 1 + 1, ((k + 7 * i : Nat) : Int) + 1 + 1 + 1 + 1, ((k + 7 * i : Nat) : Int) + 1 + 1 + 1 + 1 + 1, ((k + 7 * i : Nat) : Int) + 1 + 1 + 1 + 1 + 1 + 1)
def mQuads (k n : Nat) : List QuadD := (List.range n).map (mQuad k)
theorem mQuads_len (k n : Nat) : (mQuads k n).length = n := by simp [mQuads]
theorem mQuads_get (k n i : Nat) (h : i < n) : (mQuads k n)[i]? = some (mQuad k i) := by simp [mQuads, h]

set_option maxHeartbeats 16000000 in
theorem markQuadS (ps : List QuadD) (v : Value) (k lo hi : Nat) (w : World) (hv : QuadO w lo hi v ps) (hb : k + 7 * ps.length ≤ 1000000000000) :
    Calls Try.prog 32 #[v, .int .i64 (k : Int)] w fun e w' => e = .returned (.int .i64 ((k + 7 * ps.length : Nat) : Int)) ∧ QuadO w' lo hi v (mQuads k ps.length) ∧ But (blo v) (bhi v) w w' := by
  obtain ⟨ao, cap, hsl, _⟩ := own_form hv.1
  subst hsl
  go_enter Try.func32, Try.ntmps32
  go_wp2
  go_loopw [1, 5] (fun kk i wr => ∃ (j : Nat), j ≤ ps.length ∧ i = .int .i64 j ∧ kk = .int .i64 ((k + 7 * j : Nat) : Int) ∧ QuadO wr lo hi (.slice ao ps.length cap) (mix (mQuads k ps.length) ps j) ∧ But (blo (.slice ao ps.length cap)) (bhi (.slice ao ps.length cap)) w wr) (fun kk i _ => ps.length - (intOf i).toNat)
  case atStart => exact ⟨0, by omega, rfl, rfl, by rw [mix_zero]; exact hv, But.refl _ _ _⟩
  case round =>
    obtain ⟨j, hj, rfl, rfl, ho, hkp⟩ := hrel
    by_cases hlt : j < ps.length
    · obtain ⟨p, hp⟩ : ∃ p, ps[j]? = some p := ⟨_, List.getElem?_eq_getElem hlt⟩
      have hmg : (mix (mQuads k ps.length) ps j)[j]? = some p := by rw [mix_get _ _ _ (mQuads_len _ _) hlt]; exact hp
      have hml : ps.length = (mix (mQuads k ps.length) ps j).length := (mix_len _ _ _ (mQuads_len _ _) hj).symm
      obtain ⟨b, o, cap1, e, _⟩ := quad_get ho.at hmg
      rw [← hml] at e
      cases e
      obtain ⟨g', cap', hfm, _⟩ : ∃ g cap', Value.slice (some ⟨b, o, none⟩) ps.length cap = .slice (some ⟨g, 0, none⟩) ps.length cap' ∧ True := by
        rcases ho.1.2 with ⟨hf, _⟩ | ⟨g, c2, cur, hf, _⟩
        · cases hf
        · rw [← hml] at hf; exact ⟨g, c2, hf, trivial⟩
      cases hfm
      have hkb : k + 7 * j + 7 ≤ 1000000000000 := by omega
      generalize hK : k + 7 * j = K at *
      have HK : Hid (k + 7 * j = K) := hK
      have HP : Hid _ := ho
      have HB : Hid _ := hkp
      have HM : Hid (ps.length = (mix (mQuads k ps.length) ps j).length ∧ (mix (mQuads k ps.length) ps j)[j]? = some p) := ⟨hml, hmg⟩
      clear hK ho hkp hv hml hmg
      have hk2 : Kept wr wr := But.refl _ _ _
      have ho2 := QuadO.kept HP.out hk2
      obtain ⟨d0, d1, d2, d3, d4, d5, d6, dz⟩ := ho2.cells HM.out.2
      have dz0 := dz (j * 7)
      have dz1 := dz (j * 7 + 1)
      have dz2 := dz (j * 7 + 2)
      have dz3 := dz (j * 7 + 3)
      have dz4 := dz (j * 7 + 4)
      have dz5 := dz (j * 7 + 5)
      have dz6 := dz (j * 7 + 6)
      obtain ⟨e1, e2, e3, e4, e5, e6, d9⟩ := ho2.store HM.out.1 HM.out.2 ((K : Int), (K : Int) + 1, (K : Int) + 1 + 1, (K : Int) + 1 + 1 + 1, (K : Int) + 1 + 1 + 1 + 1, (K : Int) + 1 + 1 + 1 + 1 + 1, (K : Int) + 1 + 1 + 1 + 1 + 1 + 1)
      have HS : Hid _ := d9
      clear d9 dz ho2
      have HN1 : Hid (((j : Int) + 1) = ((j + 1 : Nat) : Int)) := show _ = _ by omega
      have HN2 : Hid ((K : Int) + 1 + 1 + 1 + 1 + 1 + 1 + 1 = ((k + 7 * (j + 1) : Nat) : Int)) := show _ = _ by have := HK.out; omega
      have HN3 : Hid (ps.length - (j + 1) < ps.length - j) := show _ < _ by omega
      go_wp2
      have hK := HK.out
      have hmp : (mQuads k ps.length)[j]? = some ((K : Int), (K : Int) + 1, (K : Int) + 1 + 1, (K : Int) + 1 + 1 + 1, (K : Int) + 1 + 1 + 1 + 1, (K : Int) + 1 + 1 + 1 + 1 + 1, (K : Int) + 1 + 1 + 1 + 1 + 1 + 1) := by
        rw [mQuads_get k _ j hlt, mQuad, hK]
      have hst := mix_set _ _ j _ (mQuads_len k ps.length) hmp
      refine ⟨⟨j + 1, hlt, congrArg (Value.int IntKind.i64) HN1.out, congrArg (Value.int IntKind.i64) HN2.out, by rw [← hst]; exact HS.out, ?_⟩, by rw [HN1.out]; exact HN3.out⟩
      exact (HB.out.transK hk2).trans (but_set7 _ _ _ _ _ _ _ _ _ _ _ _ _ _ _ _ _ _)
    · have hke : j = ps.length := by omega
      subst hke
      go_wp2
      go_ret
      refine ⟨rfl, ?_, hkp⟩
      rw [mix_all _ _ _ (mQuads_len _ _) rfl] at ho
      exact ho

set_option maxHeartbeats 4000000 in
theorem heldQuadS (n : Nat) (v : Value) (k : Nat) (w : World) (hv : QuadAt w v (mQuads k n)) (hb : k + 7 * n ≤ 1000000000000) :
    Calls Try.prog 33 #[v, .int .i64 (k : Int)] w fun e w' => e = .returned (.int .i64 ((k + 7 * n : Nat) : Int)) ∧ Kept w w' := by
  obtain ⟨ao, cap, hsl⟩ := row_nil hv
  rw [mQuads_len] at hsl
  subst hsl
  go_enter Try.func33, Try.ntmps33
  go_wp2
  go_loopw [1, 5] (fun kk i wr => ∃ (j : Nat), j ≤ n ∧ i = .int .i64 j ∧ kk = .int .i64 ((k + 7 * j : Nat) : Int) ∧ Kept w wr) (fun kk i _ => n - (intOf i).toNat)
  case atStart => exact ⟨0, by omega, rfl, rfl, But.refl _ _ _⟩
  case round =>
    obtain ⟨j, hj, rfl, rfl, hkp⟩ := hrel
    by_cases hlt : j < n
    · obtain ⟨b, o, cap1, e, c0, c1, c2, c3, c4, c5, c6⟩ := quad_get (hv.kept hkp) (mQuads_get k n j hlt)
      rw [mQuads_len] at e
      cases e
      have hkb : k + 7 * j + 7 ≤ 1000000000000 := by omega
      simp only [mQuad] at c0 c1 c2 c3 c4 c5 c6
      generalize hK : k + 7 * j = K at *
      have HK : Hid (k + 7 * j = K) := hK
      have HB : Hid _ := hkp
      have z1 : (0 : Int) ≤ (j : Int) := by omega
      have z2 : (j : Int) < (n : Int) := by omega
      clear hK hkp hv
      have hkk : Kept wr wr := But.refl _ _ _
      go_wp2
      have hK := HK.out
      exact ⟨⟨j + 1, hlt, by go_num, by congr 1; omega, HB.out.trans hkk⟩, by simp [intOf]; omega⟩
    · have hke : j = n := by omega
      subst hke
      go_wp2
      go_ret
      exact ⟨rfl, hkp⟩

end Go.Proofs.Ytnfkgnbhdhpnmaa
