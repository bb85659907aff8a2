/-
  Marks written over a list of places, and found again.
-/
import Derived.Test.YthohgehhoogpnaaRows
import Derived.Test.YthohgehhoogpnaaSpot2
import Derived.Test.YthohgehhoogpnaaText
namespace Go.Proofs.Ythohgehhoogpnaa
open Go.ChangeShapes Go.WideShapes Go.ChangeAt Go.RowKit

def mSpot2 (k i : Nat) : Spot2D := (((k + 2 * i : Nat) : Int), ((k + 2 * i : Nat) : Int) + 1)
def mSpot2s (k n : Nat) : List Spot2D := (List.range n).map (mSpot2 k)
theorem mSpot2s_len (k n : Nat) : (mSpot2s k n).length = n := by simp [mSpot2s]
theorem mSpot2s_get (k n i : Nat) (h : i < n) : (mSpot2s k n)[i]? = some (mSpot2 k i) := by simp [mSpot2s, h]

set_option maxHeartbeats 4000000 in
theorem markSpot2S (ps : List Spot2D) (v : Value) (k lo hi : Nat) (w : World) (hv : Spot2O w lo hi v ps) (hb : k + 2 * ps.length ≤ 1000000000000) :
    Calls Try.prog 38 #[v, .int .i64 (k : Int)] w fun e w' => e = .returned (.int .i64 ((k + 2 * ps.length : Nat) : Int)) ∧ Spot2O w' lo hi v (mSpot2s k ps.length) ∧ But (blo v) (bhi v) w w' := by
  obtain ⟨ao, cap, hsl, _⟩ := own_form hv.1
  subst hsl
  go_enter Try.func38, Try.ntmps38
  go_wp2
  go_loopw [1, 5] (fun kk i wr => ∃ (j : Nat), j ≤ ps.length ∧ i = .int .i64 j ∧ kk = .int .i64 ((k + 2 * j : Nat) : Int) ∧ Spot2O wr lo hi (.slice ao ps.length cap) (mix (mSpot2s k ps.length) ps j) ∧ But (blo (.slice ao ps.length cap)) (bhi (.slice ao ps.length cap)) w wr) (fun kk i _ => ps.length - (intOf i).toNat)
  case atStart => exact ⟨0, by omega, rfl, rfl, by rw [mix_zero]; exact hv, But.refl _ _ _⟩
  case round =>
    obtain ⟨j, hj, rfl, rfl, ho, hkp⟩ := hrel
    by_cases hlt : j < ps.length
    · obtain ⟨p, hp⟩ : ∃ p, ps[j]? = some p := ⟨_, List.getElem?_eq_getElem hlt⟩
      have hmg : (mix (mSpot2s k ps.length) ps j)[j]? = some p := by rw [mix_get _ _ _ (mSpot2s_len _ _) hlt]; exact hp
      have hml : ps.length = (mix (mSpot2s k ps.length) ps j).length := (mix_len _ _ _ (mSpot2s_len _ _) hj).symm
      obtain ⟨b, o, cap1, e, _⟩ := spot2_get ho.at hmg
      rw [← hml] at e
      cases e
      obtain ⟨g', cap', hfm, _⟩ : ∃ g cap', Value.slice (some ⟨b, o, none⟩) ps.length cap = .slice (some ⟨g, 0, none⟩) ps.length cap' ∧ True := by
        rcases ho.1.2 with ⟨hf, _⟩ | ⟨g, c2, cur, hf, _⟩
        · cases hf
        · rw [← hml] at hf; exact ⟨g, c2, hf, trivial⟩
      cases hfm
      have hkb : k + 2 * j + 2 ≤ 1000000000000 := by omega
      generalize hK : k + 2 * j = K at *
      have HK : Hid (k + 2 * j = K) := hK
      have HP : Hid _ := ho
      have HB : Hid _ := hkp
      have HM : Hid (ps.length = (mix (mSpot2s k ps.length) ps j).length ∧ (mix (mSpot2s k ps.length) ps j)[j]? = some p) := ⟨hml, hmg⟩
      clear hK ho hkp hv hml hmg
      have hk2 : Kept wr wr := But.refl _ _ _
      have ho2 := Spot2O.kept HP.out hk2
      obtain ⟨d0, d1, dz⟩ := ho2.cells HM.out.2
      have dz0 := dz (j * 2)
      have dz1 := dz (j * 2 + 1)
      obtain ⟨e1, d9⟩ := ho2.store HM.out.1 HM.out.2 ((K : Int), (K : Int) + 1)
      have HS : Hid _ := d9
      clear d9 dz ho2
      go_wp2
      have hK := HK.out
      have hmp : (mSpot2s k ps.length)[j]? = some ((K : Int), (K : Int) + 1) := by
        rw [mSpot2s_get k _ j hlt, mSpot2, hK]
      have hst := mix_set _ _ j _ (mSpot2s_len k ps.length) hmp
      refine ⟨⟨j + 1, hlt, by go_num, by congr 1; omega, by rw [← hst]; exact HS.out, ?_⟩, by simp [intOf]; omega⟩
      exact ((HB.out.transK hk2).trans (but_set _ _ _ _ _ _)).trans (but_set _ _ _ _ _ _)
    · have hke : j = ps.length := by omega
      subst hke
      go_wp2
      go_ret
      refine ⟨rfl, ?_, hkp⟩
      rw [mix_all _ _ _ (mSpot2s_len _ _) rfl] at ho
      exact ho

set_option maxHeartbeats 4000000 in
theorem heldSpot2S (n : Nat) (v : Value) (k : Nat) (w : World) (hv : Spot2At w v (mSpot2s k n)) (hb : k + 2 * n ≤ 1000000000000) :
    Calls Try.prog 39 #[v, .int .i64 (k : Int)] w fun e w' => e = .returned (.int .i64 ((k + 2 * n : Nat) : Int)) ∧ Kept w w' := by
  obtain ⟨ao, cap, hsl⟩ := row_nil hv
  rw [mSpot2s_len] at hsl
  subst hsl
  go_enter Try.func39, Try.ntmps39
  go_wp2
  go_loopw [1, 5] (fun kk i wr => ∃ (j : Nat), j ≤ n ∧ i = .int .i64 j ∧ kk = .int .i64 ((k + 2 * j : Nat) : Int) ∧ Kept w wr) (fun kk i _ => n - (intOf i).toNat)
  case atStart => exact ⟨0, by omega, rfl, rfl, But.refl _ _ _⟩
  case round =>
    obtain ⟨j, hj, rfl, rfl, hkp⟩ := hrel
    by_cases hlt : j < n
    · obtain ⟨b, o, cap1, e, c0, c1⟩ := spot2_get (hv.kept hkp) (mSpot2s_get k n j hlt)
      rw [mSpot2s_len] at e
      cases e
      have hkb : k + 2 * j + 2 ≤ 1000000000000 := by omega
      simp only [mSpot2] at c0 c1
      generalize hK : k + 2 * j = K at *
      have HK : Hid (k + 2 * j = K) := hK
      have HB : Hid _ := hkp
      have z1 : (0 : Int) ≤ (j : Int) := by omega
      have z2 : (j : Int) < (n : Int) := by omega
      clear hK hkp hv
      have hkk : Kept wr wr := But.refl _ _ _
      go_wp2
      have hK := HK.out
      exact ⟨⟨j + 1, hlt, by go_num, by congr 1; omega, HB.out.trans hkk⟩, by simp [intOf]; omega⟩
    · have hke : j = n := by omega
      subst hke
      go_wp2
      go_ret
      exact ⟨rfl, hkp⟩

end Go.Proofs.Ythohgehhoogpnaa
