/-
  Marks written over a list of pairs.
-/
import Derived.Test.YtcbenpnnjkgkdaaRows
import Derived.Test.YtcbenpnnjkgkdaaPair
import Derived.Test.YtcbenpnnjkgkdaaText
namespace Go.Proofs.Ytcbenpnnjkgkdaa
open Go.ChangeShapes Go.WideShapes Go.ChangeAt Go.RowKit

def mPair (k i : Nat) : PairD := (((k + 2 * i : Nat) : Int), ((k + 2 * i : Nat) : Int) + 1)
def mPairs (k n : Nat) : List PairD := (List.range n).map (mPair k)
theorem mPairs_len (k n : Nat) : (mPairs k n).length = n := by simp [mPairs]
theorem mPairs_get (k n i : Nat) (h : i < n) : (mPairs k n)[i]? = some (mPair k i) := by simp [mPairs, h]

set_option maxHeartbeats 4000000 in
theorem markPairS (ps : List PairD) (v : Value) (k lo hi : Nat) (w : World) (hv : PairO w lo hi v ps) (hb : k + 2 * ps.length ≤ 1000000000000) :
    Calls Try.prog 10 #[v, .int .i64 (k : Int)] w fun e w' => e = .returned (.int .i64 ((k + 2 * ps.length : Nat) : Int)) ∧ PairO w' lo hi v (mPairs k ps.length) ∧ But (blo v) (bhi v) w w' := by
  obtain ⟨ao, cap, hsl, _⟩ := own_form hv.1
  subst hsl
  go_enter Try.func10, Try.ntmps10
  go_wp2
  go_loopw [1, 5] (fun kk i wr => ∃ (j : Nat), j ≤ ps.length ∧ i = .int .i64 j ∧ kk = .int .i64 ((k + 2 * j : Nat) : Int) ∧ PairO wr lo hi (.slice ao ps.length cap) (mix (mPairs k ps.length) ps j) ∧ But (blo (.slice ao ps.length cap)) (bhi (.slice ao ps.length cap)) w wr) (fun kk i _ => ps.length - (intOf i).toNat)
  case atStart => exact ⟨0, by omega, rfl, rfl, by rw [mix_zero]; exact hv, But.refl _ _ _⟩
  case round =>
    obtain ⟨j, hj, rfl, rfl, ho, hkp⟩ := hrel
    by_cases hlt : j < ps.length
    · obtain ⟨p, hp⟩ : ∃ p, ps[j]? = some p := ⟨_, List.getElem?_eq_getElem hlt⟩
      have hmg : (mix (mPairs k ps.length) ps j)[j]? = some p := by rw [mix_get _ _ _ (mPairs_len _ _) hlt]; exact hp
      have hml : ps.length = (mix (mPairs k ps.length) ps j).length := (mix_len _ _ _ (mPairs_len _ _) hj).symm
      obtain ⟨b, o, cap1, e, _⟩ := pair_get ho.at hmg
      rw [← hml] at e
      cases e
      obtain ⟨g', cap', hfm, _⟩ : ∃ g cap', Value.slice (some ⟨b, o, none⟩) ps.length cap = .slice (some ⟨g, 0, none⟩) ps.length cap' ∧ True := by
        rcases ho.1.2 with ⟨hf, _⟩ | ⟨g, c2, cur, hf, _⟩
        · cases hf
        · rw [← hml] at hf; exact ⟨g, c2, hf, trivial⟩
      cases hfm
      have hkb : k + 2 * j + 2 ≤ 1000000000000 := by omega
      generalize hK : k + 2 * j = K at *
      have HK : Hid (k + 2 * j = K) := hK
      have HP : Hid _ := ho
      have HB : Hid _ := hkp
      have HM : Hid (ps.length = (mix (mPairs k ps.length) ps j).length ∧ (mix (mPairs k ps.length) ps j)[j]? = some p) := ⟨hml, hmg⟩
      clear hK ho hkp hv hml hmg
      have hk2 : Kept wr wr := But.refl _ _ _
      have ho2 := PairO.kept HP.out hk2
      obtain ⟨d0, d1, dz⟩ := ho2.cells HM.out.2
      have dz0 := dz (j * 2)
      have dz1 := dz (j * 2 + 1)
      obtain ⟨e1, d9⟩ := ho2.store HM.out.1 HM.out.2 ((K : Int), (K : Int) + 1)
      have HS : Hid _ := d9
      clear d9 dz ho2
      go_wp2
      have hK := HK.out
      have hmp : (mPairs k ps.length)[j]? = some ((K : Int), (K : Int) + 1) := by
        rw [mPairs_get k _ j hlt, mPair, hK]
      have hst := mix_set _ _ j _ (mPairs_len k ps.length) hmp
      refine ⟨⟨j + 1, hlt, by go_num, by congr 1; omega, by rw [← hst]; exact HS.out, ?_⟩, by simp [intOf]; omega⟩
      exact ((HB.out.transK hk2).trans (but_set _ _ _ _ _ _)).trans (but_set _ _ _ _ _ _)
    · have hke : j = ps.length := by omega
      subst hke
      go_wp2
      go_ret
      refine ⟨rfl, ?_, hkp⟩
      rw [mix_all _ _ _ (mPairs_len _ _) rfl] at ho
      exact ho

end Go.Proofs.Ytcbenpnnjkgkdaa
