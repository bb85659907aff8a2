/-
  Box: lists marked.
-/
import Derived.Test.YtaofilinejanjaaBox
import Derived.Test.YtaofilinejanjaaText
namespace Go.Proofs.Ytaofilinejanjaa
open Go.ChangeShapes Go.WideShapes Go.ChangeAt Go.RowKit

def mBox (k i : Nat) : BoxD := (((k + 5 * i : Nat) : Int), ((k + 5 * i : Nat) : Int) + 1, ((k + 5 * i : Nat) : Int) + 1 + 1, ((k + 5 * i : Nat) : Int) + 1 + 1 + 1, ((k + 5 * i : Nat) : Int) + 1 + 1 + 1 + 1)
def mBoxs (k n : Nat) : List BoxD := (List.range n).map (mBox k)
theorem mBoxs_len (k n : Nat) : (mBoxs k n).length = n := by simp [mBoxs]
theorem mBoxs_get (k n i : Nat) (h : i < n) : (mBoxs k n)[i]? = some (mBox k i) := by simp [mBoxs, h]

set_option maxHeartbeats 4000000 in
theorem markBoxS (ps : List BoxD) (v : Value) (k lo hi : Nat) (w : World) (hv : BoxO w lo hi v ps) (hb : k + 5 * ps.length ≤ 1000000000000) :
    Calls Try.prog 22 #[v, .int .i64 (k : Int)] w fun e w' => e = .returned (.int .i64 ((k + 5 * ps.length : Nat) : Int)) ∧ BoxO w' lo hi v (mBoxs k ps.length) ∧ But (blo v) (bhi v) w w' := by
  obtain ⟨ao, cap, hsl, _⟩ := own_form hv.1
  subst hsl
  go_enter Try.func22, Try.ntmps22
  go_wp2
  go_loopw [1, 5] (fun kk i wr => ∃ (j : Nat), j ≤ ps.length ∧ i = .int .i64 j ∧ kk = .int .i64 ((k + 5 * j : Nat) : Int) ∧ BoxO wr lo hi (.slice ao ps.length cap) (mix (mBoxs k ps.length) ps j) ∧ But (blo (.slice ao ps.length cap)) (bhi (.slice ao ps.length cap)) w wr) (fun kk i _ => ps.length - (intOf i).toNat)
  case atStart => exact ⟨0, by omega, rfl, rfl, by rw [mix_zero]; exact hv, But.refl _ _ _⟩
  case round =>
    obtain ⟨j, hj, rfl, rfl, ho, hkp⟩ := hrel
    by_cases hlt : j < ps.length
    · obtain ⟨p, hp⟩ : ∃ p, ps[j]? = some p := ⟨_, List.getElem?_eq_getElem hlt⟩
      have hmg : (mix (mBoxs k ps.length) ps j)[j]? = some p := by rw [mix_get _ _ _ (mBoxs_len _ _) hlt]; exact hp
      have hml : ps.length = (mix (mBoxs k ps.length) ps j).length := (mix_len _ _ _ (mBoxs_len _ _) hj).symm
      obtain ⟨b, o, cap1, e, _⟩ := box_get ho.at hmg
      rw [← hml] at e
      cases e
      obtain ⟨g', cap', hfm, _⟩ : ∃ g cap', Value.slice (some ⟨b, o, none⟩) ps.length cap = .slice (some ⟨g, 0, none⟩) ps.length cap' ∧ True := by
        rcases ho.1.2 with ⟨hf, _⟩ | ⟨g, c2, cur, hf, _⟩
        · cases hf
        · rw [← hml] at hf; exact ⟨g, c2, hf, trivial⟩
      cases hfm
      have hkb : k + 5 * j + 5 ≤ 1000000000000 := by omega
      generalize hK : k + 5 * j = K at *
      have HK : Hid (k + 5 * j = K) := hK
      have HP : Hid _ := ho
      have HB : Hid _ := hkp
      have HM : Hid (ps.length = (mix (mBoxs k ps.length) ps j).length ∧ (mix (mBoxs k ps.length) ps j)[j]? = some p) := ⟨hml, hmg⟩
      clear hK ho hkp hv hml hmg
      have hk2 : Kept wr wr := But.refl _ _ _
      have ho2 := BoxO.kept HP.out hk2
      obtain ⟨d0, d1, d2, d3, d4, dz⟩ := ho2.cells HM.out.2
      have dz0 := dz (j * 5)
      have dz1 := dz (j * 5 + 1)
      have dz2 := dz (j * 5 + 2)
      have dz3 := dz (j * 5 + 3)
      have dz4 := dz (j * 5 + 4)
      obtain ⟨e1, e2, e3, e4, d9⟩ := ho2.store HM.out.1 HM.out.2 ((K : Int), (K : Int) + 1, (K : Int) + 1 + 1, (K : Int) + 1 + 1 + 1, (K : Int) + 1 + 1 + 1 + 1)
      have HS : Hid _ := d9
      clear d9 dz ho2
      go_wp2
      have hK := HK.out
      have hmp : (mBoxs k ps.length)[j]? = some ((K : Int), (K : Int) + 1, (K : Int) + 1 + 1, (K : Int) + 1 + 1 + 1, (K : Int) + 1 + 1 + 1 + 1) := by
        rw [mBoxs_get k _ j hlt, mBox, hK]
      have hst := mix_set _ _ j _ (mBoxs_len k ps.length) hmp
      refine ⟨⟨j + 1, hlt, by go_num, by congr 1; omega, by rw [← hst]; exact HS.out, ?_⟩, by simp [intOf]; omega⟩
      exact (((((HB.out.transK hk2).trans (but_set _ _ _ _ _ _)).trans (but_set _ _ _ _ _ _)).trans (but_set _ _ _ _ _ _)).trans (but_set _ _ _ _ _ _)).trans (but_set _ _ _ _ _ _)
    · have hke : j = ps.length := by omega
      subst hke
      go_wp2
      go_ret
      refine ⟨rfl, ?_, hkp⟩
      rw [mix_all _ _ _ (mBoxs_len _ _) rfl] at ho
      exact ho

end Go.Proofs.Ytaofilinejanjaa
