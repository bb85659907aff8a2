/-
  Lists of items marked.
-/
import Derived.Test.YtoimpkhgdpkhkaaItem
import Derived.Test.YtoimpkhgdpkhkaaText
namespace Go.Proofs.Ytoimpkhgdpkhkaa
open Go.ChangeShapes Go.WideShapes Go.ChangeAt Go.RowKit

theorem but_set9 (w : World) (g n cap j0 j1 j2 j3 j4 j5 j6 j7 j8 : Nat) (u0 u1 u2 u3 u4 u5 u6 u7 u8 : Value) : But (blo (.slice (some ⟨g, 0, none⟩) n cap)) (bhi (.slice (some ⟨g, 0, none⟩) n cap)) w (((((((((w.setCell ⟨g, j0, none⟩ u0).setCell ⟨g, j1, none⟩ u1).setCell ⟨g, j2, none⟩ u2).setCell ⟨g, j3, none⟩ u3).setCell ⟨g, j4, none⟩ u4).setCell ⟨g, j5, none⟩ u5).setCell ⟨g, j6, none⟩ u6).setCell ⟨g, j7, none⟩ u7).setCell ⟨g, j8, none⟩ u8) :=
  (((((((((but_set w g n cap j0 u0)).trans (but_set _ g n cap j1 u1)).trans (but_set _ g n cap j2 u2)).trans (but_set _ g n cap j3 u3)).trans (but_set _ g n cap j4 u4)).trans (but_set _ g n cap j5 u5)).trans (but_set _ g n cap j6 u6)).trans (but_set _ g n cap j7 u7)).trans (but_set _ g n cap j8 u8)

def mItem (k i : Nat) : ItemD := (((k + 9 * i : Nat) : Int), ((k + 9 * i : Nat) : Int) + 1, ((k + 9 * i : Nat) : Int) + 1 + 1, ((k + 9 * i : Nat) : Int) + 1 + 1 + 1, ((((k + 9 * i : Nat) : Int) + 1 + 1 + 1 + 1) % 3 == 0), ((k + 9 * i : Nat) : Int) + 1 + 1 + 1 + 1 + 1, ((k + 9 * i : Nat) : Int) + 1 + 1 + 1 + 1 + 1 + 1, ((k + 9 * i : Nat) : Int) + 1 + 1 + 1 + 1 + 1 + 1 + 1, ((k + 9 * i : Nat) : Int) + 1 + 1 + 1 + 1 + 1 + 1 + 1 + 1)
def mItems (k n : Nat) : List ItemD := (List.range n).map (mItem k)
theorem mItems_len (k n : Nat) : (mItems k n).length = n := by simp [mItems]
theorem mItems_get (k n i : Nat) (h : i < n) : (mItems k n)[i]? = some (mItem k i) := by simp [mItems, h]

set_option maxHeartbeats 16000000 in
theorem markItemS (ps : List ItemD) (v : Value) (k lo hi : Nat) (w : World) (hv : ItemO w lo hi v ps) (hb : k + 9 * ps.length ≤ 1000000000000) :
    Calls Try.prog 19 #[v, .int .i64 (k : Int)] w fun e w' => e = .returned (.int .i64 ((k + 9 * ps.length : Nat) : Int)) ∧ ItemO w' lo hi v (mItems k ps.length) ∧ But (blo v) (bhi v) w w' := by
  obtain ⟨ao, cap, hsl, _⟩ := own_form hv.1
  subst hsl
  go_enter Try.func19, Try.ntmps19
  go_wp2
  go_loopw [1, 5] (fun kk i wr => ∃ (j : Nat), j ≤ ps.length ∧ i = .int .i64 j ∧ kk = .int .i64 ((k + 9 * j : Nat) : Int) ∧ ItemO wr lo hi (.slice ao ps.length cap) (mix (mItems k ps.length) ps j) ∧ But (blo (.slice ao ps.length cap)) (bhi (.slice ao ps.length cap)) w wr) (fun kk i _ => ps.length - (intOf i).toNat)
  case atStart => exact ⟨0, by omega, rfl, rfl, by rw [mix_zero]; exact hv, But.refl _ _ _⟩
  case round =>
    obtain ⟨j, hj, rfl, rfl, ho, hkp⟩ := hrel
    by_cases hlt : j < ps.length
    · obtain ⟨p, hp⟩ : ∃ p, ps[j]? = some p := ⟨_, List.getElem?_eq_getElem hlt⟩
      have hmg : (mix (mItems k ps.length) ps j)[j]? = some p := by rw [mix_get _ _ _ (mItems_len _ _) hlt]; exact hp
      have hml : ps.length = (mix (mItems k ps.length) ps j).length := (mix_len _ _ _ (mItems_len _ _) hj).symm
      obtain ⟨b, o, cap1, e, _⟩ := item_get ho.at hmg
      rw [← hml] at e
      cases e
      obtain ⟨g', cap', hfm, _⟩ : ∃ g cap', Value.slice (some ⟨b, o, none⟩) ps.length cap = .slice (some ⟨g, 0, none⟩) ps.length cap' ∧ True := by
        rcases ho.1.2 with ⟨hf, _⟩ | ⟨g, c2, cur, hf, _⟩
        · cases hf
        · rw [← hml] at hf; exact ⟨g, c2, hf, trivial⟩
      cases hfm
      have hkb : k + 9 * j + 9 ≤ 1000000000000 := by omega
      generalize hK : k + 9 * j = K at *
      have HK : Hid (k + 9 * j = K) := hK
      have HP : Hid _ := ho
      have HB : Hid _ := hkp
      have HM : Hid (ps.length = (mix (mItems k ps.length) ps j).length ∧ (mix (mItems k ps.length) ps j)[j]? = some p) := ⟨hml, hmg⟩
      clear hK ho hkp hv hml hmg
      have hk2 : Kept wr wr := But.refl _ _ _
      have ho2 := ItemO.kept HP.out hk2
      obtain ⟨d0, d1, d2, d3, d4, d5, d6, d7, d8, dz⟩ := ho2.cells HM.out.2
      have dz0 := dz (j * 9)
      have dz1 := dz (j * 9 + 1)
      have dz2 := dz (j * 9 + 2)
      have dz3 := dz (j * 9 + 3)
      have dz4 := dz (j * 9 + 4)
      have dz5 := dz (j * 9 + 5)
      have dz6 := dz (j * 9 + 6)
      have dz7 := dz (j * 9 + 7)
      have dz8 := dz (j * 9 + 8)
      obtain ⟨e1, e2, e3, e4, e5, e6, e7, e8, d9⟩ := ho2.store HM.out.1 HM.out.2 ((K : Int), (K : Int) + 1, (K : Int) + 1 + 1, (K : Int) + 1 + 1 + 1, (((K : Int) + 1 + 1 + 1 + 1) % 3 == 0), (K : Int) + 1 + 1 + 1 + 1 + 1, (K : Int) + 1 + 1 + 1 + 1 + 1 + 1, (K : Int) + 1 + 1 + 1 + 1 + 1 + 1 + 1, (K : Int) + 1 + 1 + 1 + 1 + 1 + 1 + 1 + 1)
      have HS : Hid _ := d9
      clear d9 dz ho2
      have HN1 : Hid (((j : Int) + 1) = ((j + 1 : Nat) : Int)) := show _ = _ by omega
      have HN2 : Hid ((K : Int) + 1 + 1 + 1 + 1 + 1 + 1 + 1 + 1 + 1 = ((k + 9 * (j + 1) : Nat) : Int)) := show _ = _ by have := HK.out; omega
      have HN3 : Hid (ps.length - (j + 1) < ps.length - j) := show _ < _ by omega
      go_wp2
      have hK := HK.out
      have hmp : (mItems k ps.length)[j]? = some ((K : Int), (K : Int) + 1, (K : Int) + 1 + 1, (K : Int) + 1 + 1 + 1, (((K : Int) + 1 + 1 + 1 + 1) % 3 == 0), (K : Int) + 1 + 1 + 1 + 1 + 1, (K : Int) + 1 + 1 + 1 + 1 + 1 + 1, (K : Int) + 1 + 1 + 1 + 1 + 1 + 1 + 1, (K : Int) + 1 + 1 + 1 + 1 + 1 + 1 + 1 + 1) := by
        rw [mItems_get k _ j hlt, mItem, hK]
      have hst := mix_set _ _ j _ (mItems_len k ps.length) hmp
      refine ⟨⟨j + 1, hlt, congrArg (Value.int IntKind.i64) HN1.out, congrArg (Value.int IntKind.i64) HN2.out, by rw [← hst]; exact HS.out, ?_⟩, by rw [HN1.out]; exact HN3.out⟩
      exact (HB.out.transK hk2).trans (but_set9 _ _ _ _ _ _ _ _ _ _ _ _ _ _ _ _ _ _ _ _ _ _)
    · have hke : j = ps.length := by omega
      subst hke
      go_wp2
      go_ret
      refine ⟨rfl, ?_, hkp⟩
      rw [mix_all _ _ _ (mItems_len _ _) rfl] at ho
      exact ho

end Go.Proofs.Ytoimpkhgdpkhkaa
