/-
  Marks written over a list, and found again.
-/
import Derived.Test.YtfibikkbhbmfkaaRows
import Derived.Test.YtfibikkbhbmfkaaShape
import Derived.Test.YtfibikkbhbmfkaaText
namespace Go.Proofs.Ytfibikkbhbmfkaa
open Go.ChangeShapes Go.WideShapes Go.ChangeAt Go.RowKit

def mShape (k i : Nat) : ShapeD := (((k + 5 * i : Nat) : Int), ((k + 5 * i : Nat) : Int) + 1, ((k + 5 * i : Nat) : Int) + 1 + 1, ((k + 5 * i : Nat) : Int) + 1 + 1 + 1, ((k + 5 * i : Nat) : Int) + 1 + 1 + 1 + 1)
def mShapes (k n : Nat) : List ShapeD := (List.range n).map (mShape k)
theorem mShapes_len (k n : Nat) : (mShapes k n).length = n := by simp [mShapes]
theorem mShapes_get (k n i : Nat) (h : i < n) : (mShapes k n)[i]? = some (mShape k i) := by simp [mShapes, h]

set_option maxHeartbeats 4000000 in
theorem markShapeS (ps : List ShapeD) (v : Value) (k lo hi : Nat) (w : World) (hv : ShapeO w lo hi v ps) (hb : k + 5 * ps.length ≤ 1000000000000) :
    Calls Try.prog 25 #[v, .int .i64 (k : Int)] w fun e w' => e = .returned (.int .i64 ((k + 5 * ps.length : Nat) : Int)) ∧ ShapeO w' lo hi v (mShapes k ps.length) ∧ But (blo v) (bhi v) w w' := by
  obtain ⟨ao, cap, hsl, _⟩ := own_form hv.1
  subst hsl
  go_enter Try.func25, Try.ntmps25
  go_wp2
  go_loopw [1, 5] (fun kk i wr => ∃ (j : Nat), j ≤ ps.length ∧ i = .int .i64 j ∧ kk = .int .i64 ((k + 5 * j : Nat) : Int) ∧ ShapeO wr lo hi (.slice ao ps.length cap) (mix (mShapes k ps.length) ps j) ∧ But (blo (.slice ao ps.length cap)) (bhi (.slice ao ps.length cap)) w wr) (fun kk i _ => ps.length - (intOf i).toNat)
  case atStart => exact ⟨0, by omega, rfl, rfl, by rw [mix_zero]; exact hv, But.refl _ _ _⟩
  case round =>
    obtain ⟨j, hj, rfl, rfl, ho, hkp⟩ := hrel
    by_cases hlt : j < ps.length
    · obtain ⟨p, hp⟩ : ∃ p, ps[j]? = some p := ⟨_, List.getElem?_eq_getElem hlt⟩
      have hmg : (mix (mShapes k ps.length) ps j)[j]? = some p := by rw [mix_get _ _ _ (mShapes_len _ _) hlt]; exact hp
      have hml : ps.length = (mix (mShapes k ps.length) ps j).length := (mix_len _ _ _ (mShapes_len _ _) hj).symm
      obtain ⟨b, o, cap1, e, _⟩ := shape_get ho.at hmg
      rw [← hml] at e
      cases e
      obtain ⟨g', cap', hfm, _⟩ : ∃ g cap', Value.slice (some ⟨b, o, none⟩) ps.length cap = .slice (some ⟨g, 0, none⟩) ps.length cap' ∧ True := by
        rcases ho.1.2 with ⟨hf, _⟩ | ⟨g, c2, cur, hf, _⟩
        · cases hf
        · rw [← hml] at hf; exact ⟨g, c2, hf, trivial⟩
      cases hfm
      have hkb : k + 5 * j + 5 ≤ 1000000000000 := by omega
      generalize hK : k + 5 * j = K at *
      have HK : Hid (k + 5 * j = K) := hK
      have HP : Hid _ := ho
      have HB : Hid _ := hkp
      have HM : Hid (ps.length = (mix (mShapes k ps.length) ps j).length ∧ (mix (mShapes k ps.length) ps j)[j]? = some p) := ⟨hml, hmg⟩
      clear hK ho hkp hv hml hmg
      have hk2 : Kept wr wr := But.refl _ _ _
      have ho2 := ShapeO.kept HP.out hk2
      obtain ⟨d0, d1, d2, d3, d4, dz⟩ := ho2.cells HM.out.2
      have dz0 := dz (j * 5)
      have dz1 := dz (j * 5 + 1)
      have dz2 := dz (j * 5 + 2)
      have dz3 := dz (j * 5 + 3)
      have dz4 := dz (j * 5 + 4)
      obtain ⟨e1, e2, e3, e4, d9⟩ := ho2.store HM.out.1 HM.out.2 ((K : Int), (K : Int) + 1, (K : Int) + 1 + 1, (K : Int) + 1 + 1 + 1, (K : Int) + 1 + 1 + 1 + 1)
      have HS : Hid _ := d9
      clear d9 dz ho2
      go_wp2
      have hK := HK.out
      have hmp : (mShapes k ps.length)[j]? = some ((K : Int), (K : Int) + 1, (K : Int) + 1 + 1, (K : Int) + 1 + 1 + 1, (K : Int) + 1 + 1 + 1 + 1) := by
        rw [mShapes_get k _ j hlt, mShape, hK]
      have hst := mix_set _ _ j _ (mShapes_len k ps.length) hmp
      refine ⟨⟨j + 1, hlt, by go_num, by congr 1; omega, by rw [← hst]; exact HS.out, ?_⟩, by simp [intOf]; omega⟩
      exact (((((HB.out.transK hk2).trans (but_set _ _ _ _ _ _)).trans (but_set _ _ _ _ _ _)).trans (but_set _ _ _ _ _ _)).trans (but_set _ _ _ _ _ _)).trans (but_set _ _ _ _ _ _)
    · have hke : j = ps.length := by omega
      subst hke
      go_wp2
      go_ret
      refine ⟨rfl, ?_, hkp⟩
      rw [mix_all _ _ _ (mShapes_len _ _) rfl] at ho
      exact ho

def mPair (k i : Nat) : PairD := (((k + 2 * i : Nat) : Int), ((k + 2 * i : Nat) : Int) + 1)
def mPairs (k n : Nat) : List PairD := (List.range n).map (mPair k)
theorem mPairs_len (k n : Nat) : (mPairs k n).length = n := by simp [mPairs]
theorem mPairs_get (k n i : Nat) (h : i < n) : (mPairs k n)[i]? = some (mPair k i) := by simp [mPairs, h]

set_option maxHeartbeats 4000000 in
theorem markPairS (ps : List PairD) (v : Value) (k lo hi : Nat) (w : World) (hv : PairO w lo hi v ps) (hb : k + 2 * ps.length ≤ 1000000000000) :
    Calls Try.prog 26 #[v, .int .i64 (k : Int)] w fun e w' => e = .returned (.int .i64 ((k + 2 * ps.length : Nat) : Int)) ∧ PairO w' lo hi v (mPairs k ps.length) ∧ But (blo v) (bhi v) w w' := by
  obtain ⟨ao, cap, hsl, _⟩ := own_form hv.1
  subst hsl
  go_enter Try.func26, Try.ntmps26
  go_wp2
  go_loopw [1, 5] (fun kk i wr => ∃ (j : Nat), j ≤ ps.length ∧ i = .int .i64 j ∧ kk = .int .i64 ((k + 2 * j : Nat) : Int) ∧ PairO wr lo hi (.slice ao ps.length cap) (mix (mPairs k ps.length) ps j) ∧ But (blo (.slice ao ps.length cap)) (bhi (.slice ao ps.length cap)) w wr) (fun kk i _ => ps.length - (intOf i).toNat)
  case atStart => exact ⟨0, by omega, rfl, rfl, by rw [mix_zero]; exact hv, But.refl _ _ _⟩
  case round =>
    obtain ⟨j, hj, rfl, rfl, ho, hkp⟩ := hrel
    by_cases hlt : j < ps.length
    · obtain ⟨p, hp⟩ : ∃ p, ps[j]? = some p := ⟨_, List.getElem?_eq_getElem hlt⟩
      have hmg : (mix (mPairs k ps.length) ps j)[j]? = some p := by rw [mix_get _ _ _ (mPairs_len _ _) hlt]; exact hp
      have hml : ps.length = (mix (mPairs k ps.length) ps j).length := (mix_len _ _ _ (mPairs_len _ _) hj).symm
      obtain ⟨b, o, cap1, e, _⟩ := pair_get ho.at hmg
      rw [← hml] at e
      cases e
      obtain ⟨g', cap', hfm, _⟩ : ∃ g cap', Value.slice (some ⟨b, o, none⟩) ps.length cap = .slice (some ⟨g, 0, none⟩) ps.length cap' ∧ True := by
        rcases ho.1.2 with ⟨hf, _⟩ | ⟨g, c2, cur, hf, _⟩
        · cases hf
        · rw [← hml] at hf; exact ⟨g, c2, hf, trivial⟩
      cases hfm
      have hkb : k + 2 * j + 2 ≤ 1000000000000 := by omega
      generalize hK : k + 2 * j = K at *
      have HK : Hid (k + 2 * j = K) := hK
      have HP : Hid _ := ho
      have HB : Hid _ := hkp
      have HM : Hid (ps.length = (mix (mPairs k ps.length) ps j).length ∧ (mix (mPairs k ps.length) ps j)[j]? = some p) := ⟨hml, hmg⟩
      clear hK ho hkp hv hml hmg
      have hk2 : Kept wr wr := But.refl _ _ _
      have ho2 := PairO.kept HP.out hk2
      obtain ⟨d0, d1, dz⟩ := ho2.cells HM.out.2
      have dz0 := dz (j * 2)
      have dz1 := dz (j * 2 + 1)
      obtain ⟨e1, d9⟩ := ho2.store HM.out.1 HM.out.2 ((K : Int), (K : Int) + 1)
      have HS : Hid _ := d9
      clear d9 dz ho2
      go_wp2
      have hK := HK.out
      have hmp : (mPairs k ps.length)[j]? = some ((K : Int), (K : Int) + 1) := by
        rw [mPairs_get k _ j hlt, mPair, hK]
      have hst := mix_set _ _ j _ (mPairs_len k ps.length) hmp
      refine ⟨⟨j + 1, hlt, by go_num, by congr 1; omega, by rw [← hst]; exact HS.out, ?_⟩, by simp [intOf]; omega⟩
      exact ((HB.out.transK hk2).trans (but_set _ _ _ _ _ _)).trans (but_set _ _ _ _ _ _)
    · have hke : j = ps.length := by omega
      subst hke
      go_wp2
      go_ret
      refine ⟨rfl, ?_, hkp⟩
      rw [mix_all _ _ _ (mPairs_len _ _) rfl] at ho
      exact ho

set_option maxHeartbeats 4000000 in
theorem heldPairS (n : Nat) (v : Value) (k : Nat) (w : World) (hv : PairAt w v (mPairs k n)) (hb : k + 2 * n ≤ 1000000000000) :
    Calls Try.prog 27 #[v, .int .i64 (k : Int)] w fun e w' => e = .returned (.int .i64 ((k + 2 * n : Nat) : Int)) ∧ Kept w w' := by
  obtain ⟨ao, cap, hsl⟩ := row_nil hv
  rw [mPairs_len] at hsl
  subst hsl
  go_enter Try.func27, Try.ntmps27
  go_wp2
  go_loopw [1, 5] (fun kk i wr => ∃ (j : Nat), j ≤ n ∧ i = .int .i64 j ∧ kk = .int .i64 ((k + 2 * j : Nat) : Int) ∧ Kept w wr) (fun kk i _ => n - (intOf i).toNat)
  case atStart => exact ⟨0, by omega, rfl, rfl, But.refl _ _ _⟩
  case round =>
    obtain ⟨j, hj, rfl, rfl, hkp⟩ := hrel
    by_cases hlt : j < n
    · obtain ⟨b, o, cap1, e, c0, c1⟩ := pair_get (hv.kept hkp) (mPairs_get k n j hlt)
      rw [mPairs_len] at e
      cases e
      have hkb : k + 2 * j + 2 ≤ 1000000000000 := by omega
      simp only [mPair] at c0 c1
      generalize hK : k + 2 * j = K at *
      have HK : Hid (k + 2 * j = K) := hK
      have HB : Hid _ := hkp
      have z1 : (0 : Int) ≤ (j : Int) := by omega
      have z2 : (j : Int) < (n : Int) := by omega
      clear hK hkp hv
      have hkk : Kept wr wr := But.refl _ _ _
      go_wp2
      have hK := HK.out
      exact ⟨⟨j + 1, hlt, by go_num, by congr 1; omega, HB.out.trans hkk⟩, by simp [intOf]; omega⟩
    · have hke : j = n := by omega
      subst hke
      go_wp2
      go_ret
      exact ⟨rfl, hkp⟩

def mMeet (k i : Nat) : MeetD := (((k + 3 * i : Nat) : Int), ((k + 3 * i : Nat) : Int) + 1, ((k + 3 * i : Nat) : Int) + 1 + 1)
def mMeets (k n : Nat) : List MeetD := (List.range n).map (mMeet k)
theorem mMeets_len (k n : Nat) : (mMeets k n).length = n := by simp [mMeets]
theorem mMeets_get (k n i : Nat) (h : i < n) : (mMeets k n)[i]? = some (mMeet k i) := by simp [mMeets, h]

set_option maxHeartbeats 4000000 in
theorem markMeetS (ps : List MeetD) (v : Value) (k lo hi : Nat) (w : World) (hv : MeetO w lo hi v ps) (hb : k + 3 * ps.length ≤ 1000000000000) :
    Calls Try.prog 33 #[v, .int .i64 (k : Int)] w fun e w' => e = .returned (.int .i64 ((k + 3 * ps.length : Nat) : Int)) ∧ MeetO w' lo hi v (mMeets k ps.length) ∧ But (blo v) (bhi v) w w' := by
  obtain ⟨ao, cap, hsl, _⟩ := own_form hv.1
  subst hsl
  go_enter Try.func33, Try.ntmps33
  go_wp2
  go_loopw [1, 5] (fun kk i wr => ∃ (j : Nat), j ≤ ps.length ∧ i = .int .i64 j ∧ kk = .int .i64 ((k + 3 * j : Nat) : Int) ∧ MeetO wr lo hi (.slice ao ps.length cap) (mix (mMeets k ps.length) ps j) ∧ But (blo (.slice ao ps.length cap)) (bhi (.slice ao ps.length cap)) w wr) (fun kk i _ => ps.length - (intOf i).toNat)
  case atStart => exact ⟨0, by omega, rfl, rfl, by rw [mix_zero]; exact hv, But.refl _ _ _⟩
  case round =>
    obtain ⟨j, hj, rfl, rfl, ho, hkp⟩ := hrel
    by_cases hlt : j < ps.length
    · obtain ⟨p, hp⟩ : ∃ p, ps[j]? = some p := ⟨_, List.getElem?_eq_getElem hlt⟩
      have hmg : (mix (mMeets k ps.length) ps j)[j]? = some p := by rw [mix_get _ _ _ (mMeets_len _ _) hlt]; exact hp
      have hml : ps.length = (mix (mMeets k ps.length) ps j).length := (mix_len _ _ _ (mMeets_len _ _) hj).symm
      obtain ⟨b, o, cap1, e, _⟩ := meet_get ho.at hmg
      rw [← hml] at e
      cases e
      obtain ⟨g', cap', hfm, _⟩ : ∃ g cap', Value.slice (some ⟨b, o, none⟩) ps.length cap = .slice (some ⟨g, 0, none⟩) ps.length cap' ∧ True := by
        rcases ho.1.2 with ⟨hf, _⟩ | ⟨g, c2, cur, hf, _⟩
        · cases hf
        · rw [← hml] at hf; exact ⟨g, c2, hf, trivial⟩
      cases hfm
      have hkb : k + 3 * j + 3 ≤ 1000000000000 := by omega
      generalize hK : k + 3 * j = K at *
      have HK : Hid (k + 3 * j = K) := hK
      have HP : Hid _ := ho
      have HB : Hid _ := hkp
      have HM : Hid (ps.length = (mix (mMeets k ps.length) ps j).length ∧ (mix (mMeets k ps.length) ps j)[j]? = some p) := ⟨hml, hmg⟩
      clear hK ho hkp hv hml hmg
      have hk2 : Kept wr wr := But.refl _ _ _
      have ho2 := MeetO.kept HP.out hk2
      obtain ⟨d0, d1, d2, dz⟩ := ho2.cells HM.out.2
      have dz0 := dz (j * 3)
      have dz1 := dz (j * 3 + 1)
      have dz2 := dz (j * 3 + 2)
      obtain ⟨e1, e2, d9⟩ := ho2.store HM.out.1 HM.out.2 ((K : Int), (K : Int) + 1, (K : Int) + 1 + 1)
      have HS : Hid _ := d9
      clear d9 dz ho2
      go_wp2
      have hK := HK.out
      have hmp : (mMeets k ps.length)[j]? = some ((K : Int), (K : Int) + 1, (K : Int) + 1 + 1) := by
        rw [mMeets_get k _ j hlt, mMeet, hK]
      have hst := mix_set _ _ j _ (mMeets_len k ps.length) hmp
      refine ⟨⟨j + 1, hlt, by go_num, by congr 1; omega, by rw [← hst]; exact HS.out, ?_⟩, by simp [intOf]; omega⟩
      exact (((HB.out.transK hk2).trans (but_set _ _ _ _ _ _)).trans (but_set _ _ _ _ _ _)).trans (but_set _ _ _ _ _ _)
    · have hke : j = ps.length := by omega
      subst hke
      go_wp2
      go_ret
      refine ⟨rfl, ?_, hkp⟩
      rw [mix_all _ _ _ (mMeets_len _ _) rfl] at ho
      exact ho

set_option maxHeartbeats 4000000 in
theorem heldMeetS (n : Nat) (v : Value) (k : Nat) (w : World) (hv : MeetAt w v (mMeets k n)) (hb : k + 3 * n ≤ 1000000000000) :
    Calls Try.prog 34 #[v, .int .i64 (k : Int)] w fun e w' => e = .returned (.int .i64 ((k + 3 * n : Nat) : Int)) ∧ Kept w w' := by
  obtain ⟨ao, cap, hsl⟩ := row_nil hv
  rw [mMeets_len] at hsl
  subst hsl
  go_enter Try.func34, Try.ntmps34
  go_wp2
  go_loopw [1, 5] (fun kk i wr => ∃ (j : Nat), j ≤ n ∧ i = .int .i64 j ∧ kk = .int .i64 ((k + 3 * j : Nat) : Int) ∧ Kept w wr) (fun kk i _ => n - (intOf i).toNat)
  case atStart => exact ⟨0, by omega, rfl, rfl, But.refl _ _ _⟩
  case round =>
    obtain ⟨j, hj, rfl, rfl, hkp⟩ := hrel
    by_cases hlt : j < n
    · obtain ⟨b, o, cap1, e, c0, c1, c2⟩ := meet_get (hv.kept hkp) (mMeets_get k n j hlt)
      rw [mMeets_len] at e
      cases e
      have hkb : k + 3 * j + 3 ≤ 1000000000000 := by omega
      simp only [mMeet] at c0 c1 c2
      generalize hK : k + 3 * j = K at *
      have HK : Hid (k + 3 * j = K) := hK
      have HB : Hid _ := hkp
      have z1 : (0 : Int) ≤ (j : Int) := by omega
      have z2 : (j : Int) < (n : Int) := by omega
      clear hK hkp hv
      have hkk : Kept wr wr := But.refl _ _ _
      go_wp2
      have hK := HK.out
      exact ⟨⟨j + 1, hlt, by go_num, by congr 1; omega, HB.out.trans hkk⟩, by simp [intOf]; omega⟩
    · have hke : j = n := by omega
      subst hke
      go_wp2
      go_ret
      exact ⟨rfl, hkp⟩

end Go.Proofs.Ytfibikkbhbmfkaa
