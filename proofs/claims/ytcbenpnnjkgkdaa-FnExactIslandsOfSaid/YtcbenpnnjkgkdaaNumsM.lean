/-
  Marks written over lists of lists, and found again.
-/
import Derived.Test.YtcbenpnnjkgkdaaNums
namespace Go.Proofs.Ytcbenpnnjkgkdaa
open Go.ChangeShapes Go.WideShapes Go.ChangeAt Go.RowKit

def markNums : Nat → List NumsE → List NumsE
  | _, [] => []
  | k, r :: rs => (r.1, mNum k r.2.length) :: markNums (k + r.2.length) rs
theorem markNums_len (k : Nat) (rs : List NumsE) : (markNums k rs).length = rs.length := by
  induction rs generalizing k with
  | nil => rfl
  | cons r rs ih => simp [markNums, ih]
theorem markNums_get (k : Nat) (rs : List NumsE) (j : Nat) (r : NumsE) (h : rs[j]? = some r) : (markNums k rs)[j]? = some (r.1, mNum (k + numsSum (rs.take j)) r.2.length) := by
  induction rs generalizing k j with
  | nil => simp at h
  | cons q rs ih =>
    cases j with
    | zero =>
      simp at h
      subst h
      simp [markNums, numsSum]
    | succ j =>
      simp at h
      have := ih (k + q.2.length) j h
      simp only [markNums, List.getElem?_cons_succ, this]
      simp [numsSum, Nat.add_assoc]
theorem NumsO.inner {w w' : World} {lo hi : Nat} {v : Value} {rs : List NumsE} (h : NumsO w lo hi v rs) {i : Nat} {r : NumsE} (hr : rs[i]? = some r) {l' : List NumD} (k : But (blo r.1) (bhi r.1) w w') (hp : NumO w' lo hi r.1 l') : NumsO w' lo hi v (rs.set i (r.1, l')) := by
  have hil : i < rs.length := (List.getElem?_eq_some_iff.1 hr).1
  have hc : (rs.set i (r.1, l')).flatMap numsC = rs.flatMap numsC := by
    have e : ∀ ys : List NumsE, ys.flatMap numsC = ys.map Prod.fst := fun ys => by induction ys with
      | nil => rfl
      | cons y ys ih => simp [numsC, ih]
    rw [e, e]
    apply List.ext_getElem?
    intro n
    rw [List.getElem?_map, List.getElem?_map, List.getElem?_set]
    by_cases hn : i = n
    · subst hn
      rw [if_pos rfl, hr]
      simp [hil]
    · rw [if_neg hn]
  refine ⟨?_, fun j z hz => ?_, fun j m z z' hjm hz hz' => ?_⟩
  · rw [List.length_set, hc]
    exact RowO.apart h.row k (ap_types h.row (h.inn i r hr) (by decide))
  · rcases get_set hz with ⟨_, rfl⟩ | ⟨hji, hz⟩
    · exact hp
    · exact RowO.apart (h.inn j z hz) k (h.apart j i z r hji hz hr)
  · rcases get_set hz with ⟨hj, rfl⟩ | ⟨hj, hz⟩
    · rcases get_set hz' with ⟨hm, rfl⟩ | ⟨_, hz'⟩
      · exact absurd (hj.trans hm.symm) hjm
      · exact h.apart i m r z' (fun e => hjm (hj.trans e)) hr hz'
    · rcases get_set hz' with ⟨hm, rfl⟩ | ⟨_, hz'⟩
      · exact h.apart j i z r (fun e => hjm (e.trans hm.symm)) hz hr
      · exact h.apart j m z z' hjm hz hz'

set_option maxHeartbeats 4000000 in
theorem markNumsS (ps : List NumsE) (v : Value) (k lo hi : Nat) (w : World) (hv : NumsO w lo hi v ps) (hb : k + numsSum ps ≤ 1000000000000) (hn : ps.length ≤ 1000000000000) :
    Calls Try.prog 11 #[v, .int .i64 (k : Int)] w fun e w' => e = .returned (.int .i64 ((k + numsSum ps : Nat) : Int)) ∧ NumsO w' lo hi v (markNums k ps) ∧ But lo hi w w' := by
  obtain ⟨ao, cap, hsl⟩ := hv.form
  subst hsl
  go_enter Try.func11, Try.ntmps11
  go_wp2
  go_loopw [1, 5] (fun kk i wr => ∃ (j : Nat), j ≤ ps.length ∧ i = .int .i64 j ∧ kk = .int .i64 ((k + numsSum (ps.take j) : Nat) : Int) ∧ NumsO wr lo hi (.slice ao ps.length cap) (mix (markNums k ps) ps j) ∧ But lo hi w wr) (fun kk i _ => ps.length - (intOf i).toNat)
  case atStart => exact ⟨0, by omega, rfl, by simp [numsSum], by rw [mix_zero]; exact hv, But.refl _ _ _⟩
  case round =>
    obtain ⟨j, hj, rfl, rfl, ho, hkp⟩ := hrel
    by_cases hlt : j < ps.length
    · obtain ⟨p, hp⟩ : ∃ p, ps[j]? = some p := ⟨_, List.getElem?_eq_getElem hlt⟩
      have hmg : (mix (markNums k ps) ps j)[j]? = some p := by rw [mix_get _ _ _ (markNums_len _ _) hlt]; exact hp
      have hml : (mix (markNums k ps) ps j).length = ps.length := mix_len _ _ _ (markNums_len _ _) hj
      obtain ⟨b, o, cap1, e, c0, hpa⟩ := nums_get ho.at hmg
      rw [hml] at e
      cases e
      have hin := ho.inn j p hmg
      have hsn := numsSum_snoc (ps.take j) p
      rw [← take_snoc hp] at hsn
      have hst := numsSum_take ps (j + 1)
      have hset := mix_set _ _ j _ (markNums_len k ps) (markNums_get k ps j p hp)
      have HSET : Hid _ := hset
      have HMG : Hid ((mix (markNums k ps) ps j)[j]? = some p) := hmg
      obtain ⟨K, hK⟩ : ∃ K, k + numsSum (ps.take j) = K := ⟨_, rfl⟩
      have HK : Hid (k + numsSum (ps.take j) = K ∧ numsSum (ps.take (j + 1)) = numsSum (ps.take j) + p.2.length) := ⟨hK, hsn⟩
      have hKb : K + p.2.length ≤ 1000000000000 := by omega
      rw [hK]
      have HO : Hid _ := ho
      have HI : Hid _ := hin
      have HB : Hid _ := hkp
      clear hset hmg hsn hst hK ho hkp hv hml hp
      obtain ⟨ao3, cap3, hsl3⟩ := row_nil hpa
      obtain ⟨pv, l⟩ := p
      dsimp only at hsl3 c0 hKb
      subst hsl3
      clear hpa
      go_wp2_with (go_at_call 19; refine (markNumS l _ K lo hi _ HI.out hKb).mono ?_; rintro e w' ⟨rfl, ho2, hk2⟩)
      have hK := HK.out
      refine ⟨⟨j + 1, hlt, by go_num, by congr 1; omega, ?_, ?_⟩, by simp [intOf]; omega⟩
      · have := HSET.out
        rw [hK.1] at this
        rw [← this]
        exact NumsO.inner HO.out HMG.out hk2 ho2
      · exact HB.out.trans (But.inner hk2 HI.out)
    · have hke : j = ps.length := by omega
      subst hke
      rw [mix_all _ _ _ (markNums_len _ _) rfl] at ho
      go_wp2
      go_ret
      exact ⟨ret_int (by rw [List.take_length]), ho, hkp⟩

set_option maxHeartbeats 4000000 in
theorem heldNumsS (ps : List NumsE) (v : Value) (k : Nat) (w : World) (hv : NumsAt w v (markNums k ps)) (hb : k + numsSum ps ≤ 1000000000000) (hn : ps.length ≤ 1000000000000) :
    Calls Try.prog 12 #[v, .int .i64 (k : Int)] w fun e w' => e = .returned (.int .i64 ((k + numsSum ps : Nat) : Int)) ∧ Kept w w' := by
  obtain ⟨ao, cap, hsl⟩ := row_nil hv.1
  rw [markNums_len] at hsl
  subst hsl
  go_enter Try.func12, Try.ntmps12
  go_wp2
  go_loopw [1, 5] (fun kk i wr => ∃ (j : Nat), j ≤ ps.length ∧ i = .int .i64 j ∧ kk = .int .i64 ((k + numsSum (ps.take j) : Nat) : Int) ∧ Kept w wr) (fun kk i _ => ps.length - (intOf i).toNat)
  case atStart => exact ⟨0, by omega, rfl, by simp [numsSum], But.refl _ _ _⟩
  case round =>
    obtain ⟨j, hj, rfl, rfl, hkp⟩ := hrel
    by_cases hlt : j < ps.length
    · obtain ⟨p, hp⟩ : ∃ p, ps[j]? = some p := ⟨_, List.getElem?_eq_getElem hlt⟩
      obtain ⟨b, o, cap1, e, c0, hpa⟩ := nums_get (hv.kept hkp) (markNums_get k ps j p hp)
      rw [markNums_len] at e
      cases e
      have hsn := numsSum_snoc (ps.take j) p
      rw [← take_snoc hp] at hsn
      have hst := numsSum_take ps (j + 1)
      obtain ⟨K, hK⟩ : ∃ K, k + numsSum (ps.take j) = K := ⟨_, rfl⟩
      have HK : Hid (k + numsSum (ps.take j) = K ∧ numsSum (ps.take (j + 1)) = numsSum (ps.take j) + p.2.length) := ⟨hK, hsn⟩
      have hKb : K + p.2.length ≤ 1000000000000 := by omega
      dsimp only at hpa c0
      rw [hK] at hpa ⊢
      have HB : Hid _ := hkp
      have hnn : decide (((K + p.2.length : Nat) : Int) < 0) = false := by simp; omega
      clear hsn hst hK hkp hv hp
      obtain ⟨ao3, cap3, hsl3⟩ := row_nil hpa
      rw [mNum_len] at hsl3
      obtain ⟨pv, l⟩ := p
      dsimp only at hsl3 c0 hKb hpa hnn
      subst hsl3
      have HP : Hid _ := hpa
      clear hpa
      go_wp2_with (go_at_call 20; refine (heldNumS l.length _ K _ HP.out hKb).mono ?_; rintro e w' ⟨rfl, hk2⟩)
      have hK := HK.out
      exact ⟨⟨j + 1, hlt, by go_num, by congr 1; omega, HB.out.trans hk2⟩, by simp [intOf]; omega⟩
    · have hke : j = ps.length := by omega
      subst hke
      go_wp2
      go_ret
      exact ⟨ret_int (by rw [List.take_length]), hkp⟩

end Go.Proofs.Ytcbenpnnjkgkdaa
