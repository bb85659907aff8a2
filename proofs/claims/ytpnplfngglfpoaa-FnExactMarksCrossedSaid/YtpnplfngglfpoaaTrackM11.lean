/-
  Marks written over a list of tracks.
-/
import Derived.Test.YtpnplfngglfpoaaTrack
import Derived.Test.YtpnplfngglfpoaaTrackF
import Derived.Test.YtpnplfngglfpoaaMarks
namespace Go.Proofs.Ytpnplfngglfpoaa
open Go.ChangeShapes Go.WideShapes Go.ChangeAt Go.RowKit

set_option maxRecDepth 100000
set_option linter.unusedVariables false

theorem TrackO.setName {w : World} {lo hi g cap m : Nat} {ps : List TrackE} (h : TrackO w lo hi (.slice (some ⟨g, 0, none⟩) m cap) ps) (hn : m = ps.length) {i : Nat} {p : TrackE} (hp : ps[i]? = some p) (x : ByteArray) :
    TrackO (w.setCell ⟨g, i * 2, none⟩ (.string x)) lo hi (.slice (some ⟨g, 0, none⟩) m cap) (ps.set i (x, p.2)) := by
  subst hn
  have hap : ∀ (j : Nat) (z : TrackE), ps[j]? = some z → KeyO (w.setCell ⟨g, i * 2, none⟩ (.string x)) lo hi z.2.1 z.2.2 := fun j z hz =>
    RowO.apart (h.inn j z hz) (but_set w g ps.length cap (i * 2) (.string x)) (ap_types h.row (h.inn j z hz) (by decide)).symm
  refine ⟨?_, fun j z hz => ?_, fun j m z z' hjm hz hz' => ?_⟩
  · have := RowO.set h.row (2 * i + 0) (.string x)
    rw [List.length_set, Nat.mul_comm i 2]
    rw [flat_set 2 trackC trackC_len ps i 0 p (x, p.2) (.string x) hp (by omega) rfl] at this
    simpa using this
  · rcases get_set hz with ⟨_, rfl⟩ | ⟨_, hz⟩
    · exact hap i p hp
    · exact hap j z hz
  · rcases get_set hz with ⟨hj, rfl⟩ | ⟨hj, hz⟩
    · rcases get_set hz' with ⟨hm, rfl⟩ | ⟨_, hz'⟩
      · exact absurd (hj.trans hm.symm) hjm
      · exact h.apart i m p z' (fun e => hjm (hj.trans e)) hp hz'
    · rcases get_set hz' with ⟨hm, rfl⟩ | ⟨_, hz'⟩
      · exact h.apart j i z p (fun e => hjm (e.trans hm.symm)) hz hp
      · exact h.apart j m z z' hjm hz hz'
theorem TrackO.inner {w w' : World} {lo hi : Nat} {v : Value} {ps : List TrackE} (h : TrackO w lo hi v ps) {i : Nat} {p : TrackE} (hp : ps[i]? = some p) {l' : List KeyD} (k : But (blo p.2.1) (bhi p.2.1) w w') (hk : KeyO w' lo hi p.2.1 l') : TrackO w' lo hi v (ps.set i (p.1, p.2.1, l')) := by
  have hil : i < ps.length := (List.getElem?_eq_some_iff.1 hp).1
  have hc : (ps.set i (p.1, p.2.1, l')).flatMap trackC = ps.flatMap trackC := by
    have e : ∀ ys : List TrackE, ys.flatMap trackC = (ys.map fun y => (y.1, y.2.1)).flatMap (fun y => [Value.string y.1, y.2]) := fun ys => by induction ys with
      | nil => rfl
      | cons y ys ih => simp [trackC, ih]
    rw [e, e]
    congr 1
    apply List.ext_getElem?
    intro n
    rw [List.getElem?_map, List.getElem?_map, List.getElem?_set]
    by_cases hn : i = n
    · subst hn
      rw [if_pos rfl, hp]
      simp [hil]
    · rw [if_neg hn]
  refine ⟨?_, fun j z hz => ?_, fun j m z z' hjm hz hz' => ?_⟩
  · rw [List.length_set, hc]
    exact RowO.apart h.row k (ap_types h.row (h.inn i p hp) (by decide))
  · rcases get_set hz with ⟨_, rfl⟩ | ⟨hji, hz⟩
    · exact hk
    · exact RowO.apart (h.inn j z hz) k (h.apart j i z p hji hz hp)
  · rcases get_set hz with ⟨hj, rfl⟩ | ⟨hj, hz⟩
    · rcases get_set hz' with ⟨hm, rfl⟩ | ⟨_, hz'⟩
      · exact absurd (hj.trans hm.symm) hjm
      · exact h.apart i m p z' (fun e => hjm (hj.trans e)) hp hz'
    · rcases get_set hz' with ⟨hm, rfl⟩ | ⟨_, hz'⟩
      · exact h.apart j i z p (fun e => hjm (e.trans hm.symm)) hz hp
      · exact h.apart j m z z' hjm hz hz'
theorem TrackO.cells {w : World} {lo hi g cap m : Nat} {ps : List TrackE} (h : TrackO w lo hi (.slice (some ⟨g, 0, none⟩) m cap) ps) {i : Nat} {p : TrackE} (hp : ps[i]? = some p) :
    w.cell? ⟨g, i * 2, none⟩ = some (.string p.1) ∧ w.cell? ⟨g, i * 2 + 1, none⟩ = some p.2.1 ∧ ∀ o, w.frozen? ⟨g, o, none⟩ = false := by
  obtain ⟨hc, hf⟩ := own_get 2 trackC trackC_len (by omega) h.row hp
  exact ⟨hc 0 _ rfl, hc 1 _ rfl, hf⟩
/-- How many marks a list of tracks has. -/
def trkMk (ds : List TrackE) : Nat := (ds.map fun d => 1 + 2 * d.2.2.length).sum
theorem trkMk_snoc (l : List TrackE) (p : TrackE) : trkMk (l ++ [p]) = trkMk l + (1 + 2 * p.2.2.length) := by simp [trkMk]
theorem trkMk_take (l : List TrackE) (k : Nat) : trkMk (l.take k) ≤ trkMk l := by
  have h := congrArg trkMk (List.take_append_drop k l)
  have h2 : ∀ a b : List TrackE, trkMk (a ++ b) = trkMk a + trkMk b := fun a b => by simp [trkMk]
  rw [h2] at h
  omega
set_option maxHeartbeats 4000000 in
theorem markTrackS (ps : List TrackE) (v : Value) (k lo hi : Nat) (w : World) (hv : TrackO w lo hi v ps) (hb : k + trkMk ps ≤ 1000000000) (hn : ps.length ≤ 1000000000) :
    Calls Try.prog 71 #[v, .int .i64 (k : Int)] w fun e w' => e = .returned (.int .i64 ((k + trkMk ps : Nat) : Int)) ∧ But lo hi w w' := by
  obtain ⟨ao, cap, hsl⟩ := hv.form
  subst hsl
  go_enter Try.func71, Try.ntmps71
  go_wp2
  go_loopw [1, 5] (fun kk i wr => ∃ (j : Nat) (ys : List TrackE), j ≤ ps.length ∧ i = .int .i64 j ∧ kk = .int .i64 ((k + trkMk (ps.take j) : Nat) : Int) ∧ ys.length = ps.length ∧ (∀ (i : Nat) (y p : TrackE), ys[i]? = some y → ps[i]? = some p → y.2.2.length = p.2.2.length) ∧ TrackO wr lo hi (.slice ao ps.length cap) ys ∧ But lo hi w wr) (fun kk i _ => ps.length - (intOf i).toNat)
  case atStart => exact ⟨0, ps, by omega, rfl, by simp [trkMk], rfl, fun i y p h1 h2 => by rw [h1] at h2; cases h2; rfl, hv, But.refl _ _ _⟩
  case round =>
    obtain ⟨j, ys, hj, rfl, rfl, hyl, hyp, ho, hkp⟩ := hrel
    by_cases hlt : j < ps.length
    · obtain ⟨y, hy⟩ : ∃ y, ys[j]? = some y := ⟨_, List.getElem?_eq_getElem (by omega)⟩
      obtain ⟨p, hp⟩ : ∃ y, ps[j]? = some y := ⟨_, List.getElem?_eq_getElem (by omega)⟩
      obtain ⟨b, o, cap1, e, _⟩ := track_get ho.at hy
      rw [hyl] at e
      cases e
      obtain ⟨g', cap', hfm, _⟩ : ∃ g cap', Value.slice (some ⟨b, o, none⟩) ps.length cap = .slice (some ⟨g, 0, none⟩) ps.length cap' ∧ True := by
        rcases ho.row.1.2 with ⟨hf, _⟩ | ⟨g, c2, cur, hf, _⟩
        · cases hf
        · rw [hyl] at hf; exact ⟨g, c2, hf, trivial⟩
      cases hfm
      have hln := hyp j y p hy hp
      have hsn := trkMk_snoc (ps.take j) p
      rw [← take_snoc hp] at hsn
      have hst := trkMk_take ps (j + 1)
      have hkb : k + trkMk (ps.take j) + (1 + 2 * y.2.2.length) ≤ 1000000000 := by omega
      generalize hK : k + trkMk (ps.take j) = K at *
      have HK : Hid (k + trkMk (ps.take j) = K ∧ trkMk (ps.take (j + 1)) = trkMk (ps.take j) + (1 + 2 * p.2.2.length)) := ⟨hK, hsn⟩
      have HYP : Hid (∀ (i : Nat) (y p : TrackE), ys[i]? = some y → ps[i]? = some p → y.2.2.length = p.2.2.length) := hyp
      have HL : Hid (y.2.2.length = p.2.2.length ∧ ys[j]? = some y ∧ ps[j]? = some p) := ⟨hln, hy, hp⟩
      obtain ⟨nm, s, l⟩ := y
      dsimp only at hkb
      obtain ⟨a3, p3, hsl3⟩ := row_nil (ho.inn j _ hy).at
      dsimp only at hsl3
      subst hsl3
      have HO : Hid (TrackO wr lo hi (.slice (some ⟨b, 0, none⟩) ps.length cap) ys) := ho
      have HB : Hid (But lo hi w wr) := hkp
      have MT : Hid (∀ W, Calls Try.prog 77 #[.int .i64 (K : Int)] W fun e w' => e = .returned (.string (mtext K)) ∧ Kept W w') := fun W => markText K (by omega) W
      have HKB : Hid (K + 1 + 2 * l.length ≤ 1000000000000) := by
        show K + 1 + 2 * l.length ≤ 1000000000000
        omega
      clear hK hsn hst hyp hln ho hkp hv hy hp
      repeat (first
        | (go_at_call 77; refine (MT.out _).mono ?_
           rintro e w2 ⟨rfl, k2⟩
           have O2 := HO.out.kept k2
           obtain ⟨e0, e1, ez⟩ := O2.cells HL.out.2.1
           have ez0 := ez (j * 2)
           have HO2 : Hid (TrackO w2 lo hi (.slice (some ⟨b, 0, none⟩) ps.length cap) ys) := O2
           have HB2 : Hid (But lo hi w w2) := HB.out.transK k2
           have HO3 : Hid (TrackO (w2.setCell ⟨b, j * 2, none⟩ (.string (mtext K))) lo hi (.slice (some ⟨b, 0, none⟩) ps.length cap) (ys.set j (mtext K, .slice a3 l.length p3, l))) := O2.setName hyl.symm HL.out.2.1 (mtext K)
           clear ez k2 O2
           dsimp only)
        | (go_at_call 29
           refine (markKeyS l _ (K + 1) lo hi _ (HO3.out.inn j (mtext K, .slice a3 l.length p3, l) (List.getElem?_set_self (by omega))) HKB.out).mono ?_
           rintro e w4 ⟨rfl, o4, b4⟩
           dsimp only)
        | go_values | go_skip | go_guarded | go_step | go_upon)
      have hK := HK.out
      have hL := HL.out.1
      have hy3 : (ys.set j (mtext K, Value.slice a3 l.length p3, l))[j]? = some (mtext K, Value.slice a3 l.length p3, l) := List.getElem?_set_self (by omega)
      refine ⟨⟨j + 1, (ys.set j (mtext K, .slice a3 l.length p3, l)).set j (mtext K, .slice a3 l.length p3, mKeys (K + 1) l.length), hlt, by go_num, by congr 1; dsimp only at hL; omega, by simp [hyl], fun i z p hz hp => ?_, ?_, ?_⟩, by simp [intOf]; omega⟩
      · rcases get_set hz with ⟨hij, rfl⟩ | ⟨hij, hz⟩
        · subst hij
          rw [HL.out.2.2] at hp
          cases hp
          dsimp only
          rw [mKeys_len]
          exact hL
        · rcases get_set hz with ⟨hij', _⟩ | ⟨_, hz⟩
          · exact absurd hij' hij
          · exact HYP.out i z p hz hp
      · exact TrackO.inner HO3.out hy3 b4 o4
      · exact (HB2.out.trans (But.inner (but_set _ _ _ _ _ _) HO2.out.row)).trans (But.inner b4 o4)
    · have hke : j = ps.length := by omega
      subst hke
      go_wp2
      go_ret
      exact ⟨ret_int (by rw [List.take_length]), hkp⟩

end Go.Proofs.Ytpnplfngglfpoaa
