/-
  Marks over assets.
-/
import Derived.Test.YtmoaihhllfkmiaaEnd21
import Derived.Test.YtmoaihhllfkmiaaTxtM
import Derived.Test.YtmoaihhllfkmiaaBytM
namespace Go.Proofs.Ytmoaihhllfkmiaa
open Go.ChangeShapes Go.WideShapes Go.ChangeAt Go.RowKit

set_option maxRecDepth 100000
set_option linter.unusedVariables false
set_option linter.unusedSimpArgs false

theorem get_self {α : Type} {l : List α} {i : Nat} (x : α) (h : i < l.length) : (l.set i x)[i]? = some x := List.getElem?_set_self h
theorem set2 {α : Type} (l : List α) (i : Nat) (x y : α) : (l.set i x).set i y = l.set i y := List.set_set ..
theorem AssetO.cells {w : World} {lo hi g cap m : Nat} {ps : List AssetE} (h : AssetO w lo hi (.slice (some ⟨g, 0, none⟩) m cap) ps) {i : Nat} {p : AssetE} (hp : ps[i]? = some p) :
    (∀ j u, (assetC p)[j]? = some u → w.cell? ⟨g, i * 3 + j, none⟩ = some u) ∧ ∀ o, w.frozen? ⟨g, o, none⟩ = false := own_get 3 assetC assetC_len (by omega) h.row hp
theorem AssetO.put {w : World} {lo hi g cap m : Nat} {ps : List AssetE} (h : AssetO w lo hi (.slice (some ⟨g, 0, none⟩) m cap) ps) (hn : m = ps.length) {i : Nat} {p : AssetE} (hp : ps[i]? = some p) (s : ByteArray) :
    AssetO (w.setCell ⟨g, i * 3 + 0, none⟩ (.string s)) lo hi (.slice (some ⟨g, 0, none⟩) m cap) (ps.set i (s, p.2)) := by
  subst hn
  have hT : ∀ (k : Nat) (z : AssetE), ps[k]? = some z → TxtO (w.setCell ⟨g, i * 3 + 0, none⟩ (.string s)) lo hi z.2.1.1 z.2.1.2 := fun k z hz =>
    RowO.apart (h.innT k z hz) (but_set w g ps.length cap (i * 3 + 0) (.string s)) (ap_types h.row (h.innT k z hz) (by decide)).symm
  have hB : ∀ (k : Nat) (z : AssetE), ps[k]? = some z → BytO (w.setCell ⟨g, i * 3 + 0, none⟩ (.string s)) lo hi z.2.2.1 z.2.2.2 := fun k z hz =>
    RowO.apart (h.innB k z hz) (but_set w g ps.length cap (i * 3 + 0) (.string s)) (ap_types h.row (h.innB k z hz) (by decide)).symm
  refine ⟨?_, fun k z hz => ?_, fun k z hz => ?_, fun k n z z' hkn hz hz' => ?_, fun k n z z' hkn hz hz' => ?_⟩
  · have := RowO.set h.row (3 * i + 0) (.string s)
    rw [List.length_set, Nat.mul_comm i 3]
    rw [flat_set 3 assetC assetC_len ps i 0 p (s, p.2) (.string s) hp (by omega) rfl] at this
    exact this
  · rcases get_set hz with ⟨_, rfl⟩ | ⟨_, hz⟩
    · exact hT i p hp
    · exact hT k z hz
  · rcases get_set hz with ⟨_, rfl⟩ | ⟨_, hz⟩
    · exact hB i p hp
    · exact hB k z hz
  · rcases get_set hz with ⟨hj, rfl⟩ | ⟨hj, hz⟩
    · rcases get_set hz' with ⟨hm, rfl⟩ | ⟨_, hz'⟩
      · exact absurd (hj.trans hm.symm) hkn
      · exact h.apT i n p z' (fun e => hkn (hj.trans e)) hp hz'
    · rcases get_set hz' with ⟨hm, rfl⟩ | ⟨_, hz'⟩
      · exact h.apT k i z p (fun e => hkn (e.trans hm.symm)) hz hp
      · exact h.apT k n z z' hkn hz hz'
  · rcases get_set hz with ⟨hj, rfl⟩ | ⟨hj, hz⟩
    · rcases get_set hz' with ⟨hm, rfl⟩ | ⟨_, hz'⟩
      · exact absurd (hj.trans hm.symm) hkn
      · exact h.apB i n p z' (fun e => hkn (hj.trans e)) hp hz'
    · rcases get_set hz' with ⟨hm, rfl⟩ | ⟨_, hz'⟩
      · exact h.apB k i z p (fun e => hkn (e.trans hm.symm)) hz hp
      · exact h.apB k n z z' hkn hz hz'

theorem AssetO.innerT {w w' : World} {lo hi : Nat} {v : Value} {ps : List AssetE} (h : AssetO w lo hi v ps) {i : Nat} {p : AssetE} (hp : ps[i]? = some p) {l' : List TxtD} (k : But (blo p.2.1.1) (bhi p.2.1.1) w w') (hk : TxtO w' lo hi p.2.1.1 l') : AssetO w' lo hi v (ps.set i (p.1, (p.2.1.1, l'), p.2.2)) := by
  have hil : i < ps.length := (List.getElem?_eq_some_iff.1 hp).1
  have hc : (ps.set i (p.1, (p.2.1.1, l'), p.2.2)).flatMap assetC = ps.flatMap assetC := by
    have e : ∀ ys : List AssetE, ys.flatMap assetC = (ys.map fun y => assetC y).flatten := fun ys => by rw [List.flatMap_def]
    rw [e, e]
    congr 1
    apply List.ext_getElem?
    intro n
    rw [List.getElem?_map, List.getElem?_map, List.getElem?_set]
    by_cases hn : i = n
    · subst hn
      rw [if_pos rfl, hp]
      simp [hil, assetC]
    · rw [if_neg hn]
  refine ⟨?_, fun j z hz => ?_, fun j z hz => ?_, fun j m z z' hjm hz hz' => ?_, fun j m z z' hjm hz hz' => ?_⟩
  · rw [List.length_set, hc]
    exact RowO.apart h.row k (ap_types h.row (h.innT i p hp) (by decide))
  · rcases get_set hz with ⟨_, rfl⟩ | ⟨hji, hz⟩
    · exact hk
    · exact RowO.apart (h.innT j z hz) k (h.apT j i z p hji hz hp)
  · rcases get_set hz with ⟨_, rfl⟩ | ⟨hji, hz⟩
    · exact RowO.apart (h.innB i p hp) k (ap_types (h.innB i p hp) (h.innT i p hp) (by decide))
    · exact RowO.apart (h.innB j z hz) k (ap_types (h.innB j z hz) (h.innT i p hp) (by decide))
  · rcases get_set hz with ⟨hj, rfl⟩ | ⟨hj, hz⟩
    · rcases get_set hz' with ⟨hm, rfl⟩ | ⟨_, hz'⟩
      · exact absurd (hj.trans hm.symm) hjm
      · exact h.apT i m p z' (fun e => hjm (hj.trans e)) hp hz'
    · rcases get_set hz' with ⟨hm, rfl⟩ | ⟨_, hz'⟩
      · exact h.apT j i z p (fun e => hjm (e.trans hm.symm)) hz hp
      · exact h.apT j m z z' hjm hz hz'
  · rcases get_set hz with ⟨hj, rfl⟩ | ⟨hj, hz⟩
    · rcases get_set hz' with ⟨hm, rfl⟩ | ⟨_, hz'⟩
      · exact absurd (hj.trans hm.symm) hjm
      · exact h.apB i m p z' (fun e => hjm (hj.trans e)) hp hz'
    · rcases get_set hz' with ⟨hm, rfl⟩ | ⟨_, hz'⟩
      · exact h.apB j i z p (fun e => hjm (e.trans hm.symm)) hz hp
      · exact h.apB j m z z' hjm hz hz'

theorem AssetO.innerB {w w' : World} {lo hi : Nat} {v : Value} {ps : List AssetE} (h : AssetO w lo hi v ps) {i : Nat} {p : AssetE} (hp : ps[i]? = some p) {l' : List BytD} (k : But (blo p.2.2.1) (bhi p.2.2.1) w w') (hk : BytO w' lo hi p.2.2.1 l') : AssetO w' lo hi v (ps.set i (p.1, p.2.1, (p.2.2.1, l'))) := by
  have hil : i < ps.length := (List.getElem?_eq_some_iff.1 hp).1
  have hc : (ps.set i (p.1, p.2.1, (p.2.2.1, l'))).flatMap assetC = ps.flatMap assetC := by
    have e : ∀ ys : List AssetE, ys.flatMap assetC = (ys.map fun y => assetC y).flatten := fun ys => by rw [List.flatMap_def]
    rw [e, e]
    congr 1
    apply List.ext_getElem?
    intro n
    rw [List.getElem?_map, List.getElem?_map, List.getElem?_set]
    by_cases hn : i = n
    · subst hn
      rw [if_pos rfl, hp]
      simp [hil, assetC]
    · rw [if_neg hn]
  refine ⟨?_, fun j z hz => ?_, fun j z hz => ?_, fun j m z z' hjm hz hz' => ?_, fun j m z z' hjm hz hz' => ?_⟩
  · rw [List.length_set, hc]
    exact RowO.apart h.row k (ap_types h.row (h.innB i p hp) (by decide))
  · rcases get_set hz with ⟨_, rfl⟩ | ⟨hji, hz⟩
    · exact RowO.apart (h.innT i p hp) k (ap_types (h.innT i p hp) (h.innB i p hp) (by decide))
    · exact RowO.apart (h.innT j z hz) k (ap_types (h.innT j z hz) (h.innB i p hp) (by decide))
  · rcases get_set hz with ⟨_, rfl⟩ | ⟨hji, hz⟩
    · exact hk
    · exact RowO.apart (h.innB j z hz) k (h.apB j i z p hji hz hp)
  · rcases get_set hz with ⟨hj, rfl⟩ | ⟨hj, hz⟩
    · rcases get_set hz' with ⟨hm, rfl⟩ | ⟨_, hz'⟩
      · exact absurd (hj.trans hm.symm) hjm
      · exact h.apT i m p z' (fun e => hjm (hj.trans e)) hp hz'
    · rcases get_set hz' with ⟨hm, rfl⟩ | ⟨_, hz'⟩
      · exact h.apT j i z p (fun e => hjm (e.trans hm.symm)) hz hp
      · exact h.apT j m z z' hjm hz hz'
  · rcases get_set hz with ⟨hj, rfl⟩ | ⟨hj, hz⟩
    · rcases get_set hz' with ⟨hm, rfl⟩ | ⟨_, hz'⟩
      · exact absurd (hj.trans hm.symm) hjm
      · exact h.apB i m p z' (fun e => hjm (hj.trans e)) hp hz'
    · rcases get_set hz' with ⟨hm, rfl⟩ | ⟨_, hz'⟩
      · exact h.apB j i z p (fun e => hjm (e.trans hm.symm)) hz hp
      · exact h.apB j m z z' hjm hz hz'

def aMk (ps : List AssetE) : Nat := (ps.map fun p => 1 + p.2.1.2.length + p.2.2.2.length).sum
theorem aMk_snoc (l : List AssetE) (p : AssetE) : aMk (l ++ [p]) = aMk l + (1 + p.2.1.2.length + p.2.2.2.length) := by simp [aMk]
theorem aMk_take (l : List AssetE) (k : Nat) : aMk (l.take k) ≤ aMk l := by
  have h := congrArg aMk (List.take_append_drop k l)
  have h2 : ∀ a b : List AssetE, aMk (a ++ b) = aMk a + aMk b := fun a b => by simp [aMk]
  rw [h2] at h
  omega
def dMk (ds : List AssetD) : Nat := (ds.map fun d => 1 + d.2.1.length + d.2.2.length).sum
theorem aMk_strip (ts : List AssetE) : aMk ts = dMk (ts.map stripA) := by unfold aMk dMk; rw [List.map_map]; rfl

set_option maxHeartbeats 8000000 in
theorem markAs (ps : List AssetE) (v : Value) (k lo hi : Nat) (w : World) (hv : AssetO w lo hi v ps) (hb : k + aMk ps ≤ 1000000000) (hn : ps.length ≤ 1000000000) :
    Calls Try.prog 22 #[v, .int .i64 (k : Int)] w fun e w' => e = .returned (.int .i64 ((k + aMk ps : Nat) : Int)) ∧ But lo hi w w' := by
  obtain ⟨ao, cap, hsl⟩ := hv.form
  subst hsl
  go_enter Try.func22, Try.ntmps22
  go_wp2
  go_loopw [1, 5] (fun kk i wr => ∃ (j : Nat) (ys : List AssetE), j ≤ ps.length ∧ i = .int .i64 j ∧ kk = .int .i64 ((k + aMk (ps.take j) : Nat) : Int) ∧ ys.length = ps.length ∧ (∀ n, j ≤ n → ys[n]? = ps[n]?) ∧ AssetO wr lo hi (.slice ao ps.length cap) ys ∧ But lo hi w wr) (fun kk i _ => ps.length - (intOf i).toNat)
  case atStart => exact ⟨0, ps, by omega, rfl, by simp [aMk], rfl, fun n _ => rfl, hv, But.refl _ _ _⟩
  case round =>
    obtain ⟨j, ys, hj, rfl, rfl, hyl, hsame, ho, hkp⟩ := hrel
    by_cases hlt : j < ps.length
    · obtain ⟨p, hp⟩ : ∃ y, ps[j]? = some y := ⟨_, List.getElem?_eq_getElem (by omega)⟩
      have hy : ys[j]? = some p := (hsame j (Nat.le_refl _)).trans hp
      have hsn := aMk_snoc (ps.take j) p
      rw [← take_snoc hp] at hsn
      have hst := aMk_take ps (j + 1)
      have hkb : k + aMk (ps.take j) + (1 + p.2.1.2.length + p.2.2.2.length) ≤ 1000000000 := by omega
      have HKK : Hid (k + aMk (ps.take (j + 1)) = k + aMk (ps.take j) + (1 + p.2.1.2.length + p.2.2.2.length)) := by show _ = _; omega
      generalize hK : k + aMk (ps.take j) = K at *
      have HS : Hid (∀ q : AssetE, ∀ n, j + 1 ≤ n → (ys.set j q)[n]? = ps[n]?) := fun q n hn' => by rw [List.getElem?_set_ne (by omega)]; exact hsame n (by omega)
      have HYL : Hid (ys.length = ps.length) := hyl
      obtain ⟨b, o, cap1, e, _⟩ := asset_get ho.at hy
      rw [hyl] at e
      cases e
      obtain ⟨g', cap', hfm, _⟩ : ∃ g cap', Value.slice (some ⟨b, o, none⟩) ps.length cap = .slice (some ⟨g, 0, none⟩) ps.length cap' ∧ True := by
        rcases ho.row.1.2 with ⟨hf, _⟩ | ⟨g, c2, cur, hf, _⟩
        · cases hf
        · rw [hyl] at hf; exact ⟨g, c2, hf, trivial⟩
      cases hfm
      obtain ⟨d0, ⟨d1, t1⟩, ⟨d2, t2⟩⟩ := p
      dsimp only at hkb HKK
      obtain ⟨a1, p1, hs1⟩ := (ho.innT j _ hy).form
      dsimp only at hs1
      subst hs1
      obtain ⟨a2, p2, hs2⟩ := row_nil (ho.innB j _ hy).at
      dsimp only at hs2
      subst hs2
      have hjy : j < ys.length := by omega
      have HP : Hid (AssetO wr lo hi (.slice (some ⟨b, 0, none⟩) ps.length cap) ys) := ho
      have HY : Hid (ys[j]? = some (d0, (.slice a1 t1.length p1, t1), (.slice a2 t2.length p2, t2))) := hy
      have HB : Hid (But lo hi w wr) := hkp
      have MT : Hid (∀ W, Calls Try.prog 59 #[.int .i64 (K : Int)] W fun e w' => e = .returned (.string (mtext K)) ∧ Kept W w') := fun W => markText K (by omega) W
      have HM1 : Hid (((K : Int) + 1) = ((K + 1 : Nat) : Int)) := by show _ = _; omega
      have HKB : Hid (K + 1 + t1.length + t2.length ≤ 1000000000) := by show _ ≤ _; omega
      clear hsn hst hsame hkp hv hy hK ho hyl
      repeat (first
        | (go_at_call 59; refine (MT.out _).mono ?_
           rintro e w2 ⟨rfl, k2⟩
           have O2 := HP.out.kept k2
           obtain ⟨dc, dz⟩ := O2.cells HY.out
           have d0' := dc 0 _ rfl
           have dz0 := dz (j * 3)
           have X1 := O2.put (by rw [HYL.out]) HY.out (mtext K)
           have g1 : (ys.set j (mtext K, (.slice a1 t1.length p1, t1), (.slice a2 t2.length p2, t2)))[j]? = some (mtext K, (.slice a1 t1.length p1, t1), (.slice a2 t2.length p2, t2)) := get_self _ hjy
           have y1 := (X1.cells g1).1 1 _ rfl
           have y2 := (X1.cells g1).1 2 _ rfl
           simp only [Nat.add_zero] at d0' X1 y1 y2
           have HX1 : Hid (AssetO (w2.setCell ⟨b, j * 3, none⟩ (.string (mtext K))) lo hi (.slice (some ⟨b, 0, none⟩) ps.length cap) (ys.set j (mtext K, (.slice a1 t1.length p1, t1), (.slice a2 t2.length p2, t2)))) := X1
           have HG1 : Hid ((ys.set j (mtext K, (.slice a1 t1.length p1, t1), (.slice a2 t2.length p2, t2)))[j]? = some (mtext K, (.slice a1 t1.length p1, t1), (.slice a2 t2.length p2, t2))) := g1
           have HB1 : Hid (But lo hi w (w2.setCell ⟨b, j * 3, none⟩ (.string (mtext K)))) := (HB.out.transK k2).trans (But.inner (but_set _ _ _ _ _ _) O2.row)
           clear dc dz O2 k2 X1 g1
           dsimp only)
        | (go_at_call 23
           rw [HM1.out]
           refine (markTxtS t1 _ (K + 1) lo hi _ (HX1.out.innT j _ HG1.out) (by have := HKB.out; omega)).mono ?_
           rintro e w4 ⟨rfl, o4, b4⟩
           have HB4 : Hid (But lo hi w w4) := HB1.out.trans (But.inner b4 (HX1.out.innT j _ HG1.out))
           have X2 := AssetO.innerT HX1.out HG1.out b4 o4
           rw [set2] at X2
           have HX2 : Hid (AssetO w4 lo hi (.slice (some ⟨b, 0, none⟩) ps.length cap) (ys.set j (mtext K, (.slice a1 t1.length p1, mTxt (K + 1) t1.length), (.slice a2 t2.length p2, t2)))) := X2
           have g2 : (ys.set j (mtext K, (.slice a1 t1.length p1, mTxt (K + 1) t1.length), (.slice a2 t2.length p2, t2)))[j]? = some (mtext K, (.slice a1 t1.length p1, mTxt (K + 1) t1.length), (.slice a2 t2.length p2, t2)) := get_self _ hjy
           have z2 := (X2.cells g2).1 2 _ rfl
           have HG2 : Hid ((ys.set j (mtext K, (.slice a1 t1.length p1, mTxt (K + 1) t1.length), (.slice a2 t2.length p2, t2)))[j]? = some (mtext K, (.slice a1 t1.length p1, mTxt (K + 1) t1.length), (.slice a2 t2.length p2, t2))) := g2
           clear X2 b4 o4 g2 y1 y2 d0' dz0
           dsimp only)
        | (go_at_call 60
           refine (markBytS t2 _ (K + 1 + t1.length) lo hi _ (HX2.out.innB j _ HG2.out) (by have := HKB.out; omega)).mono ?_
           rintro e w6 ⟨rfl, o6, b6⟩
           have HB6 : Hid (But lo hi w w6) := HB4.out.trans (But.inner b6 (HX2.out.innB j _ HG2.out))
           have X3 := AssetO.innerB HX2.out HG2.out b6 o6
           rw [set2] at X3
           have HX3 : Hid (AssetO w6 lo hi (.slice (some ⟨b, 0, none⟩) ps.length cap) (ys.set j (mtext K, (.slice a1 t1.length p1, mTxt (K + 1) t1.length), (.slice a2 t2.length p2, mByt (K + 1 + t1.length) t2.length)))) := X3
           clear X3 b6 o6
           dsimp only)
        | go_values | go_skip | go_guarded | go_step | go_upon)
      have hKK := HKK.out
      exact ⟨⟨j + 1, ys.set j (mtext K, (.slice a1 t1.length p1, mTxt (K + 1) t1.length), (.slice a2 t2.length p2, mByt (K + 1 + t1.length) t2.length)), hlt, by go_num, by congr 1; omega, by rw [List.length_set]; exact HYL.out, HS.out _, HX3.out, HB6.out⟩, by simp [intOf]; omega⟩
    · have hke : j = ps.length := by omega
      subst hke
      go_wp2
      go_ret
      rw [List.take_length]
      exact ⟨rfl, hkp⟩
theorem markAssets (ds : List AssetD) (v : Value) (k lo hi : Nat) (w : World) (hv : AssetsO w lo hi v ds) (hb : k + dMk ds ≤ 300000000) :
    Calls Try.prog 22 #[v, .int .i64 (k : Int)] w fun e w' => e = .returned (.int .i64 ((k + dMk ds : Nat) : Int)) ∧ True ∧ But lo hi w w' := by
  obtain ⟨ts, h, e⟩ := hv
  have hm := aMk_strip ts
  rw [e] at hm
  have hl : ts.length ≤ aMk ts := by
    clear h hm e
    induction ts with
    | nil => simp
    | cons a t ih => unfold aMk at ih ⊢; simp only [List.map_cons, List.sum_cons, List.length_cons]; omega
  have := markAs ts v k lo hi w h (by omega) (by omega)
  rw [hm] at this
  exact this.mono fun e' w' ⟨h1, h3⟩ => ⟨h1, trivial, h3⟩

end Go.Proofs.Ytmoaihhllfkmiaa
