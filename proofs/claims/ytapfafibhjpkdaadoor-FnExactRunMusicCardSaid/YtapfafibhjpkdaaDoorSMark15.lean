/-
  Marks written over a list of sections.
-/
import Derived.Test.YtapfafibhjpkdaaDoorSecs
import Derived.Test.YtapfafibhjpkdaaDoorText
namespace Go.Proofs.YtapfafibhjpkdaaDoor
open Go.ChangeShapes Go.WideShapes Go.ChangeAt Go.RowKit

set_option maxRecDepth 100000
set_option linter.unusedVariables false
theorem SectionO.cells {w : World} {lo hi g cap m : Nat} {ps : List SectionE} (h : SectionO w lo hi (.slice (some ⟨g, 0, none⟩) m cap) ps) {i : Nat} {p : SectionE} (hp : ps[i]? = some p) :
    (∀ j u, (sectionC p)[j]? = some u → w.cell? ⟨g, i * 4 + j, none⟩ = some u) ∧ ∀ o, w.frozen? ⟨g, o, none⟩ = false := own_get 4 sectionC sectionC_len (by omega) h.row hp
/-- A cell of an element is set: its list stays. -/
theorem SectionO.put {w : World} {lo hi g cap m : Nat} {ps : List SectionE} (h : SectionO w lo hi (.slice (some ⟨g, 0, none⟩) m cap) ps) (hn : m = ps.length) {i : Nat} {p : SectionE} (hp : ps[i]? = some p) (j : Nat) (hj : j < 4) (u : Value) (q : SectionE) (hu : (sectionC p).set j u = sectionC q) (hq : q.2.2.1 = p.2.2.1) :
    SectionO (w.setCell ⟨g, i * 4 + j, none⟩ u) lo hi (.slice (some ⟨g, 0, none⟩) m cap) (ps.set i q) := by
  subst hn
  have hap : ∀ (k : Nat) (z : SectionE), ps[k]? = some z → NumO (w.setCell ⟨g, i * 4 + j, none⟩ u) lo hi z.2.2.1.1 z.2.2.1.2 := fun k z hz =>
    RowO.apart (h.inn k z hz) (but_set w g ps.length cap (i * 4 + j) u) (ap_types h.row (h.inn k z hz) (by decide)).symm
  refine ⟨?_, fun k z hz => ?_, fun k n z z' hkn hz hz' => ?_⟩
  · have := RowO.set h.row (4 * i + j) u
    rw [List.length_set, Nat.mul_comm i 4]
    rw [flat_set 4 sectionC sectionC_len ps i j p q u hp hj hu] at this
    exact this
  · rcases get_set hz with ⟨_, rfl⟩ | ⟨_, hz⟩
    · rw [hq]; exact hap i p hp
    · exact hap k z hz
  · rcases get_set hz with ⟨h1, e1⟩ | ⟨h1, g1⟩
    · rcases get_set hz' with ⟨h2, e2⟩ | ⟨_, g2⟩
      · exact absurd (h1.trans h2.symm) hkn
      · rw [e1, hq]; exact h.apart i n p z' (fun e => hkn (h1.trans e)) hp g2
    · rcases get_set hz' with ⟨h2, e2⟩ | ⟨_, g2⟩
      · rw [e2, hq]; exact h.apart k i z p (fun e => hkn (e.trans h2.symm)) g1 hp
      · exact h.apart k n z z' hkn g1 g2
/-- The list of an element is written over. -/
theorem SectionO.inner {w w' : World} {lo hi : Nat} {v : Value} {ps : List SectionE} (h : SectionO w lo hi v ps) {i : Nat} {p : SectionE} (hp : ps[i]? = some p) {l' : List NumD} (k : But (blo p.2.2.1.1) (bhi p.2.2.1.1) w w') (hk : NumO w' lo hi p.2.2.1.1 l') : SectionO w' lo hi v (ps.set i (p.1, p.2.1, (p.2.2.1.1, l'), p.2.2.2)) := by
  have hil : i < ps.length := (List.getElem?_eq_some_iff.1 hp).1
  have hc : (ps.set i (p.1, p.2.1, (p.2.2.1.1, l'), p.2.2.2)).flatMap sectionC = ps.flatMap sectionC := by
    have e : ∀ ys : List SectionE, ys.flatMap sectionC = (ys.map fun y => sectionC y).flatten := fun ys => by rw [List.flatMap_def]
    rw [e, e]
    congr 1
    apply List.ext_getElem?
    intro n
    rw [List.getElem?_map, List.getElem?_map, List.getElem?_set]
    by_cases hn : i = n
    · subst hn
      rw [if_pos rfl, hp]
      simp [hil, sectionC]
    · rw [if_neg hn]
  refine ⟨?_, fun j z hz => ?_, fun j m z z' hjm hz hz' => ?_⟩
  · rw [List.length_set, hc]
    exact RowO.apart h.row k (ap_types h.row (h.inn i p hp) (by decide))
  · rcases get_set hz with ⟨_, rfl⟩ | ⟨hji, hz⟩
    · exact hk
    · exact RowO.apart (h.inn j z hz) k (h.apart j i z p hji hz hp)
  · rcases get_set hz with ⟨hj, rfl⟩ | ⟨hj, hz⟩
    · rcases get_set hz' with ⟨hm, rfl⟩ | ⟨_, hz'⟩
      · exact absurd (hj.trans hm.symm) hjm
      · exact h.apart i m p z' (fun e => hjm (hj.trans e)) hp hz'
    · rcases get_set hz' with ⟨hm, rfl⟩ | ⟨_, hz'⟩
      · exact h.apart j i z p (fun e => hjm (e.trans hm.symm)) hz hp
      · exact h.apart j m z z' hjm hz hz'
theorem set2 {α : Type} (l : List α) (i : Nat) (x y : α) : (l.set i x).set i y = l.set i y := by simp
theorem get_self {α : Type} {l : List α} {i : Nat} (x : α) (h : i < l.length) : (l.set i x)[i]? = some x := List.getElem?_set_self h

def sMk (ps : List SectionE) : Nat := (ps.map fun p => p.2.2.1.2.length + 3).sum
theorem sMk_snoc (l : List SectionE) (p : SectionE) : sMk (l ++ [p]) = sMk l + (p.2.2.1.2.length + 3) := by simp [sMk]
theorem sMk_take (l : List SectionE) (k : Nat) : sMk (l.take k) ≤ sMk l := by
  have h := congrArg sMk (List.take_append_drop k l)
  have h2 : ∀ a b : List SectionE, sMk (a ++ b) = sMk a + sMk b := fun a b => by simp [sMk]
  rw [h2] at h
  omega
theorem sMk_le {ts : List SectionE} {ds : List SectionD} (h : ts.map stripSection = ds) : sMk ts ≤ 3 * secsCost ds := by
  subst h
  unfold sMk secsCost
  induction ts with
  | nil => simp
  | cons t ts ih =>
    simp [secsOne, stripSection] at ih ⊢
    omega
set_option maxHeartbeats 4000000 in
theorem markSs (ps : List SectionE) (v : Value) (k lo hi : Nat) (w : World) (hv : SectionO w lo hi v ps) (hb : k + sMk ps ≤ 1000000000) (hn : ps.length ≤ 1000000000) :
    Calls Tryd.prog 13 #[v, .int .i64 (k : Int)] w fun e w' => e = .returned (.int .i64 ((k + sMk ps : Nat) : Int)) ∧ But lo hi w w' := by
  obtain ⟨ao, cap, hsl⟩ := hv.form
  subst hsl
  go_enter Tryd.func13, Tryd.ntmps13
  go_wp2
  go_loopw [1, 5] (fun kk i wr => ∃ (j : Nat) (ys : List SectionE), j ≤ ps.length ∧ i = .int .i64 j ∧ kk = .int .i64 ((k + sMk (ps.take j) : Nat) : Int) ∧ ys.length = ps.length ∧ (∀ (i : Nat) (y p : SectionE), ys[i]? = some y → ps[i]? = some p → y.2.2.1.2.length = p.2.2.1.2.length) ∧ SectionO wr lo hi (.slice ao ps.length cap) ys ∧ But lo hi w wr) (fun kk i _ => ps.length - (intOf i).toNat)
  case atStart => exact ⟨0, ps, by omega, rfl, by simp [sMk], rfl, fun i y p h1 h2 => by rw [h1] at h2; cases h2; rfl, hv, But.refl _ _ _⟩
  case round =>
    obtain ⟨j, ys, hj, rfl, rfl, hyl, hyp, ho, hkp⟩ := hrel
    by_cases hlt : j < ps.length
    · obtain ⟨y, hy⟩ : ∃ y, ys[j]? = some y := ⟨_, List.getElem?_eq_getElem (by omega)⟩
      obtain ⟨p, hp⟩ : ∃ y, ps[j]? = some y := ⟨_, List.getElem?_eq_getElem (by omega)⟩
      obtain ⟨b, o, cap1, e, _⟩ := section_get ho.at hy
      rw [hyl] at e
      cases e
      obtain ⟨g', cap', hfm, _⟩ : ∃ g cap', Value.slice (some ⟨b, o, none⟩) ps.length cap = .slice (some ⟨g, 0, none⟩) ps.length cap' ∧ True := by
        rcases ho.row.1.2 with ⟨hf, _⟩ | ⟨g, c2, cur, hf, _⟩
        · cases hf
        · rw [hyl] at hf; exact ⟨g, c2, hf, trivial⟩
      cases hfm
      have hln := hyp j y p hy hp
      have hsn := sMk_snoc (ps.take j) p
      rw [← take_snoc hp] at hsn
      have hst := sMk_take ps (j + 1)
      have hkb : k + sMk (ps.take j) + (y.2.2.1.2.length + 3) ≤ 1000000000 := by omega
      generalize hK : k + sMk (ps.take j) = K at *
      have HK : Hid (k + sMk (ps.take (j + 1)) = K + (y.2.2.1.2.length + 3)) := by show _ = _; omega
      have HYP : Hid (∀ (i : Nat) (y p : SectionE), ys[i]? = some y → ps[i]? = some p → y.2.2.1.2.length = p.2.2.1.2.length) := hyp
      have HL : Hid (y.2.2.1.2.length = p.2.2.1.2.length ∧ ps[j]? = some p) := ⟨hln, hp⟩
      obtain ⟨n0, bt, ⟨s, l⟩, nx⟩ := y
      dsimp only at hkb HK HL
      obtain ⟨a3, p3, hsl3⟩ := row_nil (ho.inn j _ hy).at
      dsimp only at hsl3
      subst hsl3
      obtain ⟨M, hM⟩ : ∃ M : Nat, K + 2 + l.length = M := ⟨_, rfl⟩
      have hjy : j < ys.length := by omega
      have HTL := hyl.symm
      have HB : Hid (But lo hi w wr) := hkp
      have hMb : M + 1 ≤ 1000000000 := by omega
      clear hsn hst hyp hln hkp hv hp hK hyl
      have d0 := (ho.cells hy).1 0 _ rfl
      repeat (first | go_values | go_skip | go_guarded | go_step | go_upon)
      go_at_call 28
      refine (markText K (by omega) _).mono ?_
      rintro e w2 ⟨rfl, k2⟩
      have O2 := ho.kept k2
      have x0 := (O2.cells hy).1 0 _ rfl
      simp only [Nat.add_zero] at x0
      have xf0 := (O2.cells hy).2 (j * 4)
      have X0 := O2.put HTL hy 0 (by omega) (.string (mtext K)) (mtext K, bt, (.slice a3 l.length p3, l), nx) rfl rfl
      simp only [Nat.add_zero] at X0
      have g1 : (ys.set j (mtext K, bt, (.slice a3 l.length p3, l), nx))[j]? = some (mtext K, bt, (.slice a3 l.length p3, l), nx) := get_self _ hjy
      have x1 := (X0.cells g1).1 1 _ rfl
      have xf1 := (X0.cells g1).2 (j * 4 + 1)
      have X1 := X0.put (by rw [List.length_set]; exact HTL) g1 1 (by omega) (.int .i64 ((K : Int) + 1)) (mtext K, (K : Int) + 1, (.slice a3 l.length p3, l), nx) rfl rfl
      rw [set2] at X1
      have g2 : (ys.set j (mtext K, (K : Int) + 1, (.slice a3 l.length p3, l), nx))[j]? = some (mtext K, (K : Int) + 1, (.slice a3 l.length p3, l), nx) := get_self _ hjy
      have x2 := (X1.cells g2).1 2 _ rfl
      have R := O2.row
      have HB2 : Hid (But lo hi w ((w2.setCell ⟨b, j * 4, none⟩ (.string (mtext K))).setCell ⟨b, j * 4 + 1, none⟩ (.int .i64 ((K : Int) + 1)))) := ((HB.out.transK k2).trans (But.inner (but_set _ _ _ _ _ _) R)).trans (But.inner (but_set _ _ _ _ _ _) R)
      have HX1 : Hid (SectionO ((w2.setCell ⟨b, j * 4, none⟩ (.string (mtext K))).setCell ⟨b, j * 4 + 1, none⟩ (.int .i64 ((K : Int) + 1))) lo hi (.slice (some ⟨b, 0, none⟩) ps.length cap) (ys.set j (mtext K, (K : Int) + 1, (.slice a3 l.length p3, l), nx))) := X1
      clear X0 X1 g1 k2 O2 R ho d0
      dsimp only
      repeat (first | go_values | go_skip | go_guarded | go_step | go_upon)
      go_at_call 29
      refine (markNumS l _ (K + 2) lo hi _ (HX1.out.inn j _ g2) (by omega)).mono ?_
      rintro e w4 ⟨rfl, o4, b4⟩
      rw [hM]
      have X2 := SectionO.inner HX1.out g2 b4 o4
      dsimp only at X2
      rw [set2] at X2
      have HB4 : Hid (But lo hi w w4) := HB2.out.trans (But.inner b4 o4)
      clear HX1 HB2 o4 b4 x0 x1 x2 xf0 xf1 g2
      dsimp only
      repeat (first | go_values | go_skip | go_guarded | go_step | go_upon)
      go_at_call 28
      refine (markText M (by omega) _).mono ?_
      rintro e w5 ⟨rfl, k5⟩
      have O5 := X2.kept k5
      have g3 : (ys.set j (mtext K, (K : Int) + 1, (.slice a3 l.length p3, mNum (K + 2) l.length), nx))[j]? = some (mtext K, (K : Int) + 1, (.slice a3 l.length p3, mNum (K + 2) l.length), nx) := get_self _ hjy
      have x3 := (O5.cells g3).1 3 _ rfl
      have xf3 := (O5.cells g3).2 (j * 4 + 3)
      have X3 := O5.put (by rw [List.length_set]; exact HTL) g3 3 (by omega) (.string (mtext M)) (mtext K, (K : Int) + 1, (.slice a3 l.length p3, mNum (K + 2) l.length), mtext M) rfl rfl
      rw [set2] at X3
      have R := O5.row
      have HB5 : Hid (But lo hi w (w5.setCell ⟨b, j * 4 + 3, none⟩ (.string (mtext M)))) := (HB4.out.transK k5).trans (But.inner (but_set _ _ _ _ _ _) R)
      have HX3 : Hid (SectionO (w5.setCell ⟨b, j * 4 + 3, none⟩ (.string (mtext M))) lo hi (.slice (some ⟨b, 0, none⟩) ps.length cap) (ys.set j (mtext K, (K : Int) + 1, (.slice a3 l.length p3, mNum (K + 2) l.length), mtext M))) := X3
      clear X2 X3 O5 R k5 HB4 g3
      dsimp only
      repeat (first | go_values | go_skip | go_guarded | go_step | go_upon)
      have hK := HK.out
      refine ⟨⟨j + 1, ys.set j (mtext K, (K : Int) + 1, (.slice a3 l.length p3, mNum (K + 2) l.length), mtext M), hlt, by go_num, by congr 1; omega, by rw [List.length_set]; exact HTL.symm, fun i z p hz hp => ?_, HX3.out, HB5.out⟩, by simp [intOf]; omega⟩
      rcases get_set hz with ⟨hij, e9⟩ | ⟨hij, hz⟩
      · subst hij
        rw [e9]
        rw [HL.out.2] at hp
        cases hp
        dsimp only
        rw [mNum_len]
        exact HL.out.1
      · exact HYP.out i z p hz hp
    · have hke : j = ps.length := by omega
      subst hke
      go_wp2
      go_ret
      exact ⟨ret_int (by rw [List.take_length]), hkp⟩

end Go.Proofs.YtapfafibhjpkdaaDoor
