/-
  Marks written over a list of entries.
-/
import Derived.Test.YtgbgnmjgnfocmaaEMkP19
import Derived.Test.YtgbgnmjgnfocmaaQuiet
namespace Go.Proofs.Ytgbgnmjgnfocmaa
open Go.ChangeShapes Go.WideShapes Go.ChangeAt Go.RowKit

set_option maxRecDepth 100000
set_option linter.unusedVariables false

set_option maxHeartbeats 4000000 in
theorem markEs (ps : List EntryE) (v : Value) (k lo hi : Nat) (w : World) (hv : EntryO w lo hi v ps) (hb : k + eMk ps ≤ 1000000000) (hn : ps.length ≤ 1000000000) :
    Calls Try.prog 10 #[v, .int .i64 (k : Int)] w fun e w' => e = .returned (.int .i64 ((k + eMk ps : Nat) : Int)) ∧ But lo hi w w' := by
  obtain ⟨ao, cap, hsl⟩ := hv.form
  subst hsl
  go_enter Try.func10, Try.ntmps10
  go_wp2
  go_loopw [1, 5] (fun kk i wr => ∃ (j : Nat) (ys : List EntryE), j ≤ ps.length ∧ i = .int .i64 j ∧ kk = .int .i64 ((k + eMk (ps.take j) : Nat) : Int) ∧ Hid (Like ys ps) ∧ EntryO wr lo hi (.slice ao ps.length cap) ys ∧ But lo hi w wr) (fun kk i _ => ps.length - (intOf i).toNat)
  case atStart => exact ⟨0, ps, by omega, rfl, by simp [eMk], ⟨rfl, fun i y p h1 h2 => by rw [h1] at h2; cases h2; rfl⟩, hv, But.refl _ _ _⟩
  case round =>
    obtain ⟨j, ys, hj, rfl, rfl, HLK, ho, hkp⟩ := hrel
    by_cases hlt : j < ps.length
    · obtain ⟨p, hp⟩ : ∃ y, ps[j]? = some y := ⟨_, List.getElem?_eq_getElem (by omega)⟩
      have hyl : ys.length = ps.length := HLK.out.1
      obtain ⟨y, hy⟩ : ∃ y, ys[j]? = some y := ⟨_, List.getElem?_eq_getElem (by omega)⟩
      have hsn := eMk_snoc (ps.take j) p
      rw [← take_snoc hp, ← HLK.out.2 j y p hy hp] at hsn
      have hst := eMk_take ps (j + 1)
      have hkb : k + eMk (ps.take j) + (y.2.1.2.length + 2) ≤ 1000000000 := by omega
      have HKK : Hid (k + eMk (ps.take (j + 1)) = k + eMk (ps.take j) + (y.2.1.2.length + 2)) := by show _ = _; omega
      generalize hK : k + eMk (ps.take j) = K at *
      obtain ⟨b, o, cap1, e, _⟩ := entry_get ho.at hy
      rw [hyl] at e
      cases e
      obtain ⟨g', cap', hfm, _⟩ : ∃ g cap', Value.slice (some ⟨b, o, none⟩) ps.length cap = .slice (some ⟨g, 0, none⟩) ps.length cap' ∧ True := by
        rcases ho.row.1.2 with ⟨hf, _⟩ | ⟨g, c2, cur, hf, _⟩
        · cases hf
        · rw [hyl] at hf; exact ⟨g, c2, hf, trivial⟩
      cases hfm
      obtain ⟨y0, ⟨s, l⟩, y2⟩ := y
      dsimp only at hkb HKK
      obtain ⟨a3, p3, hsl3⟩ := row_nil (ho.inn j _ hy).at
      dsimp only at hsl3
      subst hsl3
      have hjy : j < ys.length := by omega
      have HTL : Hid (ps.length = ys.length) := hyl.symm
      have HO : Hid (EntryO wr lo hi (.slice (some ⟨b, 0, none⟩) ps.length cap) ys) := ho
      have HB : Hid (But lo hi w wr) := hkp
      have HY : Hid (ys[j]? = some (y0, (.slice a3 l.length p3, l), y2)) := hy
      have HMT : Hid (∀ W, Calls Try.prog 20 #[.int .i64 (K : Int)] W fun e w' => e = .returned (.string (mtext K)) ∧ Kept W w') := fun W => markText K (by omega) W
      obtain ⟨M, hM⟩ : ∃ M : Nat, K + 1 + l.length = M := ⟨_, rfl⟩
      have HM : Hid (K + 1 + l.length = M) := hM
      have hMb : M ≤ 1000000000 := by omega
      have HKB : Hid (K + 1 + l.length ≤ 1000000000000) := by show _ ≤ _; omega
      clear hM hsn hst hyl hkp hv hy hK ho hp
      repeat (first
        | (go_at_call 20
           refine (HMT.out _).mono ?_
           rintro e w2 ⟨rfl, k2⟩
           have O2 := HO.out.kept k2
           obtain ⟨e0, ez⟩ := O2.cells HY.out
           have e1 : w2.cell? ⟨b, j * 3, none⟩ = some (.string y0) := e0 0 _ rfl
           have ez0 := ez (j * 3)
           have X1 := O2.put0 HTL.out HY.out (mtext K)
           have g1 : (ys.set j (mtext K, (.slice a3 l.length p3, l), y2))[j]? = some (mtext K, (.slice a3 l.length p3, l), y2) := get_self _ hjy
           have e3 := (X1.cells g1).1 1 _ rfl
           have HX1 : Hid (EntryO (w2.setCell ⟨b, j * 3, none⟩ (.string (mtext K))) lo hi (.slice (some ⟨b, 0, none⟩) ps.length cap) (ys.set j (mtext K, (.slice a3 l.length p3, l), y2))) := X1
           have HG1 : Hid ((ys.set j (mtext K, (.slice a3 l.length p3, l), y2))[j]? = some (mtext K, (.slice a3 l.length p3, l), y2)) := g1
           have HB2 : Hid (But lo hi w (w2.setCell ⟨b, j * 3, none⟩ (.string (mtext K)))) := (HB.out.transK k2).trans (But.inner (but_set w2 b ps.length cap (j * 3) (.string (mtext K))) O2.row)
           clear O2 e0 ez X1 g1 k2
           dsimp only)
        | (go_at_call 11
           refine (markTxtS l _ (K + 1) lo hi _ (HX1.out.inn j _ HG1.out) HKB.out).mono ?_
           rintro e w4 ⟨rfl, o4, b4⟩
           rw [HM.out]
           have X4 := EntryO.inner HX1.out HG1.out b4 o4
           dsimp only at X4
           rw [List.set_set] at X4
           have g4 : (ys.set j (mtext K, (.slice a3 l.length p3, mTxt (K + 1) l.length), y2))[j]? = some (mtext K, (.slice a3 l.length p3, mTxt (K + 1) l.length), y2) := get_self _ hjy
           obtain ⟨e4, ez4⟩ := X4.cells g4
           have e5 := e4 2 _ rfl
           have ez5 := ez4 (j * 3 + 2)
           have HX4 : Hid (EntryO w4 lo hi (.slice (some ⟨b, 0, none⟩) ps.length cap) (ys.set j (mtext K, (.slice a3 l.length p3, mTxt (K + 1) l.length), y2))) := X4
           have HG4 : Hid ((ys.set j (mtext K, (.slice a3 l.length p3, mTxt (K + 1) l.length), y2))[j]? = some (mtext K, (.slice a3 l.length p3, mTxt (K + 1) l.length), y2)) := g4
           have HB4 : Hid (But lo hi w w4) := HB2.out.trans (But.inner b4 o4)
           clear X4 b4 o4 e4 ez4 g4
           dsimp only)
        | go_values | go_skip | go_guarded | go_step | go_upon)
      have hKK := HKK.out
      have hMM := HM.out
      refine ⟨⟨j + 1, _, hlt, by go_num, by congr 1; omega, ?_, HX4.out.put2 (by rw [List.length_set]; exact HTL.out) HG4.out _, HB4.out.trans (But.inner (but_set _ _ _ _ _ _) HX4.out.row)⟩, by simp [intOf]; omega⟩
      dsimp only
      rw [List.set_set]
      exact Like.set HLK.out HY.out _ (mTxt_len _ _)
    · have hke : j = ps.length := by omega
      subst hke
      go_wp2
      go_ret
      rw [List.take_length]
      exact ⟨rfl, hkp⟩
theorem markEntries (ds : List EntryD) (v : Value) (k lo hi : Nat) (w : World) (hv : EntriesO w lo hi v ds) (hb : k + bMk ds ≤ 1000000000) :
    Calls Try.prog 10 #[v, .int .i64 (k : Int)] w fun e w' => e = .returned (.int .i64 ((k + bMk ds : Nat) : Int)) ∧ But lo hi w w' := by
  obtain ⟨ts, h, e⟩ := hv
  have hm : eMk ts = bMk ds := by rw [eMk_strip, e]
  have hl : ds.length ≤ bMk ds := by
    clear hb e hm
    unfold bMk
    induction ds with
    | nil => simp
    | cons d ds ih => simp only [List.map_cons, List.sum_cons, List.length_cons]; omega
  have := markEs ts v k lo hi w h (by rw [hm]; exact hb) (by rw [entries_len e]; omega)
  rw [hm] at this
  exact this

end Go.Proofs.Ytgbgnmjgnfocmaa
