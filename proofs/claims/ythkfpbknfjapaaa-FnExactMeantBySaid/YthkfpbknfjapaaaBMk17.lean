/-
  Marks written over a list of binds, and found again.
-/
import Derived.Test.YthkfpbknfjapaaaBMkP17
import Derived.Test.YthkfpbknfjapaaaQuiet
namespace Go.Proofs.Ythkfpbknfjapaaa
open Go.ChangeShapes Go.WideShapes Go.ChangeAt Go.RowKit

set_option maxRecDepth 100000
set_option linter.unusedVariables false

set_option maxHeartbeats 4000000 in
theorem markBs (ps : List BindE) (v : Value) (k lo hi : Nat) (w : World) (hv : BindO w lo hi v ps) (hb : k + eMk ps ≤ 1000000000) (hn : ps.length ≤ 1000000000) :
    Calls Try.prog 22 #[v, .int .i64 (k : Int)] w fun e w' => e = .returned (.int .i64 ((k + eMk ps : Nat) : Int)) ∧ BindO w' lo hi v (mkE k ps) ∧ But lo hi w w' := by
  obtain ⟨ao, cap, hsl⟩ := hv.form
  subst hsl
  go_enter Try.func22, Try.ntmps22
  go_wp2
  go_loopw [1, 5] (fun kk i wr => ∃ (j : Nat), j ≤ ps.length ∧ i = .int .i64 j ∧ kk = .int .i64 ((k + eMk (ps.take j) : Nat) : Int) ∧ BindO wr lo hi (.slice ao ps.length cap) (mkE k (ps.take j) ++ ps.drop j) ∧ But lo hi w wr) (fun kk i _ => ps.length - (intOf i).toNat)
  case atStart => exact ⟨0, by omega, rfl, by simp [eMk, bMk], by simpa [mkE] using hv, But.refl _ _ _⟩
  case round =>
    obtain ⟨j, hj, rfl, rfl, ho, hkp⟩ := hrel
    by_cases hlt : j < ps.length
    · obtain ⟨p, hp⟩ : ∃ y, ps[j]? = some y := ⟨_, List.getElem?_eq_getElem (by omega)⟩
      have hmix := mix_at (k := k) hp
      have hsn := eMk_snoc (ps.take j) p
      rw [← take_snoc hp] at hsn
      have hse : mkE k (ps.take (j + 1)) = mkE k (ps.take j) ++ [mk1 (k + eMk (ps.take j)) p] := by rw [take_snoc hp, mkE_snoc]
      have hst := eMk_take ps (j + 1)
      have hyl : (mkE k (ps.take j) ++ ps.drop j).length = ps.length := by rw [List.length_append, mkE_len, List.length_take, List.length_drop]; omega
      obtain ⟨ys, hys⟩ : ∃ ys, mkE k (ps.take j) ++ ps.drop j = ys := ⟨_, rfl⟩
      rw [hys] at ho hmix hyl
      have hkb : k + eMk (ps.take j) + (p.2.2.length + 1) ≤ 1000000000 := by omega
      generalize hK : k + eMk (ps.take j) = K at *
      have HE : Hid (ys.set j (mk1 K p) = mkE k (ps.take (j + 1)) ++ ps.drop (j + 1)) := by
        show _ = _
        rw [hmix.2, hse]
        simp
      have HKK : Hid (k + eMk (ps.take (j + 1)) = K + (p.2.2.length + 1)) := by show _ = _; omega
      have hy := hmix.1
      obtain ⟨b, o, cap1, e, _⟩ := bind_get ho.at hy
      rw [hyl] at e
      cases e
      obtain ⟨g', cap', hfm, _⟩ : ∃ g cap', Value.slice (some ⟨b, o, none⟩) ps.length cap = .slice (some ⟨g, 0, none⟩) ps.length cap' ∧ True := by
        rcases ho.row.1.2 with ⟨hf, _⟩ | ⟨g, c2, cur, hf, _⟩
        · cases hf
        · rw [hyl] at hf; exact ⟨g, c2, hf, trivial⟩
      cases hfm
      obtain ⟨y0, s, l⟩ := p
      dsimp only at hkb
      obtain ⟨a3, p3, hsl3⟩ := row_nil (ho.inn j _ hy).at
      dsimp only at hsl3
      subst hsl3
      have hjy : j < ys.length := by omega
      have HTL : Hid (ps.length = ys.length) := hyl.symm
      have HO : Hid (BindO wr lo hi (.slice (some ⟨b, 0, none⟩) ps.length cap) ys) := ho
      have HB : Hid (But lo hi w wr) := hkp
      have HY : Hid (ys[j]? = some (y0, (.slice a3 l.length p3, l))) := hy
      have HMT : Hid (∀ W, Calls Try.prog 67 #[.int .i64 (K : Int)] W fun e w' => e = .returned (.string (mtext K)) ∧ Kept W w') := fun W => markText K (by omega) W
      obtain ⟨M, hM⟩ : ∃ M : Nat, K + 1 + l.length = M := ⟨_, rfl⟩
      have HM : Hid (K + 1 + l.length = M) := hM
      have HKB : Hid (K + 1 + l.length ≤ 1000000000000) := by show _ ≤ _; omega
      clear hM hsn hse hst hyl hmix hys hkp hv hy hK ho
      repeat (first
        | (go_at_call 67
           refine (HMT.out _).mono ?_
           rintro e w2 ⟨rfl, k2⟩
           have O2 := HO.out.kept k2
           obtain ⟨e0, ez⟩ := O2.cells HY.out
           have e1 : w2.cell? ⟨b, j * 2, none⟩ = some (.string y0) := e0 0 _ rfl
           have ez0 := ez (j * 2)
           have X1 := O2.put HTL.out HY.out (mtext K)
           have g1 : (ys.set j (mtext K, (.slice a3 l.length p3, l)))[j]? = some (mtext K, (.slice a3 l.length p3, l)) := get_self _ hjy
           have e3 := (X1.cells g1).1 1 _ rfl
           have HX1 : Hid (BindO (w2.setCell ⟨b, j * 2, none⟩ (.string (mtext K))) lo hi (.slice (some ⟨b, 0, none⟩) ps.length cap) (ys.set j (mtext K, (.slice a3 l.length p3, l)))) := X1
           have HG1 : Hid ((ys.set j (mtext K, (.slice a3 l.length p3, l)))[j]? = some (mtext K, (.slice a3 l.length p3, l))) := g1
           have HB2 : Hid (But lo hi w (w2.setCell ⟨b, j * 2, none⟩ (.string (mtext K)))) := (HB.out.transK k2).trans (But.inner (but_set w2 b ps.length cap (j * 2) (.string (mtext K))) O2.row)
           clear O2 e0 ez X1 g1 k2
           dsimp only)
        | (go_at_call 23
           refine (markNumS l _ (K + 1) lo hi _ (HX1.out.inn j _ HG1.out) HKB.out).mono ?_
           rintro e w4 ⟨rfl, o4, b4⟩
           rw [HM.out]
           have X4 := BindO.inner HX1.out HG1.out b4 o4
           dsimp only at X4
           rw [set2] at X4
           have HX4 : Hid (BindO w4 lo hi (.slice (some ⟨b, 0, none⟩) ps.length cap) (ys.set j (mtext K, (.slice a3 l.length p3, mNum (K + 1) l.length)))) := X4
           have HB4 : Hid (But lo hi w w4) := HB2.out.trans (But.inner b4 o4)
           clear X4 b4 o4
           dsimp only)
        | go_values | go_skip | go_guarded | go_step | go_upon)
      have hE := HE.out
      have hKK := HKK.out
      have hMM := HM.out
      dsimp only at hKK
      have e1 : mk1 K (y0, (.slice a3 l.length p3, l)) = (mtext K, (.slice a3 l.length p3, mNum (K + 1) l.length)) := rfl
      rw [e1] at hE
      exact ⟨⟨j + 1, hlt, by go_num, by congr 1; omega, by rw [← hE]; exact HX4.out, HB4.out⟩, by simp [intOf]; omega⟩
    · have hke : j = ps.length := by omega
      subst hke
      go_wp2
      go_ret
      rw [List.take_length] at ho ⊢
      simp only [List.drop_length, List.append_nil] at ho
      exact ⟨rfl, ho, hkp⟩
theorem markBinds (ds : List BindD) (v : Value) (k lo hi : Nat) (w : World) (hv : BindsO w lo hi v ds) (hb : k + bMk ds ≤ 1000000000) :
    Calls Try.prog 22 #[v, .int .i64 (k : Int)] w fun e w' => e = .returned (.int .i64 ((k + bMk ds : Nat) : Int)) ∧ BindsO w' lo hi v (mkD k ds) ∧ But lo hi w w' := by
  obtain ⟨ts, h, e⟩ := hv
  have hm : eMk ts = bMk ds := by unfold eMk; rw [e]
  have hl : ds.length ≤ bMk ds := by
    clear hb e hm
    unfold bMk
    induction ds with
    | nil => simp
    | cons d ds ih => simp only [List.map_cons, List.sum_cons, List.length_cons]; omega
  refine (markBs ts v k lo hi w h (by rw [hm]; exact hb) (by rw [binds_len e]; omega)).mono ?_
  rintro e' w' ⟨rfl, ho, hk⟩
  exact ⟨by rw [hm], ⟨mkE k ts, ho, by rw [mkE_strip, e]⟩, hk⟩
set_option maxHeartbeats 4000000 in
theorem heldBinds (ps : List BindD) (v : Value) (k : Nat) (w : World) (hv : BindsAt w v (mkD k ps)) (hb : k + bMk ps ≤ 1000000000) (hn : ps.length ≤ 1000000000) :
    Calls Try.prog 24 #[v, .int .i64 (k : Int)] w fun e w' => e = .returned (.int .i64 ((k + bMk ps : Nat) : Int)) ∧ Kept w w' := by
  obtain ⟨ao, cap, hsl⟩ := hv.form
  rw [mkD_len] at hsl
  subst hsl
  go_enter Try.func24, Try.ntmps24
  go_wp2
  go_loopw [1, 5] (fun kk i wr => ∃ (j : Nat), j ≤ ps.length ∧ i = .int .i64 j ∧ kk = .int .i64 ((k + bMk (ps.take j) : Nat) : Int) ∧ Kept w wr) (fun kk i _ => ps.length - (intOf i).toNat)
  case atStart => exact ⟨0, by omega, rfl, by simp [bMk], But.refl _ _ _⟩
  case round =>
    obtain ⟨j, hj, rfl, rfl, hkp⟩ := hrel
    by_cases hlt : j < ps.length
    · obtain ⟨p, hp⟩ : ∃ y, ps[j]? = some y := ⟨_, List.getElem?_eq_getElem (by omega)⟩
      obtain ⟨b, o, cap1, s, e, c0, c1, hna⟩ := (hv.kept hkp).get (mkD_get k ps j p hp)
      rw [mkD_len] at e
      cases e
      have hsn := bMk_snoc (ps.take j) p
      rw [← take_snoc hp] at hsn
      have hst := bMk_take ps (j + 1)
      have hkb : k + bMk (ps.take j) + (p.2.length + 1) ≤ 1000000000 := by omega
      have HKK : Hid (k + bMk (ps.take (j + 1)) = k + bMk (ps.take j) + (p.2.length + 1)) := by show _ = _; omega
      generalize hK : k + bMk (ps.take j) = K at *
      obtain ⟨y0, l⟩ := p
      dsimp only at c0 c1 hna hkb HKK
      obtain ⟨M, hM⟩ : ∃ M : Nat, K + 1 + l.length = M := ⟨_, rfl⟩
      have HM : Hid (K + 1 + l.length = M) := hM
      obtain ⟨a3, p3, hsl3⟩ := row_nil hna
      rw [mNum_len] at hsl3
      subst hsl3
      have hM0 : decide ((M : Int) < 0) = false := by simp
      have HN : Hid (NumAt wr (.slice a3 l.length p3) (mNum (K + 1) l.length)) := hna
      have HK : Hid (Kept w wr) := hkp
      have HKB : Hid (K + 1 + l.length ≤ 1000000000000) := by show _ ≤ _; omega
      have MTX : Hid (∀ W, Calls Try.prog 67 #[.int .i64 (K : Int)] W fun e w' => e = .returned (.string (mtext K)) ∧ Kept W w') := fun W => markText K (by omega) W
      have hgw : b < wr.heap.size := World.block_lt_of_cell? _ _ c0
      have z1 : (0 : Int) ≤ (j : Int) := by omega
      have z2 : (j : Int) < (ps.length : Int) := by omega
      clear hM hsn hst hkp hna hK hv
      repeat (first | go_values | go_skip | go_guarded | go_step | go_upon)
      refine wp_region_kept (by kernel_rfl) (by kernel_rfl) ?_
      have hcc := @KW.cell_eq
      repeat (go_big_quiet_step (first | (go_at_call 67; exact kw_call (MTX.out _))))
      refine wpQuiet_nil ?_
      rintro w5 ⟨⟨w8, k5⟩, h9⟩
      change w5 = w8 at h9
      subst h9
      clear hcc
      have c1 := Kept.cell k5 c1
      repeat (first
        | (go_at_call 34
           refine (heldNumS l.length _ (K + 1) _ (HN.out.kept k5) HKB.out).mono ?_
           rintro e w4 ⟨rfl, k4⟩
           rw [HM.out]
           dsimp only)
        | go_values | go_skip | go_guarded | go_step | go_upon)
      have hKK := HKK.out
      have hMM := HM.out
      exact ⟨⟨j + 1, hlt, by go_num, by congr 1; omega, HK.out.trans (k5.trans k4)⟩, by simp [intOf]; omega⟩
    · have hke : j = ps.length := by omega
      subst hke
      go_wp2
      go_ret
      rw [List.take_length]
      exact ⟨rfl, hkp⟩

end Go.Proofs.Ythkfpbknfjapaaa
