/-
  Lists of assets weighed.
-/
import Derived.Test.YtmoaihhllfkmiaaAsset
namespace Go.Proofs.Ytmoaihhllfkmiaa
open Go.ChangeShapes Go.WideShapes Go.ChangeAt Go.RowKit

set_option maxRecDepth 100000
set_option linter.unusedVariables false
set_option linter.unusedSimpArgs false

set_option maxHeartbeats 4000000 in
theorem szAsset1 (f0 : ByteArray) (f1 f2 : Value) (l : List TxtD) (m : List BytD) (left : Int) (w : World) (hv : TxtAt w f1 l) (hv2 : BytAt w f2 m) (hl : 0 ≤ left) (hm : left ≤ 1048576) (h0 : f0.size ≤ 9223372036854775807) (hn : l.length ≤ 9223372036854775807) (hs : ∀ p ∈ l, p.size ≤ 9223372036854775807) (hn2 : m.length ≤ 9223372036854775807) :
    Calls Try.prog 54 #[.agg #[.string f0, f1, f2], .int .i64 left] w fun e w' => e = .returned (.int .i64 (leftOf left (f0.size + txtCost l + m.length))) ∧ Kept w w' := by
  obtain ⟨ao, cap, hsl⟩ := row_nil hv
  subst hsl
  obtain ⟨ao', cap', hsl⟩ := row_nil hv2
  subst hsl
  by_cases c0 : left < (f0.size : Int)
  · have d0 : decide (left - (f0.size : Int) < 0) = true := by simp; omega
    go_enter Try.func54, Try.ntmps54
    go_wp2
    go_ret
    exact ⟨ret_int (leftOf_no (by omega)).symm, (But.refl _ _ _).alloc _⟩
  have d0 : decide (left - (f0.size : Int) < 0) = false := by simp; omega
  obtain ⟨T, hT⟩ : ∃ T, txtCost l = T := ⟨_, rfl⟩
  have HT : Hid (∀ W x, Kept w W → 0 ≤ x → x ≤ 1048576 → Calls Try.prog 92 #[.slice ao l.length cap, .int .i64 x] W fun e w' => e = .returned (.int .i64 (leftOf x T)) ∧ Kept W w') := fun W x k h1 h2 => by rw [← hT]; exact szTxtS l _ x W (hv.kept k) h1 h2 hn hs
  rw [hT]
  have HB : Hid (BytAt w (.slice ao' m.length cap') m) := hv2
  clear hT hv hs hv2
  have L9 := Loc.new w [.string f0, .slice ao l.length cap, .slice ao' m.length cap'] 87
  by_cases c1 : left - f0.size < (T : Int)
  · go_enter Try.func54, Try.ntmps54
    go_wp2_with (go_at_call 92; refine (HT.out _ _ ((But.refl _ _ _).alloc _) (by omega) (by omega)).mono ?_; rintro e w1 ⟨rfl, k1⟩; rw [leftOf_no (by omega)])
    go_ret
    exact ⟨ret_int (leftOf_no (by omega)).symm, But.trans ((But.refl _ _ _).alloc _) k1⟩
  have d1 : decide (left - (f0.size : Int) - (T : Int) < 0) = false := by simp; omega
  have HK : Hid (∀ W, Kept (w.alloc (.cells #[.string f0, .slice ao l.length cap, .slice ao' m.length cap'] 87)) W → Kept w W) := fun W k => But.trans ((But.refl _ _ _).alloc _) k
  by_cases c2 : left - f0.size - T < (m.length : Int)
  · go_enter Try.func54, Try.ntmps54
    go_wp2_with (first | (go_at_call 92; refine (HT.out _ _ ((But.refl _ _ _).alloc _) (by omega) (by omega)).mono ?_; rintro e w1 ⟨rfl, k1⟩; rw [leftOf_yes (by omega)]; have L9 := L9.kept k1; have K1 : Kept w w1 := HK.out _ k1; have x0 := L9.cell 2 rfl; clear L9) | (go_at_call 93; refine (szBytS m _ _ _ (HB.out.kept K1) (by omega) (by omega) hn2).mono ?_; rintro e w2 ⟨rfl, k2⟩; rw [leftOf_no (by omega)]))
    go_ret
    exact ⟨ret_int (leftOf_no (by omega)).symm, K1.trans k2⟩
  have d2 : decide (left - (f0.size : Int) - (T : Int) - (m.length : Int) < 0) = false := by simp; omega
  go_enter Try.func54, Try.ntmps54
  go_wp2_with (first | (go_at_call 92; refine (HT.out _ _ ((But.refl _ _ _).alloc _) (by omega) (by omega)).mono ?_; rintro e w1 ⟨rfl, k1⟩; rw [leftOf_yes (by omega)]; have L9 := L9.kept k1; have K1 : Kept w w1 := HK.out _ k1; have x0 := L9.cell 2 rfl; clear L9) | (go_at_call 93; refine (szBytS m _ _ _ (HB.out.kept K1) (by omega) (by omega) hn2).mono ?_; rintro e w2 ⟨rfl, k2⟩; rw [leftOf_yes (by omega)]))
  go_ret
  exact ⟨ret_int (by rw [leftOf_yes (by omega)] <;> omega), K1.trans k2⟩

/-- How much a list weighs. -/
def assetOne (p : AssetE) : Nat := p.1.size + txtCost p.2.1.2 + p.2.2.2.length
def assetSum (ps : List AssetE) : Nat := (ps.map assetOne).sum
def assetCost (ps : List AssetE) : Nat := ps.length + assetSum ps
theorem assetSum_snoc (l : List AssetE) (p : AssetE) : assetSum (l ++ [p]) = assetSum l + assetOne p := by simp [assetSum]
theorem assetSum_take (l : List AssetE) (k : Nat) : assetSum (l.take k) ≤ assetSum l := by
  have h := congrArg assetSum (List.take_append_drop k l)
  have h2 : ∀ a b : List AssetE, assetSum (a ++ b) = assetSum a + assetSum b := fun a b => by simp [assetSum]
  rw [h2] at h
  omega
theorem assetSum_le {l : List AssetE} {k : Nat} {p : AssetE} (h : l[k]? = some p) : assetOne p ≤ assetSum l := by
  have := assetSum_take l (k + 1)
  rw [take_snoc h, assetSum_snoc] at this
  omega
/-- All that the counts of a list must keep to. -/
def AFit (p : AssetE) : Prop := p.1.size ≤ 9223372036854775807 ∧ p.2.1.2.length ≤ 9223372036854775807 ∧ (∀ q ∈ p.2.1.2, q.size ≤ 9223372036854775807) ∧ p.2.2.2.length ≤ 9223372036854775807
def AssetFit (ps : List AssetE) : Prop := ∀ p ∈ ps, AFit p

set_option maxHeartbeats 4000000 in
theorem szAssetS (ps : List AssetE) (v : Value) (left : Int) (w : World) (hv : AssetAt w v ps) (hl : 0 ≤ left) (hm : left ≤ 1048576) (hn : ps.length ≤ 9223372036854775807) (hs : AssetFit ps) :
    Calls Try.prog 16 #[v, .int .i64 left] w fun e w' => e = .returned (.int .i64 (leftOf left (assetCost ps))) ∧ Kept w w' := by
  obtain ⟨ao, cap, hsl⟩ := row_nil hv.1
  subst hsl
  by_cases hc : left < (ps.length : Int)
  · go_enter Try.func16, Try.ntmps16
    go_wp2
    go_ret
    exact ⟨ret_int (leftOf_no (by unfold assetCost; omega)).symm, But.refl _ _ _⟩
  · have hc' : (ps.length : Int) ≤ left := by omega
    have hc2 : decide (left - (ps.length : Int) < 0) = false := by simp; omega
    go_enter Try.func16, Try.ntmps16
    go_wp2
    go_loopw [1, 5] (fun l i wr => ∃ (k : Nat) (c : Int), k ≤ ps.length ∧ i = .int .i64 k ∧ l = .int .i64 c ∧ c = left - ps.length - assetSum (ps.take k) ∧ 0 ≤ c ∧ Kept w wr) (fun l i _ => ps.length - (intOf i).toNat)
    case atStart => exact ⟨0, _, by omega, rfl, rfl, by simp [assetSum], by omega, But.refl _ _ _⟩
    case round =>
      obtain ⟨k, c, hk, rfl, rfl, hcv, h0, hkp⟩ := hrel
      have HC : Hid (c = left - ps.length - assetSum (ps.take k)) := hcv
      clear hcv
      by_cases hlt : k < ps.length
      · obtain ⟨p, hp⟩ : ∃ p, ps[k]? = some p := ⟨_, List.getElem?_eq_getElem hlt⟩
        obtain ⟨b, o, cap', e, c0, c1, c2, hpt, hpb⟩ := asset_get (hv.kept hkp) hp
        cases e
        have hcm : c ≤ 1048576 := by have := HC.out; omega
        have hps := hs p (List.mem_of_getElem? hp)
        have hsn := assetSum_snoc (ps.take k) p
        rw [← take_snoc hp] at hsn
        have hst := assetSum_take ps (k + 1)
        have HS : Hid (assetSum (ps.take (k + 1)) = assetSum (ps.take k) + assetOne p ∧ assetSum (ps.take (k + 1)) ≤ assetSum ps) := ⟨hsn, hst⟩
        clear hsn hst
        obtain ⟨y0, ⟨y1, l⟩, ⟨y2, m⟩⟩ := p
        obtain ⟨s0, s1, s2, s3⟩ := hps
        dsimp only at s0 s1 s2 s3 hpt hpb c0 c1 c2
        have HZ : Hid (∀ W, Kept wr W → Calls Try.prog 54 #[.agg #[.string y0, y1, y2], .int .i64 c] W fun e w' => e = .returned (.int .i64 (leftOf c (y0.size + txtCost l + m.length))) ∧ Kept W w') := fun W k => szAsset1 y0 y1 y2 l m c W (hpt.kept k) (hpb.kept k) h0 hcm s0 s1 s2 s3
        obtain ⟨ao3, cap3, hsl3⟩ := row_nil hpt
        subst hsl3
        obtain ⟨ao4, cap4, hsl4⟩ := row_nil hpb
        subst hsl4
        obtain ⟨M, hM⟩ : ∃ M : Nat, y0.size + txtCost l + m.length = M := ⟨_, rfl⟩
        rw [hM] at HZ
        have HM : Hid (assetOne (y0, (.slice ao3 l.length cap3, l), (.slice ao4 m.length cap4, m)) = M) := hM
        clear hM hpt hpb s0 s1 s2 s3
        by_cases hle : (M : Int) ≤ c
        · have hd : decide (c - (M : Int) < 0) = false := by simp; omega
          go_wp2_with (go_at_call 54; refine (HZ.out _ (But.refl _ _ _)).mono ?_; rw [leftOf_yes hle]; rintro e w' ⟨rfl, hk2⟩)
          have hM := HM.out
          have hS' := HS.out
          exact ⟨⟨k + 1, _, hlt, by go_num, rfl, by have := HC.out; omega, by omega, hkp.trans hk2⟩, by simp [intOf]; omega⟩
        · go_wp2_with (go_at_call 54; refine (HZ.out _ (But.refl _ _ _)).mono ?_; rw [leftOf_no (by omega)]; rintro e w' ⟨rfl, hk2⟩)
          have hM := HM.out
          have hS' := HS.out
          go_ret
          exact ⟨ret_int (leftOf_no (by have := HC.out; unfold assetCost; omega)).symm, hkp.trans hk2⟩
      · have hke : k = ps.length := by omega
        subst hke
        go_wp2
        go_ret
        have := HC.out
        rw [List.take_length] at this
        exact ⟨ret_int (by rw [leftOf_yes (by unfold assetCost; omega)]; unfold assetCost; omega), hkp⟩

end Go.Proofs.Ytmoaihhllfkmiaa
