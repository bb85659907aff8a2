/-
  Lists of sections weighed.
-/
import Derived.Test.YtapfafibhjpkdaaDoorSection
namespace Go.Proofs.YtapfafibhjpkdaaDoor
open Go.ChangeShapes Go.WideShapes Go.ChangeAt Go.RowKit

set_option maxHeartbeats 2000000 in
theorem szSection (f0 : ByteArray) (f1 : Int) (f2 : Value) (l : List NumD) (f3 : ByteArray) (left : Int) (w : World) (hv : NumAt w f2 l) (hl : 0 ≤ left) (hm : left ≤ 1048576) (hs0 : f0.size ≤ 9223372036854775807) (hs3 : f3.size ≤ 9223372036854775807) (hn : l.length ≤ 9223372036854775807) :
    Calls Tryd.prog 16 #[.agg #[.string f0, .int .i64 f1, f2, .string f3], .int .i64 left] w fun e w' => e = .returned (.int .i64 (leftOf left (f0.size + l.length + f3.size))) ∧ Kept w w' := by
  obtain ⟨ao, cap, hsl⟩ := row_nil hv
  subst hsl
  by_cases h0 : left < (f0.size : Int)
  · have d0 : decide (left - (f0.size : Int) < 0) = true := by simp; omega
    go_enter Tryd.func16, Tryd.ntmps16
    go_wp2
    go_ret
    exact ⟨ret_int (leftOf_no (by omega)).symm, (But.refl _ _ _).alloc _⟩
  · have d0 : decide (left - (f0.size : Int) < 0) = false := by simp; omega
    by_cases h1 : left - (f0.size : Int) < (l.length : Int)
    · have d1 : decide (left - (f0.size : Int) - (l.length : Int) < 0) = true := by simp; omega
      go_enter Tryd.func16, Tryd.ntmps16
      go_wp2_with (go_at_call 30; refine (szNumS l _ _ _ (hv.kept ((But.refl _ _ _).alloc _)) (by omega) (by omega) hn).mono ?_; rintro e w1 ⟨rfl, k1⟩; rw [leftOf_no (by omega)]; have L9 := (Loc.new w [.string f0, .int .i64 f1, .slice ao l.length cap, .string f3] 43).kept k1; have c3 := L9.cell 3 rfl; clear L9)
      go_ret
      exact ⟨ret_int (leftOf_no (by omega)).symm, But.trans ((But.refl _ _ _).alloc _) k1⟩
    · have d1 : decide (left - (f0.size : Int) - (l.length : Int) < 0) = false := by simp; omega
      by_cases h2 : left - (f0.size : Int) - (l.length : Int) < (f3.size : Int)
      · have d2 : decide (left - (f0.size : Int) - (l.length : Int) - (f3.size : Int) < 0) = true := by simp; omega
        go_enter Tryd.func16, Tryd.ntmps16
        go_wp2_with (go_at_call 30; refine (szNumS l _ _ _ (hv.kept ((But.refl _ _ _).alloc _)) (by omega) (by omega) hn).mono ?_; rintro e w1 ⟨rfl, k1⟩; rw [leftOf_yes (by omega)]; have L9 := (Loc.new w [.string f0, .int .i64 f1, .slice ao l.length cap, .string f3] 43).kept k1; have c3 := L9.cell 3 rfl; clear L9)
        go_ret
        exact ⟨ret_int (leftOf_no (by omega)).symm, But.trans ((But.refl _ _ _).alloc _) k1⟩
      · have d2 : decide (left - (f0.size : Int) - (l.length : Int) - (f3.size : Int) < 0) = false := by simp; omega
        go_enter Tryd.func16, Tryd.ntmps16
        go_wp2_with (go_at_call 30; refine (szNumS l _ _ _ (hv.kept ((But.refl _ _ _).alloc _)) (by omega) (by omega) hn).mono ?_; rintro e w1 ⟨rfl, k1⟩; rw [leftOf_yes (by omega)]; have L9 := (Loc.new w [.string f0, .int .i64 f1, .slice ao l.length cap, .string f3] 43).kept k1; have c3 := L9.cell 3 rfl; clear L9)
        go_ret
        exact ⟨ret_int (by rw [leftOf_yes (by omega)] <;> omega), But.trans ((But.refl _ _ _).alloc _) k1⟩

/-- How much a list weighs. -/
def sectionOne (p : SectionE) : Nat := p.1.size + p.2.2.1.2.length + p.2.2.2.size
def sectionSum (ps : List SectionE) : Nat := (ps.map sectionOne).sum
def sectionCost (ps : List SectionE) : Nat := ps.length + sectionSum ps
theorem sectionSum_snoc (l : List SectionE) (p : SectionE) : sectionSum (l ++ [p]) = sectionSum l + sectionOne p := by simp [sectionSum]
theorem sectionSum_take (l : List SectionE) (k : Nat) : sectionSum (l.take k) ≤ sectionSum l := by
  have h := congrArg sectionSum (List.take_append_drop k l)
  have h2 : ∀ a b : List SectionE, sectionSum (a ++ b) = sectionSum a + sectionSum b := fun a b => by simp [sectionSum]
  rw [h2] at h
  omega
theorem sectionSum_le {l : List SectionE} {k : Nat} {p : SectionE} (h : l[k]? = some p) : sectionOne p ≤ sectionSum l := by
  have := sectionSum_take l (k + 1)
  rw [take_snoc h, sectionSum_snoc] at this
  omega

/-- All that the counts of a list must keep to. -/
def SectionFit (ps : List SectionE) : Prop := ∀ p ∈ ps, p.1.size ≤ 9223372036854775807 ∧ p.2.2.2.size ≤ 9223372036854775807 ∧ p.2.2.1.2.length ≤ 9223372036854775807

set_option maxHeartbeats 2000000 in
theorem szSectionS (ps : List SectionE) (v : Value) (left : Int) (w : World) (hv : SectionAt w v ps) (hl : 0 ≤ left) (hm : left ≤ 1048576) (hn : ps.length ≤ 9223372036854775807) (hs : SectionFit ps) :
    Calls Tryd.prog 4 #[v, .int .i64 left] w fun e w' => e = .returned (.int .i64 (leftOf left (sectionCost ps))) ∧ Kept w w' := by
  obtain ⟨ao, cap, hsl⟩ := row_nil hv.1
  subst hsl
  by_cases hc : left < (ps.length : Int)
  · go_enter Tryd.func4, Tryd.ntmps4
    go_wp2
    go_ret
    exact ⟨ret_int (leftOf_no (by unfold sectionCost; omega)).symm, But.refl _ _ _⟩
  · have hc' : (ps.length : Int) ≤ left := by omega
    have hc2 : decide (left - (ps.length : Int) < 0) = false := by simp; omega
    go_enter Tryd.func4, Tryd.ntmps4
    go_wp2
    go_loopw [1, 5] (fun l i wr => ∃ (k : Nat) (c : Int), k ≤ ps.length ∧ i = .int .i64 k ∧ l = .int .i64 c ∧ c = left - ps.length - sectionSum (ps.take k) ∧ 0 ≤ c ∧ Kept w wr) (fun l i _ => ps.length - (intOf i).toNat)
    case atStart => exact ⟨0, _, by omega, rfl, rfl, by simp [sectionSum], by omega, But.refl _ _ _⟩
    case round =>
      obtain ⟨k, c, hk, rfl, rfl, hcv, h0, hkp⟩ := hrel
      have HC : Hid (c = left - ps.length - sectionSum (ps.take k)) := hcv
      clear hcv
      by_cases hlt : k < ps.length
      · obtain ⟨p, hp⟩ : ∃ p, ps[k]? = some p := ⟨_, List.getElem?_eq_getElem hlt⟩
        obtain ⟨b, o, cap', e, c0, c1, c2, c3, hpa⟩ := section_get (hv.kept hkp) hp
        cases e
        have hcm : c ≤ 1048576 := by have := HC.out; omega
        have hps := hs p (List.mem_of_getElem? hp)
        have hsn := sectionSum_snoc (ps.take k) p
        rw [← take_snoc hp] at hsn
        have hst := sectionSum_take ps (k + 1)
        have HS : Hid (sectionSum (ps.take (k + 1)) = sectionSum (ps.take k) + (p.1.size + p.2.2.1.2.length + p.2.2.2.size) ∧ sectionSum (ps.take (k + 1)) ≤ sectionSum ps) := ⟨hsn, hst⟩
        clear hsn hst
        obtain ⟨y0, y1, ⟨y2, l⟩, y3⟩ := p
        dsimp only at hps hpa c0 c1 c2 c3
        obtain ⟨ao3, cap3, hsl3⟩ := row_nil hpa
        subst hsl3
        have HP : Hid (NumAt wr (.slice ao3 l.length cap3) l) := hpa
        clear hpa
        obtain ⟨M, hM⟩ : ∃ M : Nat, y0.size + l.length + y3.size = M := ⟨_, rfl⟩
        have HM : Hid (y0.size + l.length + y3.size = M) := hM
        clear hM
        by_cases hle : (M : Int) ≤ c
        · have hd : decide (c - (M : Int) < 0) = false := by simp; omega
          go_wp2_with (go_at_call 16; refine (szSection _ _ _ _ _ _ _ HP.out h0 hcm hps.1 hps.2.1 hps.2.2).mono ?_; rw [HM.out, leftOf_yes hle]; rintro e w' ⟨rfl, hk2⟩)
          have hM := HM.out
          have hS' := HS.out
          exact ⟨⟨k + 1, _, hlt, by go_num, rfl, by have := HC.out; omega, by omega, hkp.trans hk2⟩, by simp [intOf]; omega⟩
        · go_wp2_with (go_at_call 16; refine (szSection _ _ _ _ _ _ _ HP.out h0 hcm hps.1 hps.2.1 hps.2.2).mono ?_; rw [HM.out, leftOf_no (by omega)]; rintro e w' ⟨rfl, hk2⟩)
          have hM := HM.out
          have hS' := HS.out
          go_ret
          exact ⟨ret_int (leftOf_no (by have := HC.out; unfold sectionCost; omega)).symm, hkp.trans hk2⟩
      · have hke : k = ps.length := by omega
        subst hke
        go_wp2
        go_ret
        have := HC.out
        rw [List.take_length] at this
        exact ⟨ret_int (by rw [leftOf_yes (by unfold sectionCost; omega)]; unfold sectionCost; omega), hkp⟩

end Go.Proofs.YtapfafibhjpkdaaDoor
