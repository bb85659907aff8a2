/-
  What the functions answer that weigh choices.
-/
import Derived.Test.YtjpceimaggcncaaChoice
namespace Go.Proofs.Ytjpceimaggcncaa
open Go.ChangeShapes Go.WideShapes Go.ChangeAt Go.RowKit

theorem szNumS (ps : List NumD) (v : Value) (left : Int) (w : World) (hv : NumAt w v ps) (hl : 0 ≤ left) (hm : left ≤ 1048576) (hn : ps.length ≤ 9223372036854775807) :
    Calls Try.prog 84 #[v, .int .i64 left] w fun e w' => e = .returned (.int .i64 (leftOf left ps.length)) ∧ Kept w w' := by
  obtain ⟨ao, cap, hsl⟩ := row_nil hv
  subst hsl
  by_cases hc : left < (ps.length : Int)
  · have hc2 : decide (left - (ps.length : Int) < 0) = true := by simp; omega
    go_enter Try.func84, Try.ntmps84
    go_wp2
    go_ret
    exact ⟨ret_int (leftOf_no (by omega)).symm, But.refl _ _ _⟩
  · have hc2 : decide (left - (ps.length : Int) < 0) = false := by simp; omega
    go_enter Try.func84, Try.ntmps84
    go_wp2
    go_ret
    exact ⟨ret_int (by rw [leftOf_yes (by omega)]), But.refl _ _ _⟩

set_option maxHeartbeats 1000000 in
theorem szChoice (f0 : ByteArray) (f1 : Value) (l : List NumD) (f2 : Int) (left : Int) (w : World) (hv : NumAt w f1 l) (hl : 0 ≤ left) (hm : left ≤ 1048576) (hs : f0.size ≤ 9223372036854775807) (hn : l.length ≤ 9223372036854775807) :
    Calls Try.prog 62 #[.agg #[.string f0, f1, .int .i64 f2], .int .i64 left] w fun e w' => e = .returned (.int .i64 (leftOf left (f0.size + l.length))) ∧ Kept w w' := by
  obtain ⟨ao, cap, hsl⟩ := row_nil hv
  subst hsl
  by_cases h1 : left < (f0.size : Int)
  · have d1 : decide (left - (f0.size : Int) < 0) = true := by simp; omega
    go_enter Try.func62, Try.ntmps62
    go_wp2
    go_ret
    exact ⟨ret_int (leftOf_no (by omega)).symm, (But.refl _ _ _).alloc _⟩
  · have d1 : decide (left - (f0.size : Int) < 0) = false := by simp; omega
    by_cases h2 : left - (f0.size : Int) < (l.length : Int)
    · go_enter Try.func62, Try.ntmps62
      go_wp2_with (go_at_call 84; refine (szNumS l _ _ _ (hv.kept ((But.refl _ _ _).alloc _)) (by omega) (by omega) hn).mono ?_; rintro e w1 ⟨rfl, k1⟩; rw [leftOf_no (by omega)])
      go_ret
      exact ⟨ret_int (leftOf_no (by omega)).symm, But.trans ((But.refl _ _ _).alloc _) k1⟩
    · have d2 : decide (left - (f0.size : Int) - (l.length : Int) < 0) = false := by simp; omega
      go_enter Try.func62, Try.ntmps62
      go_wp2_with (go_at_call 84; refine (szNumS l _ _ _ (hv.kept ((But.refl _ _ _).alloc _)) (by omega) (by omega) hn).mono ?_; rintro e w1 ⟨rfl, k1⟩; rw [leftOf_yes (by omega)])
      go_ret
      exact ⟨ret_int (by rw [leftOf_yes (by omega)]; omega), But.trans ((But.refl _ _ _).alloc _) k1⟩

/-- How much a list weighs. -/
def choiceOne (p : ChoiceE) : Nat := p.1.size + p.2.1.2.length
def choiceSum (ps : List ChoiceE) : Nat := (ps.map choiceOne).sum
def choiceCost (ps : List ChoiceE) : Nat := ps.length + choiceSum ps
theorem choiceSum_snoc (l : List ChoiceE) (p : ChoiceE) : choiceSum (l ++ [p]) = choiceSum l + choiceOne p := by simp [choiceSum]
theorem choiceSum_take (l : List ChoiceE) (k : Nat) : choiceSum (l.take k) ≤ choiceSum l := by
  have h := congrArg choiceSum (List.take_append_drop k l)
  have h2 : ∀ a b : List ChoiceE, choiceSum (a ++ b) = choiceSum a + choiceSum b := fun a b => by simp [choiceSum]
  rw [h2] at h
  omega
theorem choiceSum_le {l : List ChoiceE} {k : Nat} {p : ChoiceE} (h : l[k]? = some p) : choiceOne p ≤ choiceSum l := by
  have := choiceSum_take l (k + 1)
  rw [take_snoc h, choiceSum_snoc] at this
  omega

/-- All that the counts of a list must keep to. -/
def ChoiceFit (ps : List ChoiceE) : Prop := ∀ p ∈ ps, p.1.size ≤ 9223372036854775807 ∧ p.2.1.2.length ≤ 9223372036854775807

set_option maxHeartbeats 2000000 in
theorem szChoiceS (ps : List ChoiceE) (v : Value) (left : Int) (w : World) (hv : ChoiceAt w v ps) (hl : 0 ≤ left) (hm : left ≤ 1048576) (hn : ps.length ≤ 9223372036854775807) (hs : ChoiceFit ps) :
    Calls Try.prog 33 #[v, .int .i64 left] w fun e w' => e = .returned (.int .i64 (leftOf left (choiceCost ps))) ∧ Kept w w' := by
  obtain ⟨ao, cap, hsl⟩ := row_nil hv.1
  subst hsl
  by_cases hc : left < (ps.length : Int)
  · go_enter Try.func33, Try.ntmps33
    go_wp2
    go_ret
    exact ⟨ret_int (leftOf_no (by unfold choiceCost; omega)).symm, But.refl _ _ _⟩
  · have hc' : (ps.length : Int) ≤ left := by omega
    have hc2 : decide (left - (ps.length : Int) < 0) = false := by simp; omega
    go_enter Try.func33, Try.ntmps33
    go_wp2
    go_loopw [1, 5] (fun l i wr => ∃ (k : Nat) (c : Int), k ≤ ps.length ∧ i = .int .i64 k ∧ l = .int .i64 c ∧ c = left - ps.length - choiceSum (ps.take k) ∧ 0 ≤ c ∧ Kept w wr) (fun l i _ => ps.length - (intOf i).toNat)
    case atStart => exact ⟨0, _, by omega, rfl, rfl, by simp [choiceSum], by omega, But.refl _ _ _⟩
    case round =>
      obtain ⟨k, c, hk, rfl, rfl, hcv, h0, hkp⟩ := hrel
      have HC : Hid (c = left - ps.length - choiceSum (ps.take k)) := hcv
      clear hcv
      by_cases hlt : k < ps.length
      · obtain ⟨p, hp⟩ : ∃ p, ps[k]? = some p := ⟨_, List.getElem?_eq_getElem hlt⟩
        obtain ⟨b, o, cap', e, c0, c1, c2, hpa⟩ := choice_get (hv.kept hkp) hp
        cases e
        have hcm : c ≤ 1048576 := by have := HC.out; omega
        have hps := hs p (List.mem_of_getElem? hp)
        have hsn := choiceSum_snoc (ps.take k) p
        rw [← take_snoc hp] at hsn
        have hst := choiceSum_take ps (k + 1)
        have HS : Hid (choiceSum (ps.take (k + 1)) = choiceSum (ps.take k) + (p.1.size + p.2.1.2.length) ∧ choiceSum (ps.take (k + 1)) ≤ choiceSum ps) := ⟨hsn, hst⟩
        clear hsn hst
        obtain ⟨y0, ⟨y1, l⟩, y2⟩ := p
        dsimp only at hps hpa c0 c1 c2
        obtain ⟨ao3, cap3, hsl3⟩ := row_nil hpa
        subst hsl3
        have HP : Hid (NumAt wr (.slice ao3 l.length cap3) l) := hpa
        clear hpa
        obtain ⟨M, hM⟩ : ∃ M : Nat, y0.size + l.length = M := ⟨_, rfl⟩
        have HM : Hid (y0.size + l.length = M) := hM
        clear hM
        by_cases hle : (M : Int) ≤ c
        · have hd : decide (c - (M : Int) < 0) = false := by simp; omega
          go_wp2_with (go_at_call 62; refine (szChoice _ _ _ _ _ _ HP.out h0 hcm hps.1 hps.2).mono ?_; rw [HM.out, leftOf_yes hle]; rintro e w' ⟨rfl, hk2⟩)
          have hM := HM.out
          have hS' := HS.out
          exact ⟨⟨k + 1, _, hlt, by go_num, rfl, by have := HC.out; omega, by omega, hkp.trans hk2⟩, by simp [intOf]; omega⟩
        · go_wp2_with (go_at_call 62; refine (szChoice _ _ _ _ _ _ HP.out h0 hcm hps.1 hps.2).mono ?_; rw [HM.out, leftOf_no (by omega)]; rintro e w' ⟨rfl, hk2⟩)
          have hM := HM.out
          have hS' := HS.out
          go_ret
          exact ⟨ret_int (leftOf_no (by have := HC.out; unfold choiceCost; omega)).symm, hkp.trans hk2⟩
      · have hke : k = ps.length := by omega
        subst hke
        go_wp2
        go_ret
        have := HC.out
        rw [List.take_length] at this
        exact ⟨ret_int (by rw [leftOf_yes (by unfold choiceCost; omega)]; unfold choiceCost; omega), hkp⟩

end Go.Proofs.Ytjpceimaggcncaa
