/-
  Lists of entries weighed.
-/
import Derived.Test.YtgbgnmjgnfocmaaEntry
namespace Go.Proofs.Ytgbgnmjgnfocmaa
open Go.ChangeShapes Go.WideShapes Go.ChangeAt Go.RowKit

set_option maxHeartbeats 2000000 in
theorem szEntry (f0 : ByteArray) (f1 : Value) (l : List TxtD) (f2 : Bool) (left : Int) (w : World) (hv : TxtAt w f1 l) (hl : 0 ≤ left) (hm : left ≤ 1048576) (hs0 : f0.size ≤ 9223372036854775807) (hn : l.length ≤ 9223372036854775807 ∧ ∀ p ∈ l, p.size ≤ 9223372036854775807) :
    Calls Try.prog 13 #[.agg #[.string f0, f1, .bool f2], .int .i64 left] w fun e w' => e = .returned (.int .i64 (leftOf left (f0.size + txtCost l))) ∧ Kept w w' := by
  obtain ⟨ao, cap, hsl⟩ := row_nil hv
  subst hsl
  by_cases h0 : left < (f0.size : Int)
  · have d0 : decide (left - (f0.size : Int) < 0) = true := by simp; omega
    go_enter Try.func13, Try.ntmps13
    go_wp2
    go_ret
    exact ⟨ret_int (leftOf_no (by omega)).symm, (But.refl _ _ _).alloc _⟩
  · have d0 : decide (left - (f0.size : Int) < 0) = false := by simp; omega
    by_cases h1 : left - (f0.size : Int) < (txtCost l : Int)
    · have d1 : decide (left - (f0.size : Int) - (txtCost l : Int) < 0) = true := by simp; omega
      go_enter Try.func13, Try.ntmps13
      go_wp2_with (go_at_call 21; refine (szTxtS l _ _ _ (hv.kept ((But.refl _ _ _).alloc _)) (by omega) (by omega) hn.1 hn.2).mono ?_; rintro e w1 ⟨rfl, k1⟩; rw [leftOf_no (by omega)]; have L9 := (Loc.new w [.string f0, .slice ao l.length cap, .bool f2] 36).kept k1; clear L9)
      go_ret
      exact ⟨ret_int (leftOf_no (by omega)).symm, But.trans ((But.refl _ _ _).alloc _) k1⟩
    · have d1 : decide (left - (f0.size : Int) - (txtCost l : Int) < 0) = false := by simp; omega
      go_enter Try.func13, Try.ntmps13
      go_wp2_with (go_at_call 21; refine (szTxtS l _ _ _ (hv.kept ((But.refl _ _ _).alloc _)) (by omega) (by omega) hn.1 hn.2).mono ?_; rintro e w1 ⟨rfl, k1⟩; rw [leftOf_yes (by omega)]; have L9 := (Loc.new w [.string f0, .slice ao l.length cap, .bool f2] 36).kept k1; clear L9)
      go_ret
      exact ⟨ret_int (by rw [leftOf_yes (by omega)] <;> omega), But.trans ((But.refl _ _ _).alloc _) k1⟩

/-- How much a list weighs. -/
def entryOne (p : EntryE) : Nat := p.1.size + txtCost p.2.1.2
def entrySum (ps : List EntryE) : Nat := (ps.map entryOne).sum
def entryCost (ps : List EntryE) : Nat := ps.length + entrySum ps
theorem entrySum_snoc (l : List EntryE) (p : EntryE) : entrySum (l ++ [p]) = entrySum l + entryOne p := by simp [entrySum]
theorem entrySum_take (l : List EntryE) (k : Nat) : entrySum (l.take k) ≤ entrySum l := by
  have h := congrArg entrySum (List.take_append_drop k l)
  have h2 : ∀ a b : List EntryE, entrySum (a ++ b) = entrySum a + entrySum b := fun a b => by simp [entrySum]
  rw [h2] at h
  omega
theorem entrySum_le {l : List EntryE} {k : Nat} {p : EntryE} (h : l[k]? = some p) : entryOne p ≤ entrySum l := by
  have := entrySum_take l (k + 1)
  rw [take_snoc h, entrySum_snoc] at this
  omega

/-- All that the counts of a list must keep to. -/
def EntryFit (ps : List EntryE) : Prop := ∀ p ∈ ps, p.1.size ≤ 9223372036854775807 ∧ (p.2.1.2.length ≤ 9223372036854775807 ∧ ∀ q ∈ p.2.1.2, q.size ≤ 9223372036854775807)

set_option maxHeartbeats 2000000 in
theorem szEntryS (ps : List EntryE) (v : Value) (left : Int) (w : World) (hv : EntryAt w v ps) (hl : 0 ≤ left) (hm : left ≤ 1048576) (hn : ps.length ≤ 9223372036854775807) (hs : EntryFit ps) :
    Calls Try.prog 4 #[v, .int .i64 left] w fun e w' => e = .returned (.int .i64 (leftOf left (entryCost ps))) ∧ Kept w w' := by
  obtain ⟨ao, cap, hsl⟩ := row_nil hv.1
  subst hsl
  by_cases hc : left < (ps.length : Int)
  · go_enter Try.func4, Try.ntmps4
    go_wp2
    go_ret
    exact ⟨ret_int (leftOf_no (by unfold entryCost; omega)).symm, But.refl _ _ _⟩
  · have hc' : (ps.length : Int) ≤ left := by omega
    have hc2 : decide (left - (ps.length : Int) < 0) = false := by simp; omega
    go_enter Try.func4, Try.ntmps4
    go_wp2
    go_loopw [1, 5] (fun l i wr => ∃ (k : Nat) (c : Int), k ≤ ps.length ∧ i = .int .i64 k ∧ l = .int .i64 c ∧ c = left - ps.length - entrySum (ps.take k) ∧ 0 ≤ c ∧ Kept w wr) (fun l i _ => ps.length - (intOf i).toNat)
    case atStart => exact ⟨0, _, by omega, rfl, rfl, by simp [entrySum], by omega, But.refl _ _ _⟩
    case round =>
      obtain ⟨k, c, hk, rfl, rfl, hcv, h0, hkp⟩ := hrel
      have HC : Hid (c = left - ps.length - entrySum (ps.take k)) := hcv
      clear hcv
      by_cases hlt : k < ps.length
      · obtain ⟨p, hp⟩ : ∃ p, ps[k]? = some p := ⟨_, List.getElem?_eq_getElem hlt⟩
        obtain ⟨b, o, cap', e, c0, c1, c2, hpa⟩ := entry_get (hv.kept hkp) hp
        cases e
        have hcm : c ≤ 1048576 := by have := HC.out; omega
        have hps := hs p (List.mem_of_getElem? hp)
        have hsn := entrySum_snoc (ps.take k) p
        rw [← take_snoc hp] at hsn
        have hst := entrySum_take ps (k + 1)
        have HS : Hid (entrySum (ps.take (k + 1)) = entrySum (ps.take k) + (p.1.size + txtCost p.2.1.2) ∧ entrySum (ps.take (k + 1)) ≤ entrySum ps) := ⟨hsn, hst⟩
        clear hsn hst
        obtain ⟨y0, ⟨y1, l⟩, y2⟩ := p
        dsimp only at hps hpa c0 c1 c2
        obtain ⟨ao3, cap3, hsl3⟩ := row_nil hpa
        subst hsl3
        have HP : Hid (TxtAt wr (.slice ao3 l.length cap3) l) := hpa
        clear hpa
        obtain ⟨M, hM⟩ : ∃ M : Nat, y0.size + txtCost l = M := ⟨_, rfl⟩
        have HM : Hid (y0.size + txtCost l = M) := hM
        clear hM
        by_cases hle : (M : Int) ≤ c
        · have hd : decide (c - (M : Int) < 0) = false := by simp; omega
          go_wp2_with (go_at_call 13; refine (szEntry _ _ _ _ _ _ HP.out h0 hcm hps.1 hps.2).mono ?_; rw [HM.out, leftOf_yes hle]; rintro e w' ⟨rfl, hk2⟩)
          have hM := HM.out
          have hS' := HS.out
          exact ⟨⟨k + 1, _, hlt, by go_num, rfl, by have := HC.out; omega, by omega, hkp.trans hk2⟩, by simp [intOf]; omega⟩
        · go_wp2_with (go_at_call 13; refine (szEntry _ _ _ _ _ _ HP.out h0 hcm hps.1 hps.2).mono ?_; rw [HM.out, leftOf_no (by omega)]; rintro e w' ⟨rfl, hk2⟩)
          have hM := HM.out
          have hS' := HS.out
          go_ret
          exact ⟨ret_int (leftOf_no (by have := HC.out; unfold entryCost; omega)).symm, hkp.trans hk2⟩
      · have hke : k = ps.length := by omega
        subst hke
        go_wp2
        go_ret
        have := HC.out
        rw [List.take_length] at this
        exact ⟨ret_int (by rw [leftOf_yes (by unfold entryCost; omega)]; unfold entryCost; omega), hkp⟩

end Go.Proofs.Ytgbgnmjgnfocmaa
