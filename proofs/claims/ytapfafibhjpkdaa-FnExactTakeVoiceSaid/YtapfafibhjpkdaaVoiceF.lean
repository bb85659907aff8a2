/-
  Lists of voices weighed.
-/
import Derived.Test.YtapfafibhjpkdaaVoice
namespace Go.Proofs.Ytapfafibhjpkdaa
open Go.ChangeShapes Go.WideShapes Go.ChangeAt Go.RowKit

set_option maxHeartbeats 2000000 in
theorem szVoice (f0 : Value) (l : List NumD) (f1 : Int) (f2 : Bool) (f3 : Int) (f4 : Int) (f5 : Int) (left : Int) (w : World) (hv : NumAt w f0 l) (hl : 0 ≤ left) (hm : left ≤ 1048576) (hn : l.length ≤ 9223372036854775807) :
    Calls Try.prog 9 #[.agg #[f0, .int .i64 f1, .bool f2, .int .i64 f3, .int .i64 f4, .int .i64 f5], .int .i64 left] w fun e w' => e = .returned (.int .i64 (leftOf left (l.length))) ∧ Kept w w' := by
  obtain ⟨ao, cap, hsl⟩ := row_nil hv
  subst hsl
  by_cases h0 : left < (l.length : Int)
  · have d0 : decide (left - (l.length : Int) < 0) = true := by simp; omega
    go_enter Try.func9, Try.ntmps9
    go_wp2_with (go_at_call 39; refine (szNumS l _ _ _ (hv.kept ((But.refl _ _ _).alloc _)) (by omega) (by omega) hn).mono ?_; rintro e w1 ⟨rfl, k1⟩; rw [leftOf_no (by omega)]; have L9 := (Loc.new w [.slice ao l.length cap, .int .i64 f1, .bool f2, .int .i64 f3, .int .i64 f4, .int .i64 f5] 24).kept k1; clear L9)
    go_ret
    exact ⟨ret_int (leftOf_no (by omega)).symm, But.trans ((But.refl _ _ _).alloc _) k1⟩
  · have d0 : decide (left - (l.length : Int) < 0) = false := by simp; omega
    go_enter Try.func9, Try.ntmps9
    go_wp2_with (go_at_call 39; refine (szNumS l _ _ _ (hv.kept ((But.refl _ _ _).alloc _)) (by omega) (by omega) hn).mono ?_; rintro e w1 ⟨rfl, k1⟩; rw [leftOf_yes (by omega)]; have L9 := (Loc.new w [.slice ao l.length cap, .int .i64 f1, .bool f2, .int .i64 f3, .int .i64 f4, .int .i64 f5] 24).kept k1; clear L9)
    go_ret
    exact ⟨ret_int (by rw [leftOf_yes (by omega)] <;> omega), But.trans ((But.refl _ _ _).alloc _) k1⟩

/-- How much a list weighs. -/
def voiceOne (p : VoiceE) : Nat := p.1.2.length
def voiceSum (ps : List VoiceE) : Nat := (ps.map voiceOne).sum
def voiceCost (ps : List VoiceE) : Nat := ps.length + voiceSum ps
theorem voiceSum_snoc (l : List VoiceE) (p : VoiceE) : voiceSum (l ++ [p]) = voiceSum l + voiceOne p := by simp [voiceSum]
theorem voiceSum_take (l : List VoiceE) (k : Nat) : voiceSum (l.take k) ≤ voiceSum l := by
  have h := congrArg voiceSum (List.take_append_drop k l)
  have h2 : ∀ a b : List VoiceE, voiceSum (a ++ b) = voiceSum a + voiceSum b := fun a b => by simp [voiceSum]
  rw [h2] at h
  omega
theorem voiceSum_le {l : List VoiceE} {k : Nat} {p : VoiceE} (h : l[k]? = some p) : voiceOne p ≤ voiceSum l := by
  have := voiceSum_take l (k + 1)
  rw [take_snoc h, voiceSum_snoc] at this
  omega

/-- All that the counts of a list must keep to. -/
def VoiceFit (ps : List VoiceE) : Prop := ∀ p ∈ ps, p.1.2.length ≤ 9223372036854775807

set_option maxHeartbeats 2000000 in
theorem szVoiceS (ps : List VoiceE) (v : Value) (left : Int) (w : World) (hv : VoiceAt w v ps) (hl : 0 ≤ left) (hm : left ≤ 1048576) (hn : ps.length ≤ 9223372036854775807) (hs : VoiceFit ps) :
    Calls Try.prog 14 #[v, .int .i64 left] w fun e w' => e = .returned (.int .i64 (leftOf left (voiceCost ps))) ∧ Kept w w' := by
  obtain ⟨ao, cap, hsl⟩ := row_nil hv.1
  subst hsl
  by_cases hc : left < (ps.length : Int)
  · go_enter Try.func14, Try.ntmps14
    go_wp2
    go_ret
    exact ⟨ret_int (leftOf_no (by unfold voiceCost; omega)).symm, But.refl _ _ _⟩
  · have hc' : (ps.length : Int) ≤ left := by omega
    have hc2 : decide (left - (ps.length : Int) < 0) = false := by simp; omega
    go_enter Try.func14, Try.ntmps14
    go_wp2
    go_loopw [1, 5] (fun l i wr => ∃ (k : Nat) (c : Int), k ≤ ps.length ∧ i = .int .i64 k ∧ l = .int .i64 c ∧ c = left - ps.length - voiceSum (ps.take k) ∧ 0 ≤ c ∧ Kept w wr) (fun l i _ => ps.length - (intOf i).toNat)
    case atStart => exact ⟨0, _, by omega, rfl, rfl, by simp [voiceSum], by omega, But.refl _ _ _⟩
    case round =>
      obtain ⟨k, c, hk, rfl, rfl, hcv, h0, hkp⟩ := hrel
      have HC : Hid (c = left - ps.length - voiceSum (ps.take k)) := hcv
      clear hcv
      by_cases hlt : k < ps.length
      · obtain ⟨p, hp⟩ : ∃ p, ps[k]? = some p := ⟨_, List.getElem?_eq_getElem hlt⟩
        obtain ⟨b, o, cap', e, c0, c1, c2, c3, c4, c5, hpa⟩ := voice_get (hv.kept hkp) hp
        cases e
        have hcm : c ≤ 1048576 := by have := HC.out; omega
        have hps := hs p (List.mem_of_getElem? hp)
        have hsn := voiceSum_snoc (ps.take k) p
        rw [← take_snoc hp] at hsn
        have hst := voiceSum_take ps (k + 1)
        have HS : Hid (voiceSum (ps.take (k + 1)) = voiceSum (ps.take k) + (p.1.2.length) ∧ voiceSum (ps.take (k + 1)) ≤ voiceSum ps) := ⟨hsn, hst⟩
        clear hsn hst
        obtain ⟨⟨y0, l⟩, y1, y2, y3, y4, y5⟩ := p
        dsimp only at hps hpa c0 c1 c2 c3 c4 c5
        obtain ⟨ao3, cap3, hsl3⟩ := row_nil hpa
        subst hsl3
        have HP : Hid (NumAt wr (.slice ao3 l.length cap3) l) := hpa
        clear hpa
        obtain ⟨M, hM⟩ : ∃ M : Nat, l.length = M := ⟨_, rfl⟩
        have HM : Hid (l.length = M) := hM
        clear hM
        by_cases hle : (M : Int) ≤ c
        · have hd : decide (c - (M : Int) < 0) = false := by simp; omega
          go_wp2_with (go_at_call 9; refine (szVoice _ _ _ _ _ _ _ _ _ HP.out h0 hcm hps).mono ?_; rw [HM.out, leftOf_yes hle]; rintro e w' ⟨rfl, hk2⟩)
          have hM := HM.out
          have hS' := HS.out
          exact ⟨⟨k + 1, _, hlt, by go_num, rfl, by have := HC.out; omega, by omega, hkp.trans hk2⟩, by simp [intOf]; omega⟩
        · go_wp2_with (go_at_call 9; refine (szVoice _ _ _ _ _ _ _ _ _ HP.out h0 hcm hps).mono ?_; rw [HM.out, leftOf_no (by omega)]; rintro e w' ⟨rfl, hk2⟩)
          have hM := HM.out
          have hS' := HS.out
          go_ret
          exact ⟨ret_int (leftOf_no (by have := HC.out; unfold voiceCost; omega)).symm, hkp.trans hk2⟩
      · have hke : k = ps.length := by omega
        subst hke
        go_wp2
        go_ret
        have := HC.out
        rw [List.take_length] at this
        exact ⟨ret_int (by rw [leftOf_yes (by unfold voiceCost; omega)]; unfold voiceCost; omega), hkp⟩

end Go.Proofs.Ytapfafibhjpkdaa
