/-
  One voice as a value: weighed, copied, compared, opened.
-/
import Derived.Test.YtapfafibhjpkdaaVoiceF
import Derived.Test.YtapfafibhjpkdaaVoiceT
import Derived.Test.YtapfafibhjpkdaaVoiceE
import Derived.Test.YtapfafibhjpkdaaVoiceO
namespace Go.Proofs.Ytapfafibhjpkdaa
open Go.ChangeShapes Go.WideShapes Go.ChangeAt Go.RowKit

set_option maxRecDepth 100000
set_option linter.unusedVariables false

/-- One voice as a value. -/
def VAt (w : World) (v : Value) (d : VoiceD) : Prop := ∃ s, v = .agg #[s, .int .i64 d.2.1, .bool d.2.2.1, .int .i64 d.2.2.2.1, .int .i64 d.2.2.2.2.1, .int .i64 d.2.2.2.2.2] ∧ NumAt w s d.1
def VO (w : World) (lo hi : Nat) (v : Value) (d : VoiceD) : Prop := ∃ s, v = .agg #[s, .int .i64 d.2.1, .bool d.2.2.1, .int .i64 d.2.2.2.1, .int .i64 d.2.2.2.2.1, .int .i64 d.2.2.2.2.2] ∧ NumO w lo hi s d.1
section
variable {w w' : World} {v : Value} {d : VoiceD} {lo hi lo' hi' : Nat}
theorem VAt.kept (h : VAt w v d) (k : Kept w w') : VAt w' v d := by obtain ⟨s, e, h⟩ := h; exact ⟨s, e, h.kept k⟩
theorem VO.kept (h : VO w lo hi v d) (k : Kept w w') : VO w' lo hi v d := by obtain ⟨s, e, h⟩ := h; exact ⟨s, e, h.kept k⟩
theorem VO.but (h : VO w lo hi v d) (k : But lo' hi' w w') (ho : hi ≤ lo' ∨ hi' ≤ lo) : VO w' lo hi v d := by obtain ⟨s, e, h⟩ := h; exact ⟨s, e, h.but k ho⟩
theorem VO.at (h : VO w lo hi v d) : VAt w v d := by obtain ⟨s, e, h⟩ := h; exact ⟨s, e, h.at⟩
theorem VAt.form (h : VAt w v d) : ∃ ao cap, v = .agg #[.slice ao d.1.length cap, .int .i64 d.2.1, .bool d.2.2.1, .int .i64 d.2.2.2.1, .int .i64 d.2.2.2.2.1, .int .i64 d.2.2.2.2.2] := by
  obtain ⟨s, e, h⟩ := h
  obtain ⟨ao, cap, he⟩ := row_nil h
  exact ⟨ao, cap, by rw [e, he]⟩
theorem VO.form (h : VO w lo hi v d) : ∃ ao cap, v = .agg #[.slice ao d.1.length cap, .int .i64 d.2.1, .bool d.2.2.1, .int .i64 d.2.2.2.1, .int .i64 d.2.2.2.2.1, .int .i64 d.2.2.2.2.2] := h.at.form
end
theorem szV (d : VoiceD) (v : Value) (left : Int) (w : World) (hv : VAt w v d) (hl : 0 ≤ left) (hm : left ≤ 1048576) (hn : d.1.length ≤ 9223372036854775807) :
    Calls Try.prog 9 #[v, .int .i64 left] w fun e w' => e = .returned (.int .i64 (leftOf left d.1.length)) ∧ Kept w w' := by
  obtain ⟨s, rfl, h⟩ := hv
  exact szVoice s d.1 _ _ _ _ _ left w h hl hm hn
theorem toV (d : VoiceD) (v : Value) (w : World) (hv : VAt w v d) (hl : d.1.length ≤ 1048576) :
    Calls Try.prog 11 #[v] w fun e w' => ∃ v', e = .returned v' ∧ VO w' w.heap.size w'.heap.size v' d ∧ Kept w w' := by
  obtain ⟨s, rfl, h⟩ := hv
  refine (toVoice s d.1 _ _ _ _ _ w h hl).mono ?_
  rintro e w' ⟨v', rfl, ho, hk⟩
  exact ⟨_, rfl, ⟨v', rfl, ho.mono (by omega) (Nat.le_refl _)⟩, hk⟩
theorem eqV (d : VoiceD) (v v' : Value) (w : World) (hv : VAt w v d) (hv' : VAt w v' d) (hl : d.1.length ≤ 9000000000000000000) :
    Calls Try.prog 13 #[v, v'] w fun e w' => e = .returned (.bool true) ∧ Kept w w' := by
  obtain ⟨s, rfl, h⟩ := hv
  obtain ⟨s', rfl, h'⟩ := hv'
  exact eqVoice s s' d.1 _ _ _ _ _ w h h' hl
section
open Go.Deep
variable {H : Type} {enc : TypeId × Value → H} {w : World} {base : Nat} {spare : Nat → Bool} {held : Bool}
theorem open_vw {v : Value} {d : DataW H} {ps : List MemPlace} {r : Reach} {b0 : Nat} (hval : Value.okWide Try.prog w r b0 24 v) (hd : DataW.Trod enc Try.prog w base spare held 24 v d ps) : ∃ d : VoiceD, VAt w v d ∧ d.1.length ≤ maxLen := by
  obtain ⟨p, rfl, h1, h2⟩ := open_voiceV hval hd
  exact ⟨stripVoice p, ⟨p.1.1, rfl, h1⟩, h2⟩
end

end Go.Proofs.Ytapfafibhjpkdaa
