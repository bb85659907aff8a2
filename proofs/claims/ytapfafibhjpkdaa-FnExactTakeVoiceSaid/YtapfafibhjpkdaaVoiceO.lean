/-
  Voices that came in, opened.
-/
import Derived.Test.YtapfafibhjpkdaaVoiceF
import Derived.Test.YtapfafibhjpkdaaText
namespace Go.Proofs.Ytapfafibhjpkdaa
open Go.ChangeShapes Go.WideShapes Go.ChangeAt Go.RowKit
section
open Go.Deep
variable {H : Type} {enc : TypeId × Value → H} {w : World} {base : Nat} {spare : Nat → Bool} {held : Bool}
set_option maxRecDepth 100000
theorem open_voice {fuel : Nat} {cs : List Value} {x : DataW H × List MemPlace} (h : DataW.trod enc Try.prog w base spare held fuel 24 cs = some x) : ∃ p : VoiceE, cs = voiceC p ∧ NumAt w p.1.1 p.1.2 ∧ p.1.2.length ≤ maxLen := by
  obtain ⟨xs, n, _, rfl, hl, hlen, hf⟩ := DataW.trod_struct Try.underlying24 h
  match xs, hlen with
  | [y0, y1, y2, y3, y4, y5], _ =>
    have h0 : DataW.trod enc Try.prog w base spare held n 22 ((cs.drop 0).take (Try.prog.cellsOf 22)) = some y0 := by simpa using hf 0 _ rfl
    obtain ⟨a0, l0, e0, r0, _, m0⟩ := open_rows (α := NumD) Try.underlying22 (show Try.prog.cellsOf 3 = 1 by kernel_rfl) (by omega) numC numC_len (fun _ => True) (fun _ _ _ h => open_num h) h0
    have h1 : DataW.trod enc Try.prog w base spare held n 3 ((cs.drop 1).take (Try.prog.cellsOf 3)) = some y1 := by simpa using hf 1 _ rfl
    obtain ⟨a1, e1, _, _⟩ := DataW.trod_int Try.underlying3 h1
    have h2 : DataW.trod enc Try.prog w base spare held n 4 ((cs.drop 2).take (Try.prog.cellsOf 4)) = some y2 := by simpa using hf 2 _ rfl
    obtain ⟨a2, e2, _⟩ := DataW.trod_bool Try.underlying4 h2
    have h3 : DataW.trod enc Try.prog w base spare held n 3 ((cs.drop 3).take (Try.prog.cellsOf 3)) = some y3 := by simpa using hf 3 _ rfl
    obtain ⟨a3, e3, _, _⟩ := DataW.trod_int Try.underlying3 h3
    have h4 : DataW.trod enc Try.prog w base spare held n 3 ((cs.drop 4).take (Try.prog.cellsOf 3)) = some y4 := by simpa using hf 4 _ rfl
    obtain ⟨a4, e4, _, _⟩ := DataW.trod_int Try.underlying3 h4
    have h5 : DataW.trod enc Try.prog w base spare held n 3 ((cs.drop 5).take (Try.prog.cellsOf 3)) = some y5 := by simpa using hf 5 _ rfl
    obtain ⟨a5, e5, _, _⟩ := DataW.trod_int Try.underlying3 h5
    rw [show Try.prog.cellsOf 24 = 6 by kernel_rfl] at hl
    match cs, hl with
    | [c0, c1, c2, c3, c4, c5], _ =>
      simp [show Try.prog.cellsOf 3 = 1 by kernel_rfl, show Try.prog.cellsOf 4 = 1 by kernel_rfl, show Try.prog.cellsOf 22 = 1 by kernel_rfl] at e0 e1 e2 e3 e4 e5
      subst e0 e1 e2 e3 e4 e5
      exact ⟨((c0, l0), a1, a2, a3, a4, a5), rfl, r0, m0⟩

theorem open_voiceV {v : Value} {d : DataW H} {ps : List MemPlace} {r : Reach} {b0 : Nat} (hval : Value.okWide Try.prog w r b0 24 v) (hd : DataW.Trod enc Try.prog w base spare held 24 v d ps) : ∃ p : VoiceE, v = .agg (voiceC p).toArray ∧ NumAt w p.1.1 p.1.2 ∧ p.1.2.length ≤ maxLen := by
  obtain ⟨cs, rfl, hsz⟩ := okWide_struct Try.underlying24 hval
  obtain ⟨l⟩ := cs
  obtain ⟨fuel, hf⟩ := hd
  obtain ⟨p, hp, hq⟩ := open_voice hf
  refine ⟨p, ?_, hq⟩
  simp only [Value.cells] at hp
  rw [← hp]

theorem open_voiceS {v : Value} {d : DataW H} {ps : List MemPlace} {r : Reach} {b0 : Nat} (hval : Value.okWide Try.prog w r b0 31 v) (hd : DataW.Trod enc Try.prog w base spare held 31 v d ps) : ∃ l : List VoiceE, VoiceAt w v l ∧ VoiceFit l ∧ l.length ≤ maxLen := by
  obtain ⟨ao, len, cap, rfl⟩ := okWide_slice Try.underlying31 hval
  obtain ⟨fuel, hf⟩ := hd
  obtain ⟨u, l, e, hr, hq, hl⟩ := open_rows (α := VoiceE) Try.underlying31 (show Try.prog.cellsOf 24 = 6 by kernel_rfl) (by omega) voiceC voiceC_len (fun p => NumAt w p.1.1 p.1.2 ∧ p.1.2.length ≤ maxLen) (fun _ _ _ h => open_voice h) hf
  simp [Value.cells] at e
  subst e
  refine ⟨l, ⟨hr, fun p hp => (hq p hp).1⟩, fun p hp => ?_, hl⟩
  have := hq p hp
  unfold maxLen at this
  exact by omega
end

end Go.Proofs.Ytapfafibhjpkdaa
