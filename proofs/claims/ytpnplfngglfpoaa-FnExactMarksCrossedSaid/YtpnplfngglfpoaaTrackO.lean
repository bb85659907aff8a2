/-
  Tracks that came in, opened.
-/
import Derived.Test.YtpnplfngglfpoaaTrackF
import Derived.Test.YtpnplfngglfpoaaOpen
namespace Go.Proofs.Ytpnplfngglfpoaa
open Go.ChangeShapes Go.WideShapes Go.ChangeAt Go.RowKit
section
open Go.Deep
variable {H : Type} {enc : TypeId × Value → H} {w : World} {base : Nat} {spare : Nat → Bool} {held : Bool}
set_option maxRecDepth 100000
theorem open_track {fuel : Nat} {cs : List Value} {x : DataW H × List MemPlace} (h : DataW.trod enc Try.prog w base spare held fuel 121 cs = some x) : ∃ p : TrackE, cs = trackC p ∧ KeyAt w p.2.1 p.2.2 ∧ p.2.2.length ≤ maxLen ∧ p.1.size ≤ maxLen := by
  obtain ⟨xs, n, _, rfl, hl, hlen, hf⟩ := DataW.trod_struct Try.underlying121 h
  match xs, hlen with
  | [y0, y1], _ =>
    have h0 : DataW.trod enc Try.prog w base spare held n 9 ((cs.drop 0).take (Try.prog.cellsOf 9)) = some y0 := by simpa using hf 0 _ rfl
    obtain ⟨a0, e0, _, s0⟩ := DataW.trod_string Try.underlying9 h0
    have h1 : DataW.trod enc Try.prog w base spare held n 48 ((cs.drop 1).take (Try.prog.cellsOf 48)) = some y1 := by simpa using hf 1 _ rfl
    obtain ⟨a1, l1, e1, r1, _, m1⟩ := open_rows (α := KeyD) Try.underlying48 (show Try.prog.cellsOf 106 = 2 by kernel_rfl) (by omega) keyC keyC_len (fun _ => True) (fun _ _ _ h => ((open_key h).imp fun _ e => ⟨e, trivial⟩)) h1
    rw [show Try.prog.cellsOf 121 = 2 by kernel_rfl] at hl
    match cs, hl with
    | [c0, c1], _ =>
      simp [show Try.prog.cellsOf 9 = 1 by kernel_rfl, show Try.prog.cellsOf 48 = 1 by kernel_rfl] at e0 e1
      subst e0 e1
      exact ⟨(a0, (c1, l1)), rfl, r1, m1, s0⟩

theorem open_trackS {v : Value} {d : DataW H} {ps : List MemPlace} {r : Reach} {b0 : Nat} (hval : Value.okWide Try.prog w r b0 35 v) (hd : DataW.Trod enc Try.prog w base spare held 35 v d ps) : ∃ l : List TrackE, TrackAt w v l ∧ TrackFit l ∧ l.length ≤ maxLen := by
  obtain ⟨ao, len, cap, rfl⟩ := okWide_slice Try.underlying35 hval
  obtain ⟨fuel, hf⟩ := hd
  obtain ⟨u, l, e, hr, hq, hl⟩ := open_rows (α := TrackE) Try.underlying35 (show Try.prog.cellsOf 121 = 2 by kernel_rfl) (by omega) trackC trackC_len (fun p => KeyAt w p.2.1 p.2.2 ∧ p.2.2.length ≤ maxLen ∧ p.1.size ≤ maxLen) (fun _ _ _ h => open_track h) hf
  simp [Value.cells] at e
  subst e
  refine ⟨l, ⟨hr, fun p hp => (hq p hp).1⟩, fun p hp => ?_, hl⟩
  have := hq p hp
  unfold maxLen at this
  exact ⟨by omega, by omega⟩
end

end Go.Proofs.Ytpnplfngglfpoaa
