/-
  A clip that came in, opened.
-/
import Derived.Test.YtpnplfngglfpoaaClip
import Derived.Test.YtpnplfngglfpoaaTrackO
import Derived.Test.YtpnplfngglfpoaaMarkO
namespace Go.Proofs.Ytpnplfngglfpoaa
open Go.ChangeShapes Go.WideShapes Go.ChangeAt Go.RowKit

open Go.Deep
section
variable {H : Type} {enc : TypeId × Value → H} {w : World} {base : Nat} {spare : Nat → Bool} {held : Bool}
set_option maxRecDepth 100000
theorem open_clip {v : Value} {d : DataW H} {ps : List MemPlace} {r : Reach} {b0 : Nat} (hval : Value.okWide Try.prog w r b0 38 v) (hd : DataW.Trod enc Try.prog w base spare held 38 v d ps) : ∃ c : ClipD, ClipAt w v c ∧ ClipFit c := by
  obtain ⟨cs, rfl, hsz⟩ := okWide_struct Try.underlying38 hval
  rw [show Try.prog.cellsOf 38 = 3 by kernel_rfl] at hsz
  obtain ⟨l⟩ := cs
  obtain ⟨fuel, hf⟩ := hd
  obtain ⟨xs, m, _, _, hl, hlen, hf⟩ := DataW.trod_struct Try.underlying38 hf
  match xs, hlen with
  | [y0, y1, y2], _ =>
    have h0 : DataW.trod enc Try.prog w base spare held m 3 (((Value.agg ⟨l⟩).cells.toList.drop 0).take (Try.prog.cellsOf 3)) = some y0 := by simpa using hf 0 _ rfl
    have h1 : DataW.trod enc Try.prog w base spare held m 35 (((Value.agg ⟨l⟩).cells.toList.drop 1).take (Try.prog.cellsOf 35)) = some y1 := by simpa using hf 1 _ rfl
    have h2 : DataW.trod enc Try.prog w base spare held m 36 (((Value.agg ⟨l⟩).cells.toList.drop 2).take (Try.prog.cellsOf 36)) = some y2 := by simpa using hf 2 _ rfl
    obtain ⟨a, e0, _, _⟩ := DataW.trod_int Try.underlying3 h0
    obtain ⟨ev, zs, e1, hr, hq, hlen⟩ := open_rows (α := TrackE) Try.underlying35 (show Try.prog.cellsOf 121 = 2 by kernel_rfl) (by omega) trackC trackC_len (fun p => KeyAt w p.2.1 p.2.2 ∧ p.2.2.length ≤ maxLen ∧ p.1.size ≤ maxLen) (fun _ _ _ h => open_track h) h1
    obtain ⟨ev2, zs2, e2, hr2, hq2, hlen2⟩ := open_rows (α := MarkD) Try.underlying36 (show Try.prog.cellsOf 123 = 2 by kernel_rfl) (by omega) markC markC_len (fun p => p.2.size ≤ maxLen) (fun _ _ _ h => open_mark h) h2
    match l, hsz with
    | [c0, c1, c2], _ =>
      simp [Value.cells, show Try.prog.cellsOf 3 = 1 by kernel_rfl, show Try.prog.cellsOf 35 = 1 by kernel_rfl, show Try.prog.cellsOf 36 = 1 by kernel_rfl] at e0 e1 e2
      subst e0 e1 e2
      refine ⟨(a, zs.map stripTrack, zs2), ⟨_, _, rfl, ⟨zs, ⟨hr, fun p hp => (hq p hp).1⟩, rfl⟩, hr2⟩, ⟨⟨?_, ?_⟩, ?_, ?_⟩⟩
      · dsimp only; unfold maxLen at hlen; simp; omega
      · intro d hd
        obtain ⟨p, hp, rfl⟩ := List.mem_map.1 hd
        have := hq p hp
        unfold maxLen at this
        exact ⟨by show p.1.size ≤ _; omega, by show p.2.2.length ≤ _; omega⟩
      · dsimp only; unfold maxLen at hlen2; omega
      · intro p hp
        have := hq2 p hp
        unfold maxLen at this
        omega
end

end Go.Proofs.Ytpnplfngglfpoaa
