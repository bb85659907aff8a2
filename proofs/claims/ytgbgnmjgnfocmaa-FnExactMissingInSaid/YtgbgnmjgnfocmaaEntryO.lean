/-
  Entries that came in, opened.
-/
import Derived.Test.YtgbgnmjgnfocmaaEntryF
import Derived.Test.YtgbgnmjgnfocmaaText
namespace Go.Proofs.Ytgbgnmjgnfocmaa
open Go.ChangeShapes Go.WideShapes Go.ChangeAt Go.RowKit
section
open Go.Deep
variable {H : Type} {enc : TypeId × Value → H} {w : World} {base : Nat} {spare : Nat → Bool} {held : Bool}
set_option maxRecDepth 100000
theorem open_entry {fuel : Nat} {cs : List Value} {x : DataW H × List MemPlace} (h : DataW.trod enc Try.prog w base spare held fuel 36 cs = some x) : ∃ p : EntryE, cs = entryC p ∧ TxtAt w p.2.1.1 p.2.1.2 ∧ (p.2.1.2.length ≤ maxLen ∧ ∀ q ∈ p.2.1.2, q.size ≤ maxLen) ∧ p.1.size ≤ maxLen := by
  obtain ⟨xs, n, _, rfl, hl, hlen, hf⟩ := DataW.trod_struct Try.underlying36 h
  match xs, hlen with
  | [y0, y1, y2], _ =>
    have h0 : DataW.trod enc Try.prog w base spare held n 9 ((cs.drop 0).take (Try.prog.cellsOf 9)) = some y0 := by simpa using hf 0 _ rfl
    obtain ⟨a0, e0, _, s0⟩ := DataW.trod_string Try.underlying9 h0
    have h1 : DataW.trod enc Try.prog w base spare held n 24 ((cs.drop 1).take (Try.prog.cellsOf 24)) = some y1 := by simpa using hf 1 _ rfl
    obtain ⟨a1, l1, e1, r1, q1, m1⟩ := open_rows (α := TxtD) Try.underlying24 (show Try.prog.cellsOf 9 = 1 by kernel_rfl) (by omega) txtC txtC_len (fun q => q.size ≤ maxLen) (fun _ _ _ h => open_txt h) h1
    have h2 : DataW.trod enc Try.prog w base spare held n 4 ((cs.drop 2).take (Try.prog.cellsOf 4)) = some y2 := by simpa using hf 2 _ rfl
    obtain ⟨a2, e2, _⟩ := DataW.trod_bool Try.underlying4 h2
    rw [show Try.prog.cellsOf 36 = 3 by kernel_rfl] at hl
    match cs, hl with
    | [c0, c1, c2], _ =>
      simp [show Try.prog.cellsOf 4 = 1 by kernel_rfl, show Try.prog.cellsOf 9 = 1 by kernel_rfl, show Try.prog.cellsOf 24 = 1 by kernel_rfl] at e0 e1 e2
      subst e0 e1 e2
      exact ⟨(a0, (c1, l1), a2), rfl, r1, ⟨m1, q1⟩, s0⟩

theorem open_entryV {v : Value} {d : DataW H} {ps : List MemPlace} {r : Reach} {b0 : Nat} (hval : Value.okWide Try.prog w r b0 36 v) (hd : DataW.Trod enc Try.prog w base spare held 36 v d ps) : ∃ p : EntryE, v = .agg (entryC p).toArray ∧ TxtAt w p.2.1.1 p.2.1.2 ∧ (p.2.1.2.length ≤ maxLen ∧ ∀ q ∈ p.2.1.2, q.size ≤ maxLen) ∧ p.1.size ≤ maxLen := by
  obtain ⟨cs, rfl, hsz⟩ := okWide_struct Try.underlying36 hval
  obtain ⟨l⟩ := cs
  obtain ⟨fuel, hf⟩ := hd
  obtain ⟨p, hp, hq⟩ := open_entry hf
  refine ⟨p, ?_, hq⟩
  simp only [Value.cells] at hp
  rw [← hp]

theorem open_entryS {v : Value} {d : DataW H} {ps : List MemPlace} {r : Reach} {b0 : Nat} (hval : Value.okWide Try.prog w r b0 22 v) (hd : DataW.Trod enc Try.prog w base spare held 22 v d ps) : ∃ l : List EntryE, EntryAt w v l ∧ EntryFit l ∧ l.length ≤ maxLen := by
  obtain ⟨ao, len, cap, rfl⟩ := okWide_slice Try.underlying22 hval
  obtain ⟨fuel, hf⟩ := hd
  obtain ⟨u, l, e, hr, hq, hl⟩ := open_rows (α := EntryE) Try.underlying22 (show Try.prog.cellsOf 36 = 3 by kernel_rfl) (by omega) entryC entryC_len (fun p => TxtAt w p.2.1.1 p.2.1.2 ∧ (p.2.1.2.length ≤ maxLen ∧ ∀ q ∈ p.2.1.2, q.size ≤ maxLen) ∧ p.1.size ≤ maxLen) (fun _ _ _ h => open_entry h) hf
  simp [Value.cells] at e
  subst e
  refine ⟨l, ⟨hr, fun p hp => (hq p hp).1⟩, fun p hp => ?_, hl⟩
  have := hq p hp
  simp only [maxLen] at this
  exact ⟨by omega, ⟨by omega, fun q hq => by have := this.2.1.2 q hq; omega⟩⟩
end

end Go.Proofs.Ytgbgnmjgnfocmaa
