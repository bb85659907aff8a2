/-
  Grounds that came in, opened.
-/
import Derived.Test.YthohgehhoogpnaaGround
import Derived.Test.YthohgehhoogpnaaText
namespace Go.Proofs.Ythohgehhoogpnaa
open Go.ChangeShapes Go.WideShapes Go.ChangeAt Go.RowKit
section
open Go.Deep
variable {H : Type} {enc : TypeId × Value → H} {w : World} {base : Nat} {spare : Nat → Bool} {held : Bool}
set_option maxRecDepth 100000
theorem open_spot2 {fuel : Nat} {cs : List Value} {x : DataW H × List MemPlace} (h : DataW.trod enc Try.prog w base spare held fuel 60 cs = some x) : ∃ p : Spot2D, cs = spot2C p := by
  obtain ⟨xs, n, _, rfl, hl, hlen, hf⟩ := DataW.trod_struct Try.underlying60 h
  match xs, hlen with
  | [y0, y1], _ =>
    have h0 : DataW.trod enc Try.prog w base spare held n 3 ((cs.drop 0).take (Try.prog.cellsOf 3)) = some y0 := by simpa using hf 0 _ rfl
    obtain ⟨a0, e0, _, _⟩ := DataW.trod_int Try.underlying3 h0
    have h1 : DataW.trod enc Try.prog w base spare held n 3 ((cs.drop 1).take (Try.prog.cellsOf 3)) = some y1 := by simpa using hf 1 _ rfl
    obtain ⟨a1, e1, _, _⟩ := DataW.trod_int Try.underlying3 h1
    rw [show Try.prog.cellsOf 60 = 2 by kernel_rfl] at hl
    match cs, hl with
    | [c0, c1], _ =>
      simp [show Try.prog.cellsOf 3 = 1 by kernel_rfl] at e0 e1
      subst e0 e1
      exact ⟨(a0, a1), rfl⟩
theorem open_spot2V {v : Value} {d : DataW H} {ps : List MemPlace} {r : Reach} {b0 : Nat} (hval : Value.okWide Try.prog w r b0 60 v) (hd : DataW.Trod enc Try.prog w base spare held 60 v d ps) : ∃ p : Spot2D, v = .agg (spot2C p).toArray := by
  obtain ⟨cs, rfl, hsz⟩ := okWide_struct Try.underlying60 hval
  obtain ⟨l⟩ := cs
  obtain ⟨fuel, hf⟩ := hd
  obtain ⟨p, hp⟩ := open_spot2 hf
  refine ⟨p, ?_⟩
  simp only [Value.cells] at hp
  rw [← hp]

theorem open_nums {fuel : Nat} {cs : List Value} {x : DataW H × List MemPlace} (h : DataW.trod enc Try.prog w base spare held fuel 27 cs = some x) : ∃ r : NumsE, cs = numsC r ∧ NumAt w r.1 r.2 ∧ r.2.length ≤ maxLen := by
  obtain ⟨a, l, e, hr, _, hl⟩ := open_rows (α := NumD) Try.underlying27 (show Try.prog.cellsOf 3 = 1 by kernel_rfl) (by omega) numC numC_len (fun _ => True) (fun _ _ _ h => open_num h) h
  exact ⟨(a, l), e, hr, hl⟩
theorem open_ground {v : Value} {d : DataW H} {ps : List MemPlace} {r : Reach} {b0 : Nat} (hval : Value.okWide Try.prog w r b0 41 v) (hd : DataW.Trod enc Try.prog w base spare held 41 v d ps) : ∃ g : GroundD, GroundAt w v g ∧ GroundFit g := by
  obtain ⟨cs, rfl, hsz⟩ := okWide_struct Try.underlying41 hval
  obtain ⟨l⟩ := cs
  obtain ⟨fuel, hf⟩ := hd
  obtain ⟨xs, m, _, _, hl, hlen, hfl⟩ := DataW.trod_struct Try.underlying41 hf
  match xs, hlen with
  | [y0, y1], _ =>
    have h0 : DataW.trod enc Try.prog w base spare held m 39 ((l.drop 0).take (Try.prog.cellsOf 39)) = some y0 := by simpa [Value.cells] using hfl 0 _ rfl
    have h1 : DataW.trod enc Try.prog w base spare held m 24 ((l.drop 1).take (Try.prog.cellsOf 24)) = some y1 := by simpa [Value.cells] using hfl 1 _ rfl
    obtain ⟨a0, l0, e0, r0, _, m0⟩ := open_rows (α := Spot2D) Try.underlying39 (show Try.prog.cellsOf 60 = 2 by kernel_rfl) (by omega) spot2C spot2C_len (fun _ => True) (fun _ _ _ h => (open_spot2 h).imp fun _ e => ⟨e, trivial⟩) h0
    obtain ⟨a1, l1, e1, r1, q1, m1⟩ := open_rows (α := NumsE) Try.underlying24 (show Try.prog.cellsOf 27 = 1 by kernel_rfl) (by omega) numsC numsC_len (fun p => NumAt w p.1 p.2 ∧ p.2.length ≤ maxLen) (fun _ _ _ h => open_nums h) h1
    rw [show Try.prog.cellsOf 41 = 2 by kernel_rfl] at hl
    simp only [Value.cells] at hl
    match l, hl with
    | [c0, c1], _ =>
      simp [show Try.prog.cellsOf 39 = 1 by kernel_rfl, show Try.prog.cellsOf 24 = 1 by kernel_rfl] at e0 e1
      subst e0 e1
      refine ⟨(l0, l1.map Prod.snd), ⟨c0, c1, rfl, r0, ⟨l1, ⟨r1, fun p hp => (q1 p hp).1⟩, rfl⟩⟩, ?_, ?_, ?_⟩
      · unfold maxLen at m0; exact by omega
      · unfold maxLen at m1; rw [List.length_map]; omega
      · intro p hp
        obtain ⟨z, hz, rfl⟩ := List.mem_map.1 hp
        have := (q1 z hz).2
        unfold maxLen at this
        omega
end

end Go.Proofs.Ythohgehhoogpnaa
