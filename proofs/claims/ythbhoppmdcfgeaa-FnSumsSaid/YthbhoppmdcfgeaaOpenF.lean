/-
  A slice of floats among the arguments: what it holds when the call begins, and that it reads so again behind a call that leaves what was there as it was.
-/
import Derived.Test.YthbhoppmdcfgeaaRows
import Derived.Test.YthbhoppmdcfgeaaCopy
import Derived.Test.YthbhoppmdcfgeaaKit
import Derived.Deep.Slices
namespace Go.Proofs.Ythbhoppmdcfgeaa
open Go.ChangeShapes Go.WideShapes Go.ChangeAt Go.RowKit Go.Deep

theorem laidOut : laidOutB Try.prog = true := by kernel_rfl

def bitsOf (v : Value) : Nat := match v with
  | .float _ b => b
  | _ => 0
theorem frow_of {H : Type} {enc : TypeId × Value → H} {W : World} {base : Nat} {v0 : Value} {d0 : DataW H} {p0 : List MemPlace} (hval : Value.okWide Try.prog W .any base 23 v0)
    (h0 : DataW.Trod enc Try.prog W 0 (fun _ => true) true 23 v0 d0 p0) : ∃ ao cap xs, v0 = .slice ao xs.length cap ∧ xs.length ≤ maxLen ∧ FRow W ao xs ∧ Wide xs := by
  obtain ⟨ao, len, cap, rfl⟩ := okWide_slice Try.underlying23 hval
  obtain ⟨fuel, hf⟩ := h0
  rcases open_slice1 Try.underlying23 cells25 hf with ⟨hcs, hx⟩ | ⟨a, len', cap', m, n, V, D, Pl, hcs, _, hl, hm, hmm, hx, hcell⟩
  · simp [Value.cells] at hcs
    obtain ⟨rfl, rfl, rfl⟩ := hcs
    exact ⟨none, 0, [], rfl, by unfold maxLen; simp, fun i hi => by simp at hi, fun i hi => by simp at hi⟩
  · simp [Value.cells] at hcs
    obtain ⟨rfl, rfl, rfl⟩ := hcs
    simp only [if_true] at hmm
    have hlen : ((List.range len).map fun i => bitsOf (V i)).length = len := by simp
    have each : ∀ i, i < len → V i = .float .f64 (bitsOf (V i)) ∧ bitsOf (V i) < 18446744073709551616 ∧ W.cell? (a.add i) = some (V i) := by
      intro i hi
      obtain ⟨h1, h2⟩ := hcell i (by omega)
      obtain ⟨b, e, _, hw⟩ := trod_float Try.underlying25 h2
      simp only [List.cons.injEq, and_true] at e
      rw [e]
      exact ⟨rfl, wf64 hw, by rw [h1, e]⟩
    have hget : ∀ i, i < len → ((List.range len).map fun i => bitsOf (V i)).getD i 0 = bitsOf (V i) := by
      intro i hi
      simp [hi]
    refine ⟨some a, cap, (List.range len).map fun i => bitsOf (V i), by rw [hlen], by rw [hlen]; exact Nat.le_trans hl hm, ?_, ?_⟩
    · intro i hi
      rw [hlen] at hi
      obtain ⟨e1, _, e3⟩ := each i hi
      rw [e1] at e3
      obtain ⟨b, off, spot⟩ := a
      have hspot : spot = none := by simpa [Addr.add] using World.cell?_spot (each 0 (by omega)).2.2
      subst hspot
      refine ⟨b, off, rfl, ?_⟩
      rw [hget i hi, ← Go.WideShapes.add_plain]
      exact e3
    · intro i hi
      rw [hlen] at hi
      rw [hget i hi]
      exact (each i hi).2.1

theorem ksame {W W' : World} (h : Kept W W') {p : MemPlace} (hp : p.block < W.heap.size) : W.sameAt W' p := by
  cases p with
  | cell b o => exact World.cell?_of_block (w := W) (h.block b hp)
  | map b => exact h.block b hp
theorem kept_trod {H : Type} {enc : TypeId × Value → H} {t : TypeId} (hr : Try.prog.readableRec t = true) (hrow : t < Try.prog.types.size) {W W' : World} {sp : Nat → Bool} {v : Value} {d : DataW H} {ps : List MemPlace}
    (h : DataW.Trod enc Try.prog W 0 (fun _ => true) true t v d ps) (hg : Kept W W') (hlt : ∀ x ∈ ps, x.block < W.heap.size) (hs : ∀ x ∈ ps, sp x.block = true) : DataW.Trod enc Try.prog W' 0 sp true t v d ps :=
  WideElems.Trod_stays laidOut hr hrow h (fun x hx => ksame hg (hlt x hx)) hs

/-- A row's post where a call has left all that was there as it was, and answers plain data. -/
theorem post_of_kept {H : Type} {enc : TypeId × Value → H} {P : Program} {f : Func} {s : ChangeSpec} {apart fresh handsOn : Bool} {W W' : World} {args : Array Value} {v : Value} {ds gs : List (DataW H)} {before pa pv : List MemPlace}
    (hW : DataW.Whole enc P f.params.toList s.vars apart W args.toList ds gs before)
    (hres : ∀ (b : Nat) (sp : Nat → Bool) (hd : Bool), DataW.TrodAll enc P W' b sp hd f.resultTypes.toList (v.resultList f.resultTypes.size) (s.fn H (ds ++ gs)).results [])
    (hargs : ∀ sp : Nat → Bool, (∀ p ∈ before, sp p.block = true) → DataW.TrodAll enc P W' 0 sp true f.params.toList args.toList (s.fn H (ds ++ gs)).args pa)
    (hvars : ∀ sp : Nat → Bool, (∀ p ∈ before, sp p.block = true) → DataW.TrodVars enc P W' sp s.vars (s.fn H (ds ++ gs)).vars pv)
    (hk : Kept W W') : s.post enc P f apart fresh handsOn false W args v W' := by
  have hold : ∀ p ∈ before, (fun b => decide (b < W.heap.size)) p.block = true := fun p hp => by simpa using hW.lt p hp
  exact ⟨ds, gs, before, [], pa, pv, hW, hres _ _ _, hargs _ hold, hvars _ hold, World.keptBut_mono (fun _ hp => hp.elim) hk.1, fun h => by cases h⟩
end Go.Proofs.Ythbhoppmdcfgeaa
