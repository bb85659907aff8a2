/-
  Rules that came in, opened.
-/
import Derived.Test.YtopakblckajdmaaText
import Derived.Test.YtopakblckajdmaaRules
namespace Go.Proofs.Ytopakblckajdmaa
open Go.ChangeShapes Go.WideShapes Go.ChangeAt Go.RowKit
open Go.Deep
section
variable {H : Type} {enc : TypeId × Value → H} {w : World} {base : Nat} {spare : Nat → Bool} {held : Bool}
set_option maxRecDepth 100000

theorem open_nums {fuel : Nat} {cs : List Value} {x : DataW H × List MemPlace} (h : DataW.trod enc Try.prog w base spare held fuel 26 cs = some x) : ∃ r : NumsE, cs = numsC r ∧ NumAt w r.1 r.2 ∧ r.2.length ≤ maxLen := by
  obtain ⟨a, l, e, hr, _, hl⟩ := open_rows (α := NumD) Try.underlying26 (show Try.prog.cellsOf 3 = 1 by kernel_rfl) (by omega) numC numC_len (fun _ => True) (fun _ _ _ h => open_num h) h
  exact ⟨(a, l), e, hr, hl⟩
theorem open_LL {fuel : Nat} {cs : List Value} {x : DataW H × List MemPlace} (h : DataW.trod enc Try.prog w base spare held fuel 23 cs = some x) : ∃ v fs, cs = [v] ∧ LLAt w v fs ∧ fs.length ≤ 9223372036854775807 ∧ LLFit fs := by
  obtain ⟨a1, l1, e1, r1, q1, m1⟩ := open_rows (α := NumsE) Try.underlying23 (show Try.prog.cellsOf 26 = 1 by kernel_rfl) (by omega) numsC numsC_len (fun p => NumAt w p.1 p.2 ∧ p.2.length ≤ maxLen) (fun _ _ _ h => open_nums h) h
  refine ⟨a1, l1.map Prod.snd, e1, ⟨l1, ⟨r1, fun p hp => (q1 p hp).1⟩, rfl⟩, ?_, ?_⟩
  · unfold maxLen at m1; rw [List.length_map]; omega
  · intro p hp
    obtain ⟨z, hz, rfl⟩ := List.mem_map.1 hp
    have := (q1 z hz).2
    unfold maxLen at this
    omega
theorem open_rules {v : Value} {d : DataW H} {ps : List MemPlace} {r : Reach} {b0 : Nat} (hval : Value.okWide Try.prog w r b0 38 v) (hd : DataW.Trod enc Try.prog w base spare held 38 v d ps) : ∃ c : RulesD, RulesAt w v c ∧ RulesFit c := by
  obtain ⟨cs, rfl, hsz⟩ := okWide_struct Try.underlying38 hval
  rw [show Try.prog.cellsOf 38 = 3 by kernel_rfl] at hsz
  obtain ⟨l⟩ := cs
  obtain ⟨fuel, hf⟩ := hd
  obtain ⟨xs, m, _, _, hl, hlen, hf⟩ := DataW.trod_struct Try.underlying38 hf
  match xs, hlen with
  | [y0, y1, y2], _ =>
    have h0 : DataW.trod enc Try.prog w base spare held m 3 (((Value.agg ⟨l⟩).cells.toList.drop 0).take (Try.prog.cellsOf 3)) = some y0 := by simpa using hf 0 _ rfl
    have h1 : DataW.trod enc Try.prog w base spare held m 23 (((Value.agg ⟨l⟩).cells.toList.drop 1).take (Try.prog.cellsOf 23)) = some y1 := by simpa using hf 1 _ rfl
    have h2 : DataW.trod enc Try.prog w base spare held m 23 (((Value.agg ⟨l⟩).cells.toList.drop 2).take (Try.prog.cellsOf 23)) = some y2 := by simpa using hf 2 _ rfl
    obtain ⟨a, e0, _, _⟩ := DataW.trod_int Try.underlying3 h0
    obtain ⟨b, fs, e1, r1, m1, q1⟩ := open_LL h1
    obtain ⟨b', gs, e2, r2, m2, q2⟩ := open_LL h2
    match l, hsz with
    | [c0, c1, c2], _ =>
      simp [Value.cells, show Try.prog.cellsOf 3 = 1 by kernel_rfl, show Try.prog.cellsOf 23 = 1 by kernel_rfl] at e0 e1 e2
      subst e0 e1 e2
      exact ⟨(a, fs, gs), ⟨_, _, rfl, r1, r2⟩, m1, q1, m2, q2⟩
end

end Go.Proofs.Ytopakblckajdmaa
