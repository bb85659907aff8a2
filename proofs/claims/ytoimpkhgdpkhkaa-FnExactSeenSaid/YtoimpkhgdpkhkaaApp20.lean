/-
  append onto rows of their own.
-/
import Derived.Test.YtoimpkhgdpkhkaaClone20
import Derived.Maps.AppendAt
namespace Go.Proofs.Ytoimpkhgdpkhkaa
open Go.ChangeShapes Go.WideShapes Go.ChangeAt Go.RowKit

set_option maxRecDepth 100000
set_option linter.unusedVariables false

theorem info_numA : (Try.prog.info? 3).map (fun i => (i.zero, i.size, i.bytes)) = some (some (.int .i64 0), 1, 8) := by kernel_rfl
theorem ones_num (l : List NumD) : ∀ u ∈ l.flatMap numC, u.oneCell' = true := fun u hu => by
  obtain ⟨p, _, h⟩ := List.mem_flatMap.1 hu
  simp [numC] at h
  rcases h with rfl <;> rfl
theorem src_num {w : World} {ao : Option Addr} {n cap : Nat} {ps : List NumD} (h : NumAt w (.slice ao n cap) ps) : ∀ j u, (ps.flatMap numC)[j]? = some u → ∃ ad, ao = some ad ∧ w.cell? (ad.add j) = some u := fun j u hj => by
  obtain ⟨ao', cap', e, hc⟩ := h
  cases e
  obtain ⟨b, o, e2, h2⟩ := hc j u hj
  exact ⟨⟨b, o, none⟩, e2, by rw [Go.WideShapes.add_plain]; exact h2⟩
theorem one_num {w : World} {b : Nat} {p : NumD} (h : Loc w b (numC p)) : NumAt w (.slice (some ⟨b, 0, none⟩) 1 1) [p] :=
  ⟨some ⟨b, 0, none⟩, 1, rfl, fun j x hj => ⟨b, 0, rfl, by rw [Nat.zero_add]; exact h.cell j (by simpa using hj)⟩⟩
theorem nil_num (w : World) (lo hi : Nat) : NumO w lo hi (.slice none 0 0) [] := ⟨World.ownsRow_nil _ _ _ _, fun g hg => by simp [Value.ownBlock] at hg⟩
/-- append of a list onto a row of its own. -/
theorem app_num {w : World} {ops : Array Oper} {rest : List Oper} {o : Oper} {a : Act} {Q : Exit → Act → World → Prop} (hgd : o.guard = none) (s x : Operand)
    (ho : o.op = .call { callee := .builtin .append, args := #[s, x], argTypes := #[34, 34] }) {lo hi : Nat} {v : Value} {ps : List NumD} (hs : a.eval s = v) (hown : NumO w lo hi v ps)
    {ao : Option Addr} {m c : Nat} {qs : List NumD} (hx : a.eval x = .slice ao m c) (hq : NumAt w (.slice ao m c) qs) (hm : m = qs.length) (hb : ps.length + qs.length ≤ 100000000) (hlo : lo ≤ w.heap.size)
    (h : ∀ v' w', NumO w' lo w'.heap.size v' (ps ++ qs) → But lo hi w w' → wpList Try.prog ops Q rest (a.put o.dst v') w') : wpList Try.prog ops Q (o :: rest) a w := by
  subst hm
  obtain ⟨i0, hi0, hz0, hz1, hz2⟩ := info_parts info_numA
  refine wpList_append_any w hgd s x 34 ho lo 3 i0 (.int .i64 0) 1 8 Try.underlying34 hi0 hz0 hz1 hz2 rfl (by decide) v ps.length (ps.flatMap numC) hs hown.1 ao qs.length c (qs.flatMap numC) hx (by rw [flat_len 1 numC numC_len] <;> omega) (src_num hq) (ones_num qs) (by unfold maxLen; omega) (by omega) hlo ?_
  intro v' w' h1 h2
  refine h v' w' ?_ ?_
  · unfold NumO
    rw [List.length_append, List.flatMap_append]
    exact RowO.top h1
  · refine (But.refl _ _ w).grown h2 (fun g hg => .inr ?_)
    have := hown.1.lt g hg
    exact ⟨this.1, hown.2 g hg⟩
theorem cap_num {w : World} {lo hi : Nat} {ao : Option Addr} {n cap : Nat} {l : List NumD} (h : NumO w lo hi (.slice ao n cap) l) : n ≤ cap ∧ cap ≤ 9223372036854775807 := by
  rcases h.1.2 with ⟨hf, _⟩ | ⟨g, c2, cur, hf, _, _, hle, h2, _⟩
  · cases hf; omega
  · cases hf
    unfold maxLen at h2
    omega


end Go.Proofs.Ytoimpkhgdpkhkaa
