/-
  append onto rows of their own.
-/
import Derived.Test.YtaofilinejanjaaClone18
import Derived.Maps.AppendAt
namespace Go.Proofs.Ytaofilinejanjaa
open Go.ChangeShapes Go.WideShapes Go.ChangeAt Go.RowKit

set_option maxRecDepth 100000
set_option linter.unusedVariables false

theorem info_numA : (Try.prog.info? 3).map (fun i => (i.zero, i.size, i.bytes)) = some (some (.int .i64 0), 1, 8) := by kernel_rfl
theorem ones_num (l : List NumD) : ∀ u ∈ l.flatMap numC, u.oneCell' = true := fun u hu => by
  obtain ⟨p, _, h⟩ := List.mem_flatMap.1 hu
  simp [numC] at h
  rcases h with rfl <;> rfl
theorem src_num {w : World} {ao : Option Addr} {n cap : Nat} {ps : List NumD} (h : NumAt w (.slice ao n cap) ps) : ∀ j u, (ps.flatMap numC)[j]? = some u → ∃ ad, ao = some ad ∧ w.cell? (ad.add j) = some u := fun j u hj => by
  obtain ⟨ao', cap', e, hc⟩ := h
  cases e
  obtain ⟨b, o, e2, h2⟩ := hc j u hj
  exact ⟨⟨b, o, none⟩, e2, by rw [Go.WideShapes.add_plain]; exact h2⟩
theorem one_num {w : World} {b : Nat} {p : NumD} (h : Loc w b (numC p)) : NumAt w (.slice (some ⟨b, 0, none⟩) 1 1) [p] :=
  ⟨some ⟨b, 0, none⟩, 1, rfl, fun j x hj => ⟨b, 0, rfl, by rw [Nat.zero_add]; exact h.cell j (by simpa using hj)⟩⟩
theorem nil_num (w : World) (lo hi : Nat) : NumO w lo hi (.slice none 0 0) [] := ⟨World.ownsRow_nil _ _ _ _, fun g hg => by simp [Value.ownBlock] at hg⟩
/-- append of a list onto a row of its own. -/
theorem app_num {w : World} {ops : Array Oper} {rest : List Oper} {o : Oper} {a : Act} {Q : Exit → Act → World → Prop} (hgd : o.guard = none) (s x : Operand)
    (ho : o.op = .call { callee := .builtin .append, args := #[s, x], argTypes := #[29, 29] }) {lo hi : Nat} {v : Value} {ps : List NumD} (hs : a.eval s = v) (hown : NumO w lo hi v ps)
    {ao : Option Addr} {m c : Nat} {qs : List NumD} (hx : a.eval x = .slice ao m c) (hq : NumAt w (.slice ao m c) qs) (hm : m = qs.length) (hb : ps.length + qs.length ≤ 100000000) (hlo : lo ≤ w.heap.size)
    (h : ∀ v' w', NumO w' lo w'.heap.size v' (ps ++ qs) → But lo hi w w' → wpList Try.prog ops Q rest (a.put o.dst v') w') : wpList Try.prog ops Q (o :: rest) a w := by
  subst hm
  obtain ⟨i0, hi0, hz0, hz1, hz2⟩ := info_parts info_numA
  refine wpList_append_any w hgd s x 29 ho lo 3 i0 (.int .i64 0) 1 8 Try.underlying29 hi0 hz0 hz1 hz2 rfl (by decide) v ps.length (ps.flatMap numC) hs hown.1 ao qs.length c (qs.flatMap numC) hx (by rw [flat_len 1 numC numC_len] <;> omega) (src_num hq) (ones_num qs) (by unfold maxLen; omega) (by omega) hlo ?_
  intro v' w' h1 h2
  refine h v' w' ?_ ?_
  · unfold NumO
    rw [List.length_append, List.flatMap_append]
    exact RowO.top h1
  · refine (But.refl _ _ w).grown h2 (fun g hg => .inr ?_)
    have := hown.1.lt g hg
    exact ⟨this.1, hown.2 g hg⟩
theorem cap_num {w : World} {lo hi : Nat} {ao : Option Addr} {n cap : Nat} {l : List NumD} (h : NumO w lo hi (.slice ao n cap) l) : n ≤ cap ∧ cap ≤ 9223372036854775807 := by
  rcases h.1.2 with ⟨hf, _⟩ | ⟨g, c2, cur, hf, _, _, hle, h2, _⟩
  · cases hf; omega
  · cases hf
    unfold maxLen at h2
    omega

/-- append of one onto a row of its own: it stays in its block or lies in a new one. -/
theorem app1_num {w : World} {ops : Array Oper} {rest : List Oper} {o : Oper} {a : Act} {Q : Exit → Act → World → Prop} (hgd : o.guard = none) (s x : Operand)
    (ho : o.op = .call { callee := .builtin .append, args := #[s, x], argTypes := #[29, 29] }) {lo hi : Nat} {v : Value} {ps : List NumD} (hs : a.eval s = v) (hown : NumO w lo hi v ps)
    {b : Nat} (p : NumD) (hx : a.eval x = .slice (some ⟨b, 0, none⟩) 1 1) (hL : Loc w b (numC p)) (hb : ps.length + 1 ≤ 100000000) (hlo : lo ≤ w.heap.size)
    (h : ∀ v' w', NumO w' lo w'.heap.size v' (ps ++ [p]) → But (blo v) (bhi v) w w' → (v'.ownBlock = v.ownBlock ∨ v'.ownBlock = some w.heap.size) → wpList Try.prog ops Q rest (a.put o.dst v') w') : wpList Try.prog ops Q (o :: rest) a w := by
  obtain ⟨i0, hi0, hz0, hz1, hz2⟩ := info_parts info_numA
  refine wpList_append_own_at w hgd s x 29 ho lo 3 i0 (.int .i64 0) 1 8 Try.underlying29 hi0 hz0 hz1 hz2 rfl (by decide) v ps.length (ps.flatMap numC) hs hown.1 ⟨b, 0, none⟩ 1 1 (numC p) hx (numC_len p) (news1 hL) (fun u hu => ones_num [p] u (by simpa using hu)) (by unfold maxLen; omega) (by omega) hlo ?_
  intro v' w' h1 h2 _ h4
  refine h v' w' ?_ ?_ h4
  · unfold NumO
    rw [List.length_append, List.flatMap_append]
    simpa using RowO.top h1
  · refine (But.refl _ _ w).grown h2 (fun g hg => .inr ?_)
    unfold blo bhi
    rw [hg]
    simp
theorem ap1_num {w : World} {lo hi : Nat} {u v v' : Value} {qs : List NumD} (h : NumO w lo hi u qs) (ha : Ap u v) (h4 : v'.ownBlock = v.ownBlock ∨ v'.ownBlock = some w.heap.size) : Ap u v' := fun g hg hg' => by
  rcases h4 with h4 | h4
  · exact ha g hg (by rw [← h4]; exact hg')
  · rw [h4] at hg'
    cases hg'
    have := (own_lt h.1 hg).2
    omega

theorem dropNum {w : World} {ao : Option Addr} {cap : Nat} {l : List Int} (h : NumAt w (.slice ao l.length cap) l) (k : Nat) (hk : k ≤ l.length) (hc : l.length ≤ cap) : NumAt w (.slice (if cap = k then ao else ao.map (·.add k)) (l.length - k) (cap - k)) (l.drop k) := by
  refine ⟨if cap = k then ao else ao.map (·.add k), cap - k, by rw [List.length_drop], fun j x hj => ?_⟩
  obtain ⟨y, hy, rfl⟩ : ∃ y : Int, l[k + j]? = some y ∧ x = .int .i64 y := by
    have e : ∀ q : List Int, q.flatMap numC = q.map fun y => Value.int .i64 y := fun q => by
      induction q with
      | nil => rfl
      | cons a q ih => rw [List.flatMap_cons, ih]; rfl
    rw [e, List.getElem?_map, List.getElem?_drop] at hj
    cases hh : l[k + j]? with
    | none => rw [hh] at hj; simp at hj
    | some y => rw [hh] at hj; simp at hj; exact ⟨y, rfl, hj.symm⟩
  have hjl : k + j < l.length := (List.getElem?_eq_some_iff.1 hy).1
  obtain ⟨b, o, cap', e2, c0⟩ := num_get h hy
  cases e2
  rw [if_neg (by omega)]
  exact ⟨b, o + k, by simp [Go.WideShapes.add_plain], by rw [Nat.add_assoc]; exact c0⟩
theorem takeNum {w : World} {ao : Option Addr} {cap : Nat} {l : List Int} (h : NumAt w (.slice ao l.length cap) l) (k : Nat) (hk : k ≤ l.length) : NumAt w (.slice ao k cap) (l.take k) := by
  obtain ⟨ao', cap', e, hc⟩ := h
  cases e
  refine ⟨ao, cap, by rw [List.length_take, Nat.min_eq_left hk], fun j x hx => hc j x ?_⟩
  have e : l.flatMap numC = (l.take k).flatMap numC ++ (l.drop k).flatMap numC := by rw [← List.flatMap_append, List.take_append_drop]
  rw [e, List.getElem?_append_left (List.getElem?_eq_some_iff.1 hx).1]
  exact hx
theorem slice_from (W : World) (ao : Option Addr) (n cap k : Nat) (hk : k ≤ n) : (Instr.slice 29 (.slice ao n cap) (some (.int .i64 (k : Int))) none none).run Try.prog W = .ok (.slice (if cap = k then ao else ao.map (·.add k)) (n - k) (cap - k)) W := by
  obtain ⟨i0, hi0, hz0, hz1, hz2⟩ := info_parts info_numA
  rw [run_slice_l W 29 _ _ _ Try.underlying29 .i64 (k : Int) (by omega) (by omega)]
  simp [sizeOf, typeInfo, sliced, show Try.prog.elem 29 = 3 from by kernel_rfl, hi0, hz1]
theorem own_empty (w : World) : NumO (w.alloc (.cells #[] 3)) w.heap.size (w.heap.size + 1) (.slice (some ⟨w.heap.size, 0, none⟩) 0 0) [] := ⟨own_new w 3, fun g hg => by simp [Value.ownBlock] at hg; omega⟩

end Go.Proofs.Ytaofilinejanjaa
