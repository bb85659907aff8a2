/-
  append onto rows of their own.
-/
import Derived.Test.YtaadlhcpgjibeaaByt
import Derived.Test.YtaadlhcpgjibeaaSplit23
import Derived.Deep.Slices
import Derived.Lib.AppendZeros
import Derived.Maps.AppendAt
namespace Go.Proofs.Ytaadlhcpgjibeaa
open Go.ChangeShapes Go.WideShapes Go.ChangeAt Go.RowKit

set_option maxRecDepth 100000
set_option linter.unusedVariables false
set_option linter.unusedSimpArgs false
theorem run_append_none {P : Program} (w : World) (t ty e : TypeId) (i : TypeInfo) (ht : P.underlying t = some (.slice e)) (hi : P.info? e = some i) (ao : Option Addr) (n cap c : Nat) (hn : n ≤ cap) :
    (Builtin.append_ #[t, t] ty #[.slice ao n cap, .slice none 0 c]).run P w = .ok (.slice ao n cap) w := by
  cases ao <;> simp [Builtin.append_, run_underlying ht, sizeOf, typeInfo, hi, Builtin.lenOf, Builtin.firstCells, loadCells, hn, storeCells]

theorem row_none {w : World} {n cap : Nat} {xs : List Value} (h : RowAt w (.slice none n cap) n xs) : xs = [] := by
  obtain ⟨ao, cap', e, hc⟩ := h
  cases e
  cases xs with
  | nil => rfl
  | cons x xs => obtain ⟨b, o, e, _⟩ := hc 0 x rfl; cases e
theorem wpList_append_any {P : Program} (w : World) {ops : Array Oper} {rest : List Oper} {o : Oper} {a : Act} {Q : Exit → Act → World → Prop} (hgd : o.guard = none) (s x : Operand) (t : TypeId)
    (ho : o.op = .call { callee := .builtin .append, args := #[s, x], argTypes := #[t, t] })
    (base : Nat) (e : TypeId) (i : TypeInfo) (z : Value) (size bytes : Nat) (ht : P.underlying t = some (.slice e)) (hi : P.info? e = some i) (hz : i.zero = some z)
    (hsize : i.size = size) (hby : i.bytes = bytes) (hzs : z.cells.size = size) (hsz : 0 < size)
    (v : Value) (n : Nat) (xs : List Value) (hs : a.eval s = v) (hown : w.ownsRow base e size v n xs)
    (ao : Option Addr) (m c : Nat) (news : List Value) (hx : a.eval x = .slice ao m c) (hl : news.length = m * size) (hnews : ∀ j u, news[j]? = some u → ∃ ad, ao = some ad ∧ w.cell? (ad.add j) = some u) (h1 : ∀ u ∈ news, u.oneCell' = true)
    (h63 : n + m ≤ maxLen) (hbytes : (n + m) * bytes ≤ 140737488355328) (hbase : base ≤ w.heap.size)
    (h : ∀ v' w', w'.ownsRow base e size v' (n + m) (xs ++ news) → w.grownBy w' v.ownBlock → wpList P ops Q rest (a.put o.dst v') w') : wpList P ops Q (o :: rest) a w := by
  cases ao with
  | some ad =>
    refine wpList_append_own w hgd s x t ho base e i z size bytes ht hi hz hsize hby hzs hsz v n xs hs hown ad m c news hx hl (fun j u hu => ?_) h1 h63 hbytes hbase (fun v' w' h2 h3 _ => h v' w' h2 h3)
    obtain ⟨ad', e1, h2⟩ := hnews j u hu
    cases e1
    exact h2
  | none =>
    have hm : news = [] := by
      cases news with
      | nil => rfl
      | cons y l => obtain ⟨ad, e1, _⟩ := hnews 0 y rfl; cases e1
    subst hm
    obtain rfl : m = 0 := by
      rcases Nat.eq_zero_or_pos m with h0 | h0
      · exact h0
      · have := Nat.mul_pos h0 hsz
        simp at hl
        omega
    obtain ⟨ao', cap', hf, _⟩ := own_form hown
    have hcap : n ≤ cap' := by
      rcases hown.2 with ⟨hv, h0⟩ | ⟨g', c', cur, hv, _, _, hnc, _⟩
      · omega
      · rw [hf] at hv; cases hv; exact hnc
    have h2 := h v w (by simpa using hown) (World.grownBy.refl _ _)
    subst hf
    exact Lib.wpList_append_run w hgd s x t t ho _ _ hs hx _ _ (run_append_none w t o.type e i ht hi ao' n cap' c hcap) h2

theorem forgetL {P : Program} {ops : Array Oper} {Q : Exit → Act → World → Prop} {L : List Oper} {a : Act} {W : World} (F : World → Prop) (hF : F W) (h : ∀ W', F W' → wpList P ops Q L a W') : wpList P ops Q L a W := h W hF
theorem forgetT {K : Act → World → Prop} {Q : Exit → Act → World → Prop} {a : Act} {W : World} (F : World → Prop) (hF : F W) (h : ∀ W', F W' → Exit.then K Q Exit.normal a W') : Exit.then K Q Exit.normal a W := h W hF
theorem news1 {W : World} {b : Nat} {cs : List Value} (h : Loc W b cs) : ∀ j u, cs[j]? = some u → W.cell? ((⟨b, 0, none⟩ : Addr).add j) = some u := fun j u hu => by
  rw [Go.WideShapes.add_plain, Nat.zero_add]
  exact h.cell j hu
theorem own_new (w : World) (t : TypeId) : (w.alloc (.cells #[] t)).ownsRow w.heap.size t 1 (.slice (some ⟨w.heap.size, 0, none⟩) 0 0) 0 [] := ⟨rfl, Or.inr ⟨w.heap.size, 0, #[], rfl, Nat.le_refl _, heap_alloc_new w _, Nat.le_refl _, Nat.zero_le _, rfl, rfl⟩⟩

theorem info_bytA : (Try.prog.info? 5).map (fun i => (i.zero, i.size, i.bytes)) = some (some (.int .u8 0), 1, 1) := by kernel_rfl
theorem ones_byt (l : List BytD) : ∀ u ∈ l.flatMap bytC, u.oneCell' = true := fun u hu => by
  obtain ⟨p, _, h⟩ := List.mem_flatMap.1 hu
  simp [bytC] at h
  rcases h with rfl <;> rfl
theorem src_byt {w : World} {ao : Option Addr} {n cap : Nat} {ps : List BytD} (h : BytAt w (.slice ao n cap) ps) : ∀ j u, (ps.flatMap bytC)[j]? = some u → ∃ ad, ao = some ad ∧ w.cell? (ad.add j) = some u := fun j u hj => by
  obtain ⟨ao', cap', e, hc⟩ := h
  cases e
  obtain ⟨b, o, e2, h2⟩ := hc j u hj
  exact ⟨⟨b, o, none⟩, e2, by rw [Go.WideShapes.add_plain]; exact h2⟩
theorem one_byt {w : World} {b : Nat} {p : BytD} (h : Loc w b (bytC p)) : BytAt w (.slice (some ⟨b, 0, none⟩) 1 1) [p] :=
  ⟨some ⟨b, 0, none⟩, 1, rfl, fun j x hj => ⟨b, 0, rfl, by rw [Nat.zero_add]; exact h.cell j (by simpa using hj)⟩⟩
theorem nil_byt (w : World) (lo hi : Nat) : BytO w lo hi (.slice none 0 0) [] := ⟨World.ownsRow_nil _ _ _ _, fun g hg => by simp [Value.ownBlock] at hg⟩
/-- append of a list onto a row of its own. -/
theorem app_byt {w : World} {ops : Array Oper} {rest : List Oper} {o : Oper} {a : Act} {Q : Exit → Act → World → Prop} (hgd : o.guard = none) (s x : Operand)
    (ho : o.op = .call { callee := .builtin .append, args := #[s, x], argTypes := #[22, 22] }) {lo hi : Nat} {v : Value} {ps : List BytD} (hs : a.eval s = v) (hown : BytO w lo hi v ps)
    {ao : Option Addr} {m c : Nat} {qs : List BytD} (hx : a.eval x = .slice ao m c) (hq : BytAt w (.slice ao m c) qs) (hm : m = qs.length) (hb : ps.length + qs.length ≤ 100000000) (hlo : lo ≤ w.heap.size)
    (h : ∀ v' w', BytO w' lo w'.heap.size v' (ps ++ qs) → But lo hi w w' → wpList Try.prog ops Q rest (a.put o.dst v') w') : wpList Try.prog ops Q (o :: rest) a w := by
  subst hm
  obtain ⟨i0, hi0, hz0, hz1, hz2⟩ := info_parts info_bytA
  refine wpList_append_any w hgd s x 22 ho lo 5 i0 (.int .u8 0) 1 1 Try.underlying22 hi0 hz0 hz1 hz2 rfl (by decide) v ps.length (ps.flatMap bytC) hs hown.1 ao qs.length c (qs.flatMap bytC) hx (by rw [flat_len 1 bytC bytC_len] <;> omega) (src_byt hq) (ones_byt qs) (by unfold maxLen; omega) (by omega) hlo ?_
  intro v' w' h1 h2
  refine h v' w' ?_ ?_
  · unfold BytO
    rw [List.length_append, List.flatMap_append]
    exact RowO.top h1
  · refine (But.refl _ _ w).grown h2 (fun g hg => .inr ?_)
    have := hown.1.lt g hg
    exact ⟨this.1, hown.2 g hg⟩
theorem cap_byt {w : World} {lo hi : Nat} {ao : Option Addr} {n cap : Nat} {l : List BytD} (h : BytO w lo hi (.slice ao n cap) l) : n ≤ cap ∧ cap ≤ 9223372036854775807 := by
  rcases h.1.2 with ⟨hf, _⟩ | ⟨g, c2, cur, hf, _, _, hle, h2, _⟩
  · cases hf; omega
  · cases hf
    unfold maxLen at h2
    omega

/-- append of one onto a row of its own: it stays in its block or lies in a new one. -/
theorem app1_byt {w : World} {ops : Array Oper} {rest : List Oper} {o : Oper} {a : Act} {Q : Exit → Act → World → Prop} (hgd : o.guard = none) (s x : Operand)
    (ho : o.op = .call { callee := .builtin .append, args := #[s, x], argTypes := #[22, 22] }) {lo hi : Nat} {v : Value} {ps : List BytD} (hs : a.eval s = v) (hown : BytO w lo hi v ps)
    {b : Nat} (p : BytD) (hx : a.eval x = .slice (some ⟨b, 0, none⟩) 1 1) (hL : Loc w b (bytC p)) (hb : ps.length + 1 ≤ 100000000) (hlo : lo ≤ w.heap.size)
    (h : ∀ v' w', BytO w' lo w'.heap.size v' (ps ++ [p]) → But (blo v) (bhi v) w w' → (v'.ownBlock = v.ownBlock ∨ v'.ownBlock = some w.heap.size) → wpList Try.prog ops Q rest (a.put o.dst v') w') : wpList Try.prog ops Q (o :: rest) a w := by
  obtain ⟨i0, hi0, hz0, hz1, hz2⟩ := info_parts info_bytA
  refine wpList_append_own_at w hgd s x 22 ho lo 5 i0 (.int .u8 0) 1 1 Try.underlying22 hi0 hz0 hz1 hz2 rfl (by decide) v ps.length (ps.flatMap bytC) hs hown.1 ⟨b, 0, none⟩ 1 1 (bytC p) hx (bytC_len p) (news1 hL) (fun u hu => ones_byt [p] u (by simpa using hu)) (by unfold maxLen; omega) (by omega) hlo ?_
  intro v' w' h1 h2 _ h4
  refine h v' w' ?_ ?_ h4
  · unfold BytO
    rw [List.length_append, List.flatMap_append]
    simpa using RowO.top h1
  · refine (But.refl _ _ w).grown h2 (fun g hg => .inr ?_)
    unfold blo bhi
    rw [hg]
    simp
theorem ap1_byt {w : World} {lo hi : Nat} {u v v' : Value} {qs : List BytD} (h : BytO w lo hi u qs) (ha : Ap u v) (h4 : v'.ownBlock = v.ownBlock ∨ v'.ownBlock = some w.heap.size) : Ap u v' := fun g hg hg' => by
  rcases h4 with h4 | h4
  · exact ha g hg (by rw [← h4]; exact hg')
  · rw [h4] at hg'
    cases hg'
    have := (own_lt h.1 hg).2
    omega
theorem empty_byt (w : World) : BytO (w.alloc (.cells #[] 5)) w.heap.size (w.heap.size + 1) (.slice (some ⟨w.heap.size, 0, none⟩) 0 0) [] := ⟨⟨rfl, Or.inr ⟨w.heap.size, 0, #[], rfl, Nat.le_refl _, heap_alloc_new w _, Nat.le_refl _, Nat.zero_le _, rfl, rfl⟩⟩, fun g hg => by simp [Value.ownBlock] at hg; omega⟩

end Go.Proofs.Ytaadlhcpgjibeaa
