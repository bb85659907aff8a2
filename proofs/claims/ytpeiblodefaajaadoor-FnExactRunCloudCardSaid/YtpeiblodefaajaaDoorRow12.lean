/-
  Rows of sparks that are copied, cut and made longer.
-/
import Derived.Test.YtpeiblodefaajaaDoorRows
import Derived.Test.YtpeiblodefaajaaDoorCloud
import Derived.Laws.CopyRow
import Derived.Laws.IdiomCopy
import Derived.Laws.CopyOwn
import Derived.Deep.Slices
import Derived.WalkKit
import Derived.ProofKit
import Derived.OpenShut
import Derived.Handy
namespace Go.Proofs.YtpeiblodefaajaaDoor
open Go.ChangeShapes Go.WideShapes Go.ChangeAt Go.RowKit

set_option maxRecDepth 100000
set_option linter.unusedVariables false
theorem info_spark : (Tryd.prog.info? 66).map (fun i => (i.zero, i.size, i.bytes)) = some (some (.agg #[.int .i64 0, .int .i64 0, .int .i64 0, .int .i64 0, .int .i64 0]), 5, 40) := by kernel_rfl
theorem size_spark : (Tryd.prog.info? 66).map (·.size) = some 5 := by kernel_rfl
theorem zero_spark : ∀ w, (zeroValue 66).run Tryd.prog w = .ok (.agg #[.int .i64 0, .int .i64 0, .int .i64 0, .int .i64 0, .int .i64 0]) w := Tryd.zeroValue66
theorem one_spark (p : SparkD) : ∀ u ∈ sparkC p, u.oneCell' = true := fun u hu => by
  simp [sparkC] at hu
  rcases hu with rfl | rfl | rfl | rfl | rfl <;> rfl
theorem ones (l : List SparkD) : ∀ u ∈ l.flatMap sparkC, u.oneCell' = true := fun u hu => by
  obtain ⟨p, _, h⟩ := List.mem_flatMap.1 hu
  exact one_spark p u h
theorem news1 {W : World} {b : Nat} {cs : List Value} (h : Loc W b cs) : ∀ j u, cs[j]? = some u → W.cell? ((⟨b, 0, none⟩ : Addr).add j) = some u := fun j u hu => by
  rw [Go.WideShapes.add_plain, Nat.zero_add]
  exact h.cell j hu
theorem spark_nil (w : World) (lo hi : Nat) : SparkO w lo hi (.slice none 0 0) [] := ⟨World.ownsRow_nil _ _ _ _, fun g hg => by simp [Value.ownBlock] at hg⟩
theorem spark_form {w : World} {lo hi : Nat} {v : Value} {ps : List SparkD} (h : SparkO w lo hi v ps) (h0 : 0 < ps.length) : ∃ g cap, v = .slice (some ⟨g, 0, none⟩) ps.length cap ∧ lo ≤ g ∧ g < hi ∧ g < w.heap.size := by
  have hlt := h.1
  rcases h.1.2 with ⟨hv, hn⟩ | ⟨g, cap, cur, hv, hbs, hgg, _⟩
  · omega
  · subst hv
    have h1 := own_lt h.1 (g := g) (by simp [Value.ownBlock])
    have h2 := h.2 g (by simp [Value.ownBlock])
    exact ⟨g, cap, rfl, h1.1, h2, h1.2⟩
/-- What append onto a row of its own leaves. -/
theorem app_row {W w2 : World} {lo hi : Nat} {e : TypeId} {size : Nat} {v v' : Value} {n m : Nat} {xs ys : List Value} (ho : RowO W lo hi e size v n xs) (hown : w2.ownsRow lo e size v' m ys) (hg : W.grownBy w2 v.ownBlock) :
    RowO w2 lo w2.heap.size e size v' m ys ∧ (∀ b cs, Loc W b cs → b < lo → Loc w2 b cs) ∧ (∀ u, Kept u W → u.heap.size ≤ lo → Kept u w2) := by
  have hlo : ∀ g, v.ownBlock = some g → lo ≤ g := fun g h => (own_lt ho.1 h).1
  refine ⟨RowO.top hown, fun b cs h hb => h.grown hg (fun x => by have := hlo b x; omega), fun u hk hu => hk.grown hg (fun k h => .inl ?_)⟩
  have := hlo k h
  omega
theorem app_spark {W w2 : World} {lo hi : Nat} {v v' : Value} {n : Nat} {ps : List SparkD} {t : SparkD} (ho : SparkO W lo hi v ps) (hn : ps.length = n) (hown : w2.ownsRow lo 66 5 v' (n + 1) (ps.flatMap sparkC ++ sparkC t)) (hg : W.grownBy w2 v.ownBlock) :
    SparkO w2 lo w2.heap.size v' (ps ++ [t]) ∧ (∀ b cs, Loc W b cs → b < lo → Loc w2 b cs) ∧ (∀ u, Kept u W → u.heap.size ≤ lo → Kept u w2) := by
  subst hn
  have h := app_row ho hown hg
  refine ⟨?_, h.2⟩
  have := h.1
  unfold SparkO
  rw [List.length_append, List.flatMap_append]
  simpa using this
theorem setRow_but (w : World) (g : Nat) (c : Array Value) : But g (g + 1) w (w.setRow g c) :=
  ⟨rfl, rfl, by simp, fun b _ hb => setRow_other w g b _ (by omega)⟩
/-- copy of elements of k cells. -/
theorem run_copy_big {P : Program} (w : World) (dT sT ty elem : TypeId) (k g o dLen dCap : Nat) (a : Addr) (sLen sCap : Nat) (cur : Array Value) (t : TypeId) (cs : List Value)
    (hu : P.underlying dT = some (.slice elem)) (hs : (P.info? elem).map (·.size) = some k)
    (hg : w.heap[g]? = some (.cells cur t (0, 0))) (hn : cs.length = Nat.min sLen dLen * k)
    (hsrc : ∀ j v, cs[j]? = some v → w.cell? (a.add j) = some v) (hfit : o + cs.length ≤ cur.size) (h1 : ∀ v ∈ cs, v.oneCell' = true) :
    (Builtin.copy_ #[dT, sT] ty #[.slice (some ⟨g, o, none⟩) dLen dCap, .slice (some a) sLen sCap]).run P w =
      .ok (goInt (Nat.min sLen dLen)) (w.setRow g (cur.toList.take o ++ cs ++ cur.toList.drop (o + cs.length)).toArray) := by
  have hl := run_loadCells_list (P := P) w a cs hsrc
  have hst := run_storeCells_at P g o t cs 0 cur w hg (by simpa using hfit) h1
  cases hq : P.info? elem with
  | none => simp [hq] at hs
  | some i =>
    have hi : i.size = k := by simpa [hq] using hs
    simp [Builtin.copy_, run_underlying hu, Builtin.lenOf, Builtin.firstCells, sizeOf, typeInfo, hq, hi, ← hn, hl, hst]
theorem wpList_copy_at {P : Program} {w : World} {ops : Array Oper} {rest : List Oper} {o : Oper} {a : Act} {Q : Exit → Act → World → Prop} (hgd : o.guard = none) (d s : Operand) (dT sT : TypeId)
    (ho : o.op = .call { callee := .builtin .copy, args := #[d, s], argTypes := #[dT, sT] }) (v u : Value) (hd : a.eval d = v) (hs : a.eval s = u) {v' : Value} {w' : World}
    (hr : (Builtin.copy_ #[dT, sT] o.type #[v, u]).run P w = .ok v' w') (h : wpList P ops Q rest (a.put o.dst v') w') : wpList P ops Q (o :: rest) a w := by
  refine wpList_plain hgd fun K hK => ?_
  unfold Oper.wp
  simp [execOp, ho, resolve, invoke, builtin, hd, hs, hr, Result.andThen]
  exact hK _ _ h
/-- clear of elements of several cells: their number counts alone. -/
theorem run_clear_rows {P : Program} (w : World) (t e ty : TypeId) (z : Value) (ht : P.underlying t = some (.slice e)) (hv : ∀ w, (zeroValue e).run P w = .ok z w) (g o m c : Nat) (cur : Array Value) (hcur : w.heap[g]? = some (.cells cur e (0, 0)))
    (h1 : ∀ v ∈ z.cells.toList, v.oneCell' = true) (hz : 0 < z.cells.size) (hm : 0 < m) (hfit : o + m * z.cells.size ≤ cur.size) :
    ∃ Z : List Value, Z.length = m * z.cells.size ∧ (Builtin.clear_ #[t] ty #[.slice (some ⟨g, o, none⟩) m c]).run P w = .ok (.tuple #[]) (w.setRow g (cur.toList.take o ++ Z ++ cur.toList.drop (o + Z.length)).toArray) := by
  obtain ⟨m, rfl⟩ : ∃ k, m = k + 1 := ⟨m - 1, by omega⟩
  obtain ⟨Z, hzc⟩ : ∃ Z, (Builtin.zeroCells z.cells (m + 1)).toList = Z := ⟨_, rfl⟩
  refine ⟨Z, by rw [← hzc]; simp [Builtin.zeroCells], ?_⟩
  have hZ : ∀ v ∈ (Builtin.zeroCells z.cells (m + 1)).toList, v.oneCell' = true := fun v hv => by
    simp [Builtin.zeroCells] at hv
    obtain ⟨i, _, rfl⟩ := hv
    have hi : i % z.cells.size < z.cells.size := Nat.mod_lt _ hz
    rw [getElem!_pos z.cells _ hi]
    exact h1 _ (by simp)
  have hst := run_storeCells_at P g o e (Builtin.zeroCells z.cells (m + 1)).toList 0 cur w hcur (by simpa [Builtin.zeroCells] using hfit) hZ
  simp only [Nat.add_zero, hzc] at hst
  simp [Builtin.clear_, run_underlying ht, hv, hzc, hst]
theorem flat_take (l : List SparkD) (i : Nat) : (l.take i).flatMap sparkC = (l.flatMap sparkC).take (i * 5) := by
  induction l generalizing i with
  | nil => simp
  | cons a l ih =>
    cases i with
    | zero => simp
    | succ i =>
      simp only [List.take_succ_cons, List.flatMap_cons]
      rw [ih, show (i + 1) * 5 = (sparkC a).length + i * 5 by rw [sparkC_len]; omega, List.take_length_add_append]
/-- A row cut short, what lies behind it turned. -/
theorem spark_cut {w : World} {lo hi g cap n i : Nat} {R : List SparkD} {cur : Array Value} {Z : List Value} (h : SparkO w lo hi (.slice (some ⟨g, 0, none⟩) n cap) R) (hn : n = R.length) (hi' : i ≤ n) (hg : w.heap[g]? = some (.cells cur 66 (0, 0))) (hZ : i * 5 + Z.length ≤ cur.size) :
    SparkO (w.setRow g (cur.toList.take (i * 5) ++ Z ++ cur.toList.drop (i * 5 + Z.length)).toArray) lo hi (.slice (some ⟨g, 0, none⟩) i cap) (R.take i) := by
  have hl : (R.take i).length = i := by rw [List.length_take]; omega
  rcases h.1.2 with ⟨hv, _⟩ | ⟨g', cap', cur', hv, hb, hg', hnc, hcm, hsz, htk⟩
  · cases hv
  · cases hv
    rw [hg] at hg'
    cases hg'
    unfold SparkO
    rw [hl]
    have hlt : (cur.toList.take (i * 5)).length = i * 5 := by simp; omega
    refine ⟨⟨by rw [flat_len 5 sparkC sparkC_len, hl], .inr ⟨g, cap, _, rfl, hb, setRow_heap w g cur _ 66 _ hg, by omega, hcm, ?_, ?_⟩⟩, h.2⟩
    · rw [← hsz]
      simp only [List.size_toArray, List.length_append, List.length_drop, Array.length_toList, hlt]
      omega
    · rw [flat_take, ← htk, List.take_take, Nat.min_eq_left (by omega), List.append_assoc]
      rw [List.take_append_of_le_length (by omega), List.take_of_length_le (by omega)]
theorem spark_block {w : World} {lo hi g cap n : Nat} {R : List SparkD} (h : SparkO w lo hi (.slice (some ⟨g, 0, none⟩) n cap) R) : ∃ cur : Array Value, w.heap[g]? = some (.cells cur 66 (0, 0)) ∧ cur.size = cap * 5 ∧ n ≤ cap ∧ n = R.length ∧ lo ≤ g ∧ g < hi ∧ cap ≤ maxLen := by
  have hh := h.2 g (by simp [Value.ownBlock])
  rcases h.1.2 with ⟨hv, _⟩ | ⟨g', cap', cur', hv, hb, hg', hnc, hcm, hsz, htk⟩
  · cases hv
  · cases hv
    exact ⟨cur', hg', hsz, hnc, rfl, hb, hh, hcm⟩
/-- A whole row laid over one that was made. -/
theorem spark_laid {w : World} {lo hi g n : Nat} {R l : List SparkD} {cur : Array Value} (h : SparkO w lo hi (.slice (some ⟨g, 0, none⟩) n n) R) (hg : w.heap[g]? = some (.cells cur 66 (0, 0))) (hl : l.length = n) :
    SparkO (w.setRow g (cur.toList.take 0 ++ l.flatMap sparkC ++ cur.toList.drop (0 + (l.flatMap sparkC).length)).toArray) lo hi (.slice (some ⟨g, 0, none⟩) n n) l := by
  rcases h.1.2 with ⟨hv, _⟩ | ⟨g', cap', cur', hv, hb, hg', hnc, hcm, hsz, htk⟩
  · cases hv
  · cases hv
    rw [hg] at hg'
    cases hg'
    have hf : (l.flatMap sparkC).length = cur.size := by rw [flat_len 5 sparkC sparkC_len, hsz, hl]
    unfold SparkO
    rw [hl]
    refine ⟨⟨by rw [flat_len 5 sparkC sparkC_len, hl], .inr ⟨g, _, _, rfl, hb, setRow_heap w g cur _ 66 _ hg, Nat.le_refl _, hcm, ?_, ?_⟩⟩, h.2⟩
    · simp only [List.size_toArray, List.length_append, List.length_drop, Array.length_toList, List.take_zero, List.length_nil, hf]
      omega
    · simp only [List.take_zero, List.nil_append]
      rw [List.drop_of_length_le (by rw [hf]; simp), List.append_nil, List.take_of_length_le (by rw [hf, hsz]; exact Nat.le_refl _)]

end Go.Proofs.YtpeiblodefaajaaDoor
