/-
  What slices.Insert answers for one value.
-/
import Derived.Test.YtklgjhemcofhhaaDoorDel22
import Derived.Maps.AppendAt
import Derived.Lib.Overlaps
import Derived.Lib.AppendZerosOnto
import Derived.Laws.NewBlocks
import Derived.Laws.CopyRow
import Derived.Laws.Externs
namespace Go.Proofs.YtklgjhemcofhhaaDoor
open Go.ChangeShapes Go.WideShapes Go.ChangeAt Go.RowKit

set_option maxRecDepth 100000
set_option linter.unusedVariables false
set_option linter.unusedSimpArgs false

/-- copy into a row whose block is told whole, any number of cells an element. -/
theorem run_copy_rowK {P : Program} (w : World) (dT sT ty elem : TypeId) (g o dLen dCap : Nat) (a : Addr) (sLen sCap : Nat) (cur : Array Value) (t : TypeId) (cs : List Value) (k m : Nat)
    (hu : P.underlying dT = some (.slice elem)) (hs : (P.info? elem).map (·.size) = some k)
    (hg : w.heap[g]? = some (.cells cur t (0, 0))) (hm : m = Nat.min sLen dLen) (hn : cs.length = m * k)
    (hsrc : ∀ j v, cs[j]? = some v → w.cell? (a.add j) = some v) (hfit : o + cs.length ≤ cur.size) (h1 : ∀ v ∈ cs, v.oneCell' = true) :
    (Builtin.copy_ #[dT, sT] ty #[.slice (some ⟨g, o, none⟩) dLen dCap, .slice (some a) sLen sCap]).run P w =
      .ok (goInt m) (w.setRow g (cur.toList.take o ++ cs ++ cur.toList.drop (o + cs.length)).toArray) := by
  have hl := run_loadCells_list (P := P) w a cs hsrc
  have hst := run_storeCells_at P g o t cs 0 cur w hg (by simpa using hfit) h1
  cases hq : P.info? elem with
  | none => simp [hq] at hs
  | some i =>
    have hi : i.size = k := by simpa [hq] using hs
    simp [Builtin.copy_, run_underlying hu, Builtin.lenOf, Builtin.firstCells, sizeOf, typeInfo, hq, hi, ← hm, ← hn, hl, hst]
theorem wp_copy_is {P : Program} (w : World) {o : Oper} {a : Act} {K : Act → World → Prop} {Q : Exit → Act → World → Prop} (d s : Operand) (t t' : TypeId)
    (ho : o.op = .call { callee := .builtin .copy, args := #[d, s], argTypes := #[t, t'] }) (v u : Value) (hd : a.eval d = v) (hs : a.eval s = u) {v' : Value} {w' : World}
    (hr : (Builtin.copy_ #[t, t'] o.type #[v, u]).run P w = .ok v' w') (h : K (a.put o.dst v') w') : o.wp P a w K Q := by
  unfold Oper.wp execOp
  simp only [ho, resolve, invoke, builtin, Sem.run_bind, Sem.run_pure, Result.andThen_ok, List.map_toArray, List.map_cons, List.map_nil, hd, hs, hr]
  exact h
theorem list_copy_is {P : Program} (w : World) {ops : Array Oper} {rest : List Oper} {o : Oper} {a : Act} {Q : Exit → Act → World → Prop} (hgd : o.guard = none) (d s : Operand) (t t' : TypeId)
    (ho : o.op = .call { callee := .builtin .copy, args := #[d, s], argTypes := #[t, t'] }) (v u : Value) (hd : a.eval d = v) (hs : a.eval s = u) {v' : Value} {w' : World}
    (hr : (Builtin.copy_ #[t, t'] o.type #[v, u]).run P w = .ok v' w') (h : wpList P ops Q rest (a.put o.dst v') w') : wpList P ops Q (o :: rest) a w :=
  wpList_plain hgd fun _ hK => wp_copy_is w d s t t' ho v u hd hs hr (hK _ _ h)
theorem step_copy_is {P : Program} {ops : Array Oper} {o : Oper} {a : Act} {w : World} {K : Act → World → Prop} {Q : Exit → Act → World → Prop} {E : Prop}
    (hg : o.guard = none) (d x : Operand) (dT sT : TypeId) (hop : o.op = Op.call { callee := Callee.builtin Builtin.copy, args := #[d, x], argTypes := #[dT, sT] })
    (v u : Value) (hd : a.eval d = v) (hx : a.eval x = u) {v' : Value} {w' : World} (hr : (Builtin.copy_ #[dT, sT] o.type #[v, u]).run P w = .ok v' w') (hK : K (a.put o.dst v') w') :
    if Region.wanted o (yielded ops a.tmps) = true then Oper.wp P o a w K Q else E := by
  have hw : Region.wanted o (yielded ops a.tmps) = true := by simp [Region.wanted, hg]
  rw [if_pos hw]
  unfold Oper.wp
  simp [execOp, hop, resolve, invoke, builtin, hd, hx, hr, Result.andThen]
  exact hK

set_option maxHeartbeats 4000000 in
set_option maxRecDepth 100000 in
/-- At the end. -/
theorem insertEnd (base n : Nat) (v : Value) (xs : List Value) (vb : Nat) (p : ValD) (w : World) (hown : w.ownsRow base 53 3 v n xs) (hv : Loc w vb (valC p)) (hn : n ≤ 1048576) (hbs : base ≤ w.heap.size) :
    Calls Tryd.prog 72 #[v, .int .i64 (n : Int), .slice (some ⟨vb, 0, none⟩) 1 1] w fun e w' =>
      ∃ v', e = .returned v' ∧ w'.ownsRow base 53 3 v' (n + 1) (xs ++ valC p) ∧ But (blo v) (bhi v) w w' ∧ (v'.ownBlock = v.ownBlock ∨ v'.ownBlock = some w.heap.size) := by
  obtain ⟨ao, cap, hf, hnone⟩ := own_form hown
  subst hf
  obtain ⟨i0, hi0, hz0, hz1, hz2⟩ := info_parts info53
  have hnews : ∀ j u, (valC p)[j]? = some u → w.cell? ((⟨vb, 0, none⟩ : Addr).add j) = some u := fun j u hu => by
    rw [Go.WideShapes.add_plain, Nat.zero_add]
    exact hv.cell j hu
  have h1p : ∀ u ∈ valC p, u.oneCell' = true := by
    intro u hu
    simp [valC] at hu
    rcases hu with rfl | rfl | rfl <;> rfl
  by_cases hcn : cap = n
  case' pos => subst hcn
  all_goals
    go_enter Tryd.func72, Tryd.ntmps72
    go_wp2_with (first
      | (at_builtin; refine wpList_append_own_at _ rfl _ _ 23 rfl base 53 i0 (.agg #[.string ByteArray.empty, .int .i64 0, .string ByteArray.empty]) 3 40 Tryd.underlying23 hi0 hz0 hz1 hz2 rfl (by decide) _ _ _ rfl hown ⟨vb, 0, none⟩ 1 1 (valC p) rfl rfl hnews h1p (by unfold maxLen; omega) (by omega) hbs ?_
         intro v' w1 hown' hgrow _ hob
         have HB : Hid _ := hob
         have HG : Hid _ := hgrow
         clear hob hgrow))
    go_ret
    exact ⟨_, rfl, hown', but_of_grown HG.out, HB.out⟩

theorem pc_one1 (p : ValD) : ∀ u ∈ valC p, u.oneCell' = true := by
  intro u hu
  simp [valC] at hu
  rcases hu with rfl | rfl | rfl <;> rfl
theorem sizeP (w : World) : (Go.sizeOf 53).run Tryd.prog w = .ok 3 w := by
  obtain ⟨i0, hi0, hz0, hz1, hz2⟩ := info_parts info53
  simp [sizeOf, typeInfo, hi0, hz1]
theorem loc_shape {w : World} {b : Nat} {cs : List Value} (h : Loc w b cs) : ∃ t, w.shape? b = some (t, cs.length) := by
  obtain ⟨t, e⟩ := h
  exact ⟨t, by simp [World.shape?, e]⟩

set_option maxHeartbeats 4000000 in
set_option maxRecDepth 100000 in
/-- There is room: in place. -/
theorem insertRoom (base g n cap i : Nat) (xs : List Value) (vb : Nat) (p : ValD) (w : World) (hown : w.ownsRow base 53 3 (.slice (some ⟨g, 0, none⟩) n cap) n xs) (hx1 : ∀ u ∈ xs, u.oneCell' = true) (hv : Loc w vb (valC p)) (hvg : vb ≠ g) (hi : i < n) (hroom : n + 1 ≤ cap) (hn : n ≤ 1048576) :
    Calls Tryd.prog 72 #[.slice (some ⟨g, 0, none⟩) n cap, .int .i64 (i : Int), .slice (some ⟨vb, 0, none⟩) 1 1] w fun e w' =>
      e = .returned (.slice (some ⟨g, 0, none⟩) (n + 1) cap) ∧ w'.ownsRow base 53 3 (.slice (some ⟨g, 0, none⟩) (n + 1) cap) (n + 1) (xs.take (i * 3) ++ valC p ++ xs.drop (i * 3)) ∧ But g (g + 1) w w' := by
  rcases hown.2 with ⟨hv', _⟩ | ⟨g', cap', cur, hv', hbs, hgg, hnc, hcm, hsz, htk⟩
  · cases hv'
  cases hv'
  have hcm' : cap ≤ 9223372036854775807 := hcm
  have hxl := hown.1
  obtain ⟨i0, hi0, hz0, hz1, hz2⟩ := info_parts info53
  have hinf : (Tryd.prog.info? 53).map (·.size) = some 3 := by rw [hi0]; simp [hz1]
  have hov : ∀ lb cb, (callFunc 88 #[.slice (some ⟨vb, 0, none⟩) 1 1, .slice (some ⟨g, (i + 1) * 3, none⟩) lb cb]).run Tryd.prog w = .ok (.value (.bool false)) w := fun lb cb => by
    obtain ⟨tA, hsa⟩ := loc_shape hv
    have hsb : w.shape? g = some (53, cap * 3) := by simp [World.shape?, hgg, hsz]
    rw [run_callFunc_extern Tryd.func88 (by kernel_rfl) (by kernel_rfl) (by kernel_rfl) (e := Extern.SlicesOverlaps.overlaps #[23, 23] #[4]) (by kernel_rfl),
      Lib.run_overlaps_apart w 23 4 53 Tryd.underlying23 3 sizeP ⟨vb, 0, none⟩ ⟨g, (i + 1) * 3, none⟩ 1 1 lb cb hvg tA 53 _ _ hsa hsb (by omega) (hv.frozen 0) (hv.frozen _)]
    rfl
  obtain ⟨news, hnews⟩ : ∃ news, news = xs.drop (i * 3) := ⟨_, rfl⟩
  have hlen : news.length = (n - i) * 3 := by rw [hnews, List.length_drop, hxl]; omega
  obtain ⟨C1, hC1⟩ : ∃ C1, C1 = (cur.toList.take ((i + 1) * 3) ++ news ++ cur.toList.drop ((i + 1) * 3 + news.length)).toArray := ⟨_, rfl⟩
  have hC1s : C1.size = cap * 3 := by
    rw [hC1]; simp only [List.size_toArray, List.length_append, List.length_take, List.length_drop, Array.length_toList, hlen, hsz]; omega
  obtain ⟨C2, hC2⟩ : ∃ C2, C2 = (C1.toList.take (i * 3) ++ valC p ++ C1.toList.drop (i * 3 + (valC p).length)).toArray := ⟨_, rfl⟩
  obtain ⟨W1, hW1⟩ : ∃ W1, W1 = w.drew.setRow g C1 := ⟨_, rfl⟩
  have hW1g : W1.heap[g]? = some (.cells C1 53 (0, 0)) := by rw [hW1]; exact setRow_heap w.drew g cur C1 53 _ hgg
  have hcp1 : ∀ ty dc sc, (Builtin.copy_ #[23, 23] ty #[.slice (some ⟨g, (i + 1) * 3, none⟩) (n + 1 - (i + 1)) dc, .slice (some ⟨g, i * 3, none⟩) (n + 1 - i) sc]).run Tryd.prog w.drew = .ok (goInt ((n - i : Nat) : Int)) W1 := fun ty dc sc => by
    rw [hW1, hC1]
    refine run_copy_rowK w.drew 23 23 ty 53 g ((i + 1) * 3) (n + 1 - (i + 1)) dc ⟨g, i * 3, none⟩ (n + 1 - i) sc cur 53 news 3 (n - i) Tryd.underlying23 hinf hgg (by simp only [Nat.min_def]; split <;> omega) hlen (fun j u hu => ?_) (by rw [hlen, hsz]; omega) (fun u hu => hx1 u (by rw [hnews] at hu; exact List.mem_of_mem_drop hu))
    rw [hnews, List.getElem?_drop] at hu
    rw [Go.WideShapes.add_plain]
    obtain ⟨g2, c2, e2, _, hc2, _⟩ := own_cell hown hu
    cases e2
    exact hc2
  have hvc : ∀ j u, (valC p)[j]? = some u → W1.cell? ⟨vb, j, none⟩ = some u := fun j u hu => by
    rw [hW1]
    refine (But.cell (setRow_but w.drew g C1) (a := ⟨vb, j, none⟩) (v := u) ?_ (by simp; omega))
    exact hv.cell j hu
  have hcp2 : ∀ (W : World), W.heap = W1.heap → ∀ ty dc, (Builtin.copy_ #[23, 23] ty #[.slice (some ⟨g, i * 3, none⟩) (n + 1 - i) dc, .slice (some ⟨vb, 0, none⟩) 1 1]).run Tryd.prog W = .ok (goInt 1) (W.setRow g C2) := fun W hW ty dc => by
    rw [hC2]
    refine run_copy_rowK W 23 23 ty 53 g (i * 3) _ dc ⟨vb, 0, none⟩ 1 1 C1 53 (valC p) 3 1 Tryd.underlying23 hinf (by rw [hW]; exact hW1g) (by simp only [Nat.min_def]; split <;> omega) rfl (fun j u hu => ?_) (by rw [hC1s, valC_len]; omega) (pc_one1 p)
    rw [Go.WideShapes.add_plain, Nat.zero_add]
    have := hvc j u hu
    simpa [World.cell?, hW] using this
  have HKEY : Hid (∀ (W : World), W.heap = W1.heap → W.os = w.os → W.output = w.output → (W.setRow g C2).ownsRow base 53 3 (.slice (some ⟨g, 0, none⟩) (n + 1) cap) (n + 1) (xs.take (i * 3) ++ valC p ++ xs.drop (i * 3)) ∧ But g (g + 1) w (W.setRow g C2)) := by
    intro W hW hos hout
    have l1 : (cur.toList.take ((i + 1) * 3)).length = (i + 1) * 3 := by rw [List.length_take, Array.length_toList, hsz]; omega
    have lx : xs.take (i * 3) = cur.toList.take (i * 3) := by rw [← htk, List.take_take, Nat.min_eq_left (by omega)]
    have t1 : C1.toList.take (i * 3) = xs.take (i * 3) := by
      rw [hC1, lx]
      show ((cur.toList.take ((i + 1) * 3) ++ news) ++ _).take (i * 3) = _
      rw [List.append_assoc, List.take_append_of_le_length (by rw [l1]; omega), List.take_take, Nat.min_eq_left (by omega)]
    have t2 : (C1.toList.drop (i * 3 + (valC p).length)).take ((n - i) * 3) = xs.drop (i * 3) := by
      rw [hC1, valC_len]
      show (((cur.toList.take ((i + 1) * 3) ++ news) ++ _).drop (i * 3 + 3)).take _ = _
      rw [List.append_assoc, List.drop_append_of_le_length (by rw [l1]; omega), List.drop_of_length_le (by rw [l1]; omega), List.nil_append, List.take_append_of_le_length (by rw [hlen]; exact Nat.le_refl _), List.take_of_length_le (by rw [hlen]; exact Nat.le_refl _), hnews]
    have lC : C1.toList.length = cap * 3 := by rw [Array.length_toList, hC1s]
    have l2 : (C1.toList.take (i * 3) ++ valC p).length = (i + 1) * 3 := by rw [List.length_append, List.length_take, lC, valC_len]; omega
    refine ⟨⟨by rw [List.length_append, List.length_append, List.length_take, List.length_drop, hxl, valC_len]; omega, .inr ⟨g, cap, C2, rfl, hbs, setRow_heap W g C1 C2 53 _ (by rw [hW]; exact hW1g), by omega, hcm, ?_, ?_⟩⟩, ?_⟩
    · rw [← Array.length_toList, hC2]
      show ((C1.toList.take (i * 3) ++ valC p) ++ _).length = _
      rw [List.length_append, l2, List.length_drop, lC, valC_len]; omega
    · rw [hC2]
      show ((C1.toList.take (i * 3) ++ valC p) ++ _).take ((n + 1) * 3) = _
      rw [List.take_append, l2, List.take_of_length_le (by rw [l2]; omega), show (n + 1) * 3 - (i + 1) * 3 = (n - i) * 3 by omega, t2, t1]
    · have b1 : But g (g + 1) w W := by
        have := ((But.refl g (g + 1) w).drew).trans (setRow_but w.drew g C1)
        rw [← hW1] at this
        exact ⟨hos, hout, by rw [hW]; exact this.size, fun b hb ho => by rw [hW]; exact this.block b hb ho⟩
      exact b1.trans (setRow_but _ _ _)
  have hob : W1.os = w.os ∧ W1.output = w.output := by rw [hW1]; exact ⟨rfl, rfl⟩
  have HC : Hid _ := hcp2
  have HOB : Hid _ := hob
  have hz2' : ¬ ((i : Int) = (n : Int)) := by omega
  have hb0 : (i : Int) ≤ (n : Int) := by omega
  have hb1 : (0 : Int) ≤ (i : Int) + 1 := by omega
  have hw1 : IntKind.i64.wrap ((i : Int) + 1) = (i : Int) + 1 := by rw [IntKind.wrap_i64]; omega
  have htn : ((i : Int) + 1).toNat = i + 1 := by omega
  have hb6 : (i : Int) + 1 ≤ (n : Int) + 1 := by omega
  have hb2 : ¬ (cap = i + 1) := by omega
  have hb3 : (i : Int) ≤ (n : Int) + 1 := by omega
  have hb4 : ¬ (cap = i) := by omega
  have hb5 : decide ((cap : Int) < (n : Int) + 1) = false := by simp; omega
  have hic : i ≤ cap := by omega
  have hnc' : n + 1 ≤ cap := hroom
  have hnc2 : (n : Int) + 1 ≤ (cap : Int) := by omega
  clear hW1 hW1g hC1 hnews hlen htk hgg hown hxl hz0 hz2 hx1 hcm hsz hC1s hC2 hvc hcp2 hob hv
  go_enter Tryd.func72, Tryd.ntmps72
  go_wp2_with (simp only [hov])
  go_region_law (refine step_copy_is rfl (.tmp 73) (.tmp 76) 23 23 rfl (.slice (some ⟨g, (i + 1) * 3, none⟩) (n + 1 - (i + 1)) (cap - (i + 1))) (.slice (some ⟨g, i * 3, none⟩) (n + 1 - i) (cap - i)) (by simp [Act.eval, Act.put]) (by simp [Act.eval, Act.put]) (hcp1 _ _ _) ?_)
  have hcp2 := fun ty dc => HC.out W1 rfl ty dc
  go_wp2_with fail
  go_ret
  exact ⟨rfl, HKEY.out _ rfl HOB.out.1 HOB.out.2⟩

set_option maxHeartbeats 4000000 in
set_option maxRecDepth 100000 in
/-- There is no room: in a new row. -/
theorem insertGrow (base g n cap i : Nat) (xs : List Value) (vb : Nat) (p : ValD) (w : World) (hown : w.ownsRow base 53 3 (.slice (some ⟨g, 0, none⟩) n cap) n xs) (hx1 : ∀ u ∈ xs, u.oneCell' = true) (hv : Loc w vb (valC p)) (hi : i < n) (hroom : cap < n + 1) (hn : n ≤ 1048576) (hbs : base ≤ w.heap.size) :
    Calls Tryd.prog 72 #[.slice (some ⟨g, 0, none⟩) n cap, .int .i64 (i : Int), .slice (some ⟨vb, 0, none⟩) 1 1] w fun e w' =>
      ∃ G, e = .returned (.slice (some ⟨w.heap.size, 0, none⟩) (n + 1) G) ∧ w'.ownsRow base 53 3 (.slice (some ⟨w.heap.size, 0, none⟩) (n + 1) G) (n + 1) (xs.take (i * 3) ++ valC p ++ xs.drop (i * 3)) ∧ Kept w w' := by
  rcases hown.2 with ⟨hv', _⟩ | ⟨g', cap', cur, hv', hbs', hgg, hnc, hcm, hsz, htk⟩
  · cases hv'
  cases hv'
  have hxl := hown.1
  obtain ⟨i0, hi0, hz0, hz1, hz2⟩ := info_parts info53
  have hinf : (Tryd.prog.info? 53).map (·.size) = some 3 := by rw [hi0]; simp [hz1]
  have hgw : g < w.heap.size := (Array.getElem?_eq_some_iff.1 hgg).1
  have hvw := hv.lt
  have hxc : ∀ j u, xs[j]? = some u → w.cell? ⟨g, j, none⟩ = some u := fun j u hu => by
    obtain ⟨g2, c2, e2, _, hc2, _⟩ := own_cell hown hu
    cases e2
    exact hc2
  have hik : i + (n + 1 - i) = n + 1 := by omega
  have hkk : (n : Int) + 1 - (i : Int) = ((n + 1 - i : Nat) : Int) := by omega
  have hold : (Builtin.firstCells i0.size i (.slice (some ⟨g, 0, none⟩) i cap)).run Tryd.prog w.drew = .ok (xs.take (i * 3)).toArray w.drew := by
    rw [hz1]
    exact run_firstCells_some w.drew 3 i ⟨g, 0, none⟩ i cap (xs.take (i * 3)) (by rw [List.length_take, hxl]; omega) (fun j v hj => by
      rw [Go.WideShapes.add_plain, Nat.zero_add]
      rw [List.getElem?_take] at hj
      split at hj
      · exact hxc j v hj
      · cases hj)
  obtain ⟨G, hG⟩ : ∃ G, G = grownCap w (n + 1) cap 53 := ⟨_, rfl⟩
  obtain ⟨z, hz⟩ : ∃ z : Value, z = .agg #[.string ByteArray.empty, .int .i64 0, .string ByteArray.empty] := ⟨_, rfl⟩
  have hzc : z.cells.size = 3 := by rw [hz]; rfl
  obtain ⟨ROW, hROW⟩ : ∃ ROW : Array Value, ROW = (xs.take (i * 3)).toArray ++ Builtin.zeroCells z.cells (n + 1 - i) ++ Builtin.zeroCells z.cells (G - (n + 1)) := ⟨_, rfl⟩
  have hGn : n + 1 ≤ G := by rw [hG]; exact grownCap_ge w _ _ _
  have hGm : G ≤ maxLen := by rw [hG]; exact grownCap_le_maxLen w (n + 1) cap 53 (by unfold maxLen; omega)
  have hG63 : G ≤ 9223372036854775807 := hGm
  have hrz : ∀ ty, (Builtin.append_ #[23, 3] ty #[.slice (some ⟨g, 0, none⟩) i cap, .int .i64 ((n : Int) + 1 - (i : Int))]).run Tryd.prog w =
      .ok (.slice (some ⟨w.heap.size, 0, none⟩) (n + 1) G) (w.drew.alloc (.cells ROW 53)) := fun ty => by
    have h := Lib.run_append_grow_zeros w 23 3 ty 53 i0 z .i64 .i64 Tryd.underlying23 Tryd.underlying3 hi0 (by rw [hz]; exact hz0) (some ⟨g, 0, none⟩) i cap (xs.take (i * 3)) hold (n + 1 - i) (by omega) (by omega) (by omega) (by omega) (by rw [hz2]; omega) (by rw [hz2, hik]; exact growslice_fits hroom (by omega))
    rw [hik, ← hG, ← hROW] at h
    rw [hkk]
    exact h
  have hRl : ROW.size = G * 3 := by
    rw [hROW]
    simp [Builtin.zeroCells, hzc, hxl]
    omega
  have hRt : ROW.toList.take (i * 3) = xs.take (i * 3) := by
    rw [hROW, Array.append_assoc, Array.toList_append, List.take_append_of_le_length (by simp [hxl]; omega)]
    show ((xs.take (i * 3)).take (i * 3)) = _
    rw [List.take_take, Nat.min_self]
  obtain ⟨W0, hW0⟩ : ∃ W0, W0 = w.drew.alloc (.cells ROW 53) := ⟨_, rfl⟩
  rw [← hW0] at hrz
  have hW0g : W0.heap[w.heap.size]? = some (.cells ROW 53 (0, 0)) := by rw [hW0]; exact heap_alloc_new w.drew _
  have hK0 : Kept w W0 := by rw [hW0]; exact ((But.refl _ _ w).drew).alloc _
  obtain ⟨C1, hC1⟩ : ∃ C1, C1 = (ROW.toList.take (i * 3) ++ valC p ++ ROW.toList.drop (i * 3 + (valC p).length)).toArray := ⟨_, rfl⟩
  have hC1s : C1.size = G * 3 := by
    rw [hC1]; simp only [List.size_toArray, List.length_append, List.length_take, List.length_drop, Array.length_toList, hRl, valC_len]; omega
  obtain ⟨news, hnews⟩ : ∃ news, news = xs.drop (i * 3) := ⟨_, rfl⟩
  have hlen : news.length = (n - i) * 3 := by rw [hnews, List.length_drop, hxl]; omega
  obtain ⟨C2, hC2⟩ : ∃ C2, C2 = (C1.toList.take ((i + 1) * 3) ++ news ++ C1.toList.drop ((i + 1) * 3 + news.length)).toArray := ⟨_, rfl⟩
  have HA : Hid (∀ (W : World), W.heap = W0.heap → ∀ ty dc, (Builtin.copy_ #[23, 23] ty #[.slice (some ⟨w.heap.size, i * 3, none⟩) (n + 1 - i) dc, .slice (some ⟨vb, 0, none⟩) 1 1]).run Tryd.prog W = .ok (goInt 1) (W.setRow w.heap.size C1)) := fun W hW ty dc => by
    rw [hC1]
    refine run_copy_rowK W 23 23 ty 53 w.heap.size (i * 3) _ dc ⟨vb, 0, none⟩ 1 1 ROW 53 (valC p) 3 1 Tryd.underlying23 hinf (by rw [hW]; exact hW0g) (by simp only [Nat.min_def]; split <;> omega) rfl (fun j u hu => ?_) (by rw [hRl, valC_len]; omega) (pc_one1 p)
    rw [Go.WideShapes.add_plain, Nat.zero_add]
    have := (hv.kept hK0).cell j hu
    simpa [World.cell?, hW] using this
  have HB : Hid (∀ (W : World), W.heap = (W0.setRow w.heap.size C1).heap → ∀ ty dc sc, (Builtin.copy_ #[23, 23] ty #[.slice (some ⟨w.heap.size, (i + 1) * 3, none⟩) (n + 1 - (i + 1)) dc, .slice (some ⟨g, i * 3, none⟩) (n - i) sc]).run Tryd.prog W = .ok (goInt ((n - i : Nat) : Int)) (W.setRow w.heap.size C2)) := fun W hW ty dc sc => by
    rw [hC2]
    refine run_copy_rowK W 23 23 ty 53 w.heap.size ((i + 1) * 3) (n + 1 - (i + 1)) dc ⟨g, i * 3, none⟩ (n - i) sc C1 53 news 3 (n - i) Tryd.underlying23 hinf (by rw [hW]; exact setRow_heap W0 w.heap.size ROW C1 53 _ hW0g) (by simp only [Nat.min_def]; split <;> omega) hlen (fun j u hu => ?_) (by rw [hlen, hC1s]; omega) (fun u hu => hx1 u (by rw [hnews] at hu; exact List.mem_of_mem_drop hu))
    rw [hnews, List.getElem?_drop] at hu
    rw [Go.WideShapes.add_plain]
    have h1 := Kept.cell hK0 (hxc _ u hu)
    have h2 := But.cell (setRow_but W0 w.heap.size C1) h1 (by simp; omega)
    simpa [World.cell?, hW] using h2
  have HKEY : Hid (∀ (W : World), W.heap = (W0.setRow w.heap.size C1).heap → W.os = w.os → W.output = w.output → (W.setRow w.heap.size C2).ownsRow base 53 3 (.slice (some ⟨w.heap.size, 0, none⟩) (n + 1) G) (n + 1) (xs.take (i * 3) ++ valC p ++ xs.drop (i * 3)) ∧ Kept w (W.setRow w.heap.size C2)) := by
    intro W hW hos hout
    have lR : ROW.toList.length = G * 3 := by rw [Array.length_toList, hRl]
    have lC : C1.toList.length = G * 3 := by rw [Array.length_toList, hC1s]
    have l2 : (ROW.toList.take (i * 3) ++ valC p).length = (i + 1) * 3 := by rw [List.length_append, List.length_take, lR, valC_len]; omega
    have t1 : C1.toList.take ((i + 1) * 3) = xs.take (i * 3) ++ valC p := by
      rw [hC1]
      show ((ROW.toList.take (i * 3) ++ valC p) ++ _).take _ = _
      rw [List.take_append_of_le_length (by rw [l2]; exact Nat.le_refl _), List.take_of_length_le (by rw [l2]; exact Nat.le_refl _), hRt]
    have l3 : (C1.toList.take ((i + 1) * 3) ++ news).length = (n + 1) * 3 := by rw [List.length_append, List.length_take, lC, hlen]; omega
    have hb := setRow_but W0 w.heap.size C1
    refine ⟨⟨by rw [List.length_append, List.length_append, List.length_take, List.length_drop, hxl, valC_len]; omega, .inr ⟨w.heap.size, G, C2, rfl, hbs, setRow_heap W w.heap.size C1 C2 53 _ (by rw [hW]; exact setRow_heap W0 w.heap.size ROW C1 53 _ hW0g), by omega, hGm, ?_, ?_⟩⟩, ?_⟩
    · rw [← Array.length_toList, hC2]
      show ((C1.toList.take ((i + 1) * 3) ++ news) ++ _).length = _
      rw [List.length_append, l3, List.length_drop, lC, hlen]; omega
    · rw [hC2]
      show ((C1.toList.take ((i + 1) * 3) ++ news) ++ _).take ((n + 1) * 3) = _
      rw [List.take_append_of_le_length (by rw [l3]; exact Nat.le_refl _), List.take_of_length_le (by rw [l3]; exact Nat.le_refl _), t1, hnews]
    · have b1 : Kept w W := by
        have := hK0.onto hb (Nat.le_refl _)
        exact ⟨hos, hout, by rw [hW]; exact this.size, fun b hb ho => by rw [hW]; exact this.block b hb ho⟩
      exact b1.onto (setRow_but W w.heap.size C2) (Nat.le_refl _)
  have hob : W0.os = w.os ∧ W0.output = w.output := by rw [hW0]; exact ⟨rfl, rfl⟩
  have HOB : Hid _ := hob
  have hz2' : ¬ ((i : Int) = (n : Int)) := by omega
  have hb0 : (i : Int) ≤ (n : Int) := by omega
  have hb1 : (0 : Int) ≤ (i : Int) + 1 := by omega
  have hw1 : IntKind.i64.wrap ((i : Int) + 1) = (i : Int) + 1 := by rw [IntKind.wrap_i64]; omega
  have htn : ((i : Int) + 1).toNat = i + 1 := by omega
  have hb2 : ¬ (G = i + 1) := by omega
  have hb3 : (i : Int) ≤ (n : Int) + 1 := by omega
  have hb4 : ¬ (cap = i) := by omega
  have hb5 : (cap : Int) < (n : Int) + 1 := by omega
  have hb6 : (i : Int) + 1 ≤ (n : Int) + 1 := by omega
  have hb7 : ¬ (G = i) := by omega
  have hic : i ≤ cap := by omega
  have hin : i ≤ n := by omega
  have hcp1 := fun ty dc => HA.out W0 rfl ty dc
  clear hkk hik hold hROW hG hRl hRt hW0 hW0g hK0 hC1 hC1s hnews hlen hC2 hob hxc hxl hown hx1 htk hgg hz hzc hv
  go_enter Tryd.func72, Tryd.ntmps72
  go_wp2_with (first
    | (at_builtin; refine Lib.wpList_append_run _ rfl _ _ _ _ rfl _ _ rfl rfl _ _ (hrz _) ?_)
    | fail)
  go_region_law (refine step_copy_is rfl (.tmp 50) (.tmp 53) 23 23 rfl (.slice (some ⟨w.heap.size, (i + 1) * 3, none⟩) (n + 1 - (i + 1)) (G - (i + 1))) (.slice (some ⟨g, i * 3, none⟩) (n - i) (cap - i)) (by simp [Act.eval, Act.put]) (by simp [Act.eval, Act.put]) (HB.out (W0.setRow w.heap.size C1).drew rfl _ _ _) ?_)
  go_wp2_with fail
  go_ret
  exact ⟨G, rfl, HKEY.out _ rfl HOB.out.1 HOB.out.2⟩

/-- One part put into a row of parts at i. -/
theorem insertP (base n i : Nat) (v : Value) (xs : List Value) (vb : Nat) (p : ValD) (w : World) (hown : w.ownsRow base 53 3 v n xs) (hx1 : ∀ u ∈ xs, u.oneCell' = true) (hv : Loc w vb (valC p)) (hvb : v.ownBlock ≠ some vb) (hi : i ≤ n) (hn : n ≤ 1048576) (hbs : base ≤ w.heap.size) :
    Calls Tryd.prog 72 #[v, .int .i64 (i : Int), .slice (some ⟨vb, 0, none⟩) 1 1] w fun e w' =>
      ∃ v', e = .returned v' ∧ w'.ownsRow base 53 3 v' (n + 1) (xs.take (i * 3) ++ valC p ++ xs.drop (i * 3)) ∧ But (blo v) (bhi v) w w' ∧ (v'.ownBlock = v.ownBlock ∨ v'.ownBlock = some w.heap.size) := by
  by_cases hin : i = n
  · subst hin
    have hl := hown.1
    rw [List.take_of_length_le (by omega), List.drop_of_length_le (by omega), List.append_nil]
    exact insertEnd base i v xs vb p w hown hv hn hbs
  · rcases hown.2 with ⟨_, h0⟩ | ⟨g, cap, cur, rfl, _⟩
    · omega
    · have hvg : vb ≠ g := fun e => hvb (by rw [e]; rfl)
      by_cases hroom : n + 1 ≤ cap
      · refine (insertRoom base g n cap i xs vb p w hown hx1 hv hvg (by omega) hroom hn).mono ?_
        rintro e w' ⟨rfl, h1, h2⟩
        exact ⟨_, rfl, h1, h2, .inl rfl⟩
      · refine (insertGrow base g n cap i xs vb p w hown hx1 hv (by omega) (by omega) hn hbs).mono ?_
        rintro e w' ⟨G, rfl, h1, h2⟩
        exact ⟨_, rfl, h1, But.of h2, .inr rfl⟩

end Go.Proofs.YtklgjhemcofhhaaDoor
