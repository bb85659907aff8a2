/-
  A clock copied: the same, in memory of its own.
-/
import Derived.Test.YthihgjcnjgpegaaRows
import Derived.Test.YthihgjcnjgpegaaClock
import Derived.Test.YthihgjcnjgpegaaTo
import Derived.Deep.RegionLaw
namespace Go.Proofs.Ythihgjcnjgpegaa
open Go.ChangeShapes Go.WideShapes Go.ChangeAt Go.RowKit
theorem row_cells {w : World} {b o n cap : Nat} {xs : List Value} (h : RowAt w (.slice (some ⟨b, o, none⟩) n cap) n xs) : ∀ j u, xs[j]? = some u → w.cell? ((⟨b, o, none⟩ : Addr).add j) = some u := fun j u hu => by
  obtain ⟨ao, cap', e, hc⟩ := h
  cases e
  obtain ⟨b', o', e', h1⟩ := hc j u hu
  cases e'
  rw [Go.WideShapes.add_plain]
  exact h1
theorem own_some {w : World} {base : Nat} {e : TypeId} {size : Nat} {v : Value} {n : Nat} {xs : List Value} (h : w.ownsRow base e size v n xs) (hn : 0 < n) : ∃ g cap, v = .slice (some ⟨g, 0, none⟩) n cap := by
  rcases h.2 with ⟨_, h0⟩ | ⟨g, cap, _, rfl, _⟩
  · omega
  · exact ⟨g, cap, rfl⟩
theorem forgetL {P : Program} {ops : Array Oper} {Q : Exit → Act → World → Prop} {L : List Oper} {a : Act} {W : World} (F : World → Prop) (hF : F W) (h : ∀ W', F W' → wpList P ops Q L a W') : wpList P ops Q L a W := h W hF
theorem forgetX {K : Act → World → Prop} {Q : Exit → Act → World → Prop} {a : Act} {W : World} (F : World → Prop) (hF : F W) (h : ∀ W', F W' → Exit.then K Q Exit.normal a W') : Exit.then K Q Exit.normal a W := h W hF
theorem run_append_none {P : Program} (w : World) (t ty e : TypeId) (i : TypeInfo) (ht : P.underlying t = some (.slice e)) (hi : P.info? e = some i) (ao : Option Addr) (n cap c : Nat) (hn : n ≤ cap) :
    (Builtin.append_ #[t, t] ty #[.slice ao n cap, .slice none 0 c]).run P w = .ok (.slice ao n cap) w := by
  cases ao <;> simp [Builtin.append_, run_underlying ht, sizeOf, typeInfo, hi, Builtin.lenOf, Builtin.firstCells, loadCells, hn, storeCells]

theorem row_none {w : World} {n cap : Nat} {xs : List Value} (h : RowAt w (.slice none n cap) n xs) : xs = [] := by
  obtain ⟨ao, cap', e, hc⟩ := h
  cases e
  cases xs with
  | nil => rfl
  | cons x xs => obtain ⟨b, o, e, _⟩ := hc 0 x rfl; cases e

theorem one_timers (l : List TimerD) : ∀ u ∈ l.flatMap timerC, u.oneCell' = true := fun u hu => by
  obtain ⟨p, _, hp⟩ := List.mem_flatMap.1 hu
  simp [timerC] at hp
  rcases hp with rfl | rfl | rfl | rfl <;> rfl
theorem one_fired (l : List FiredD) : ∀ u ∈ l.flatMap firedC, u.oneCell' = true := fun u hu => by
  obtain ⟨p, _, hp⟩ := List.mem_flatMap.1 hu
  simp [firedC] at hp
  rcases hp with rfl | rfl <;> rfl

/-- append onto a row of its own, as one step of a region that draws. -/
theorem step_append_own {P : Program} {ops : Array Oper} {o : Oper} {a : Act} {w : World} {K : Act → World → Prop} {Q : Exit → Act → World → Prop} {E : Prop}
    (hg : o.guard = none) (s x : Operand) (t : TypeId) (hop : o.op = Op.call { callee := Callee.builtin Builtin.append, args := #[s, x], argTypes := #[t, t] })
    (base : Nat) (e : TypeId) (i : TypeInfo) (z : Value) (size bytes : Nat) (ht : P.underlying t = some (.slice e)) (hi : P.info? e = some i) (hz : i.zero = some z)
    (hsize : i.size = size) (hby : i.bytes = bytes) (hzs : z.cells.size = size) (hsz : 0 < size)
    (v : Value) (n : Nat) (xs : List Value) (hs : a.eval s = v) (hown : w.ownsRow base e size v n xs)
    (ad : Addr) (m c : Nat) (news : List Value) (hx : a.eval x = .slice (some ad) m c) (hl : news.length = m * size) (hnews : ∀ j u, news[j]? = some u → w.cell? (ad.add j) = some u) (h1 : ∀ u ∈ news, u.oneCell' = true)
    (h63 : n + m ≤ maxLen) (hbytes : (n + m) * bytes ≤ 140737488355328) (hbase : base ≤ w.heap.size)
    (h : ∀ v' w', w'.ownsRow base e size v' (n + m) (xs ++ news) → w.grownBy w' v.ownBlock → K (a.put o.dst v') w') :
    if Region.wanted o (yielded ops a.tmps) = true then Oper.wp P o a w K Q else E := by
  have hw : Region.wanted o (yielded ops a.tmps) = true := by simp [Region.wanted, hg]
  rw [if_pos hw]
  exact wp_append_own w s x t hop base e i z size bytes ht hi hz hsize hby hzs hsz v n xs hs hown ad m c news hx hl hnews h1 h63 hbytes hbase fun v' w' h2 h3 _ => h v' w' h2 h3
theorem step_append_is {P : Program} {ops : Array Oper} {o : Oper} {a : Act} {w : World} {K : Act → World → Prop} {Q : Exit → Act → World → Prop} {E : Prop}
    (hg : o.guard = none) (d x : Operand) (dT sT : TypeId) (hop : o.op = Op.call { callee := Callee.builtin Builtin.append, args := #[d, x], argTypes := #[dT, sT] })
    (v u : Value) (hd : a.eval d = v) (hx : a.eval x = u) {v' : Value} {w' : World} (hr : (Builtin.append_ #[dT, sT] o.type #[v, u]).run P w = .ok v' w') (hK : K (a.put o.dst v') w') :
    if Region.wanted o (yielded ops a.tmps) = true then Oper.wp P o a w K Q else E := by
  have hw : Region.wanted o (yielded ops a.tmps) = true := by simp [Region.wanted, hg]
  rw [if_pos hw]
  unfold Oper.wp
  simp [execOp, hop, resolve, invoke, builtin, hd, hx, hr, Result.andThen]
  exact hK

set_option maxRecDepth 100000
set_option maxHeartbeats 2000000 in
theorem copyClock (c : ClockD) (v : Value) (w : World) (hv : ClockAt w v c) (hn : c.2.length ≤ 1048576) :
    Calls Try.prog 52 #[v] w fun e w' => ∃ v', e = .returned v' ∧ ClockO w' w.heap.size w'.heap.size v' c ∧ Kept w w' := by
  obtain ⟨ao, cap, hfm⟩ := hv.form
  subst hfm
  have hr := hv.row
  obtain ⟨now, l⟩ := c
  dsimp only at *
  obtain ⟨i0, hi0, hz0, hz1, hz2⟩ := info_parts info46
  cases ao with
  | none =>
    have hl0 : l = [] := by
      have := row_none hr
      cases l with
      | nil => rfl
      | cons p ps => simp [timerC] at this
    subst hl0
    have happ := fun u => run_append_none (P := Try.prog) u 23 23 46 i0 Try.underlying23 hi0 none 0 0 cap (Nat.le_refl _)
    go_enter Try.func52, Try.ntmps52
    repeat (first | go_values | go_skip | go_guarded | go_step | go_upon)
    go_region_law (refine step_append_is rfl (.const (.slice none 0 0)) (.tmp 6) 23 23 rfl (.slice none 0 0) (.slice none 0 cap) rfl (by simp [Act.eval]) (happ _) ?_)
    all_goals
      repeat (first | go_values | go_skip | go_guarded | go_step | go_upon)
      refine bodyPost_ret (v := .agg #[.int .i64 now, .slice none 0 0]) (by simp [results, Try.results52, go_sem]) rfl ?_
      refine ⟨_, rfl, ⟨_, rfl, World.ownsRow_nil _ _ _ _, fun g hg => by simp [Value.ownBlock] at hg⟩, ?_⟩
      repeat (first | with_reducible exact But.refl _ _ _ | with_reducible apply But.drewN | with_reducible apply But.drew | with_reducible apply But.alloc)
  | some a =>
    obtain ⟨b, o, hao⟩ : ∃ b o, a = ⟨b, o, none⟩ ∨ l = [] := by
      cases l with
      | nil => exact ⟨0, 0, .inr rfl⟩
      | cons p ps =>
        obtain ⟨b, o, cap', e, _⟩ := timer_get hr (i := 0) (p := p) rfl
        cases e
        exact ⟨b, o, .inl rfl⟩
    have hcells : ∀ W, Kept w W → ∀ j u, (l.flatMap timerC)[j]? = some u → W.cell? (a.add j) = some u := by
      intro W hW
      rcases hao with rfl | rfl
      · exact row_cells (hr.kept hW)
      · intro j u hu; simp at hu
    have HC : Hid _ := hcells
    clear hcells hao
    go_enter Try.func52, Try.ntmps52
    repeat (first | go_values | go_skip | go_guarded | go_step | go_upon)
    obtain ⟨W, hW⟩ : ∃ W, W = ((w.alloc (Obj.cells #[Value.int IntKind.i64 now, Value.slice (some a) l.length cap] 25)).alloc (Obj.cells #[Value.int IntKind.i64 0, Value.slice none 0 0] 25)) := ⟨_, rfl⟩
    have hKW : Kept w W := by rw [hW]; exact ((But.refl _ _ _).alloc _).alloc _
    have La := Loc.alloc (Loc.new w [.int .i64 now, .slice (some a) l.length cap] 25) (Obj.cells #[Value.int IntKind.i64 0, Value.slice none 0 0] 25)
    have Lr := Loc.new (w.alloc (Obj.cells #[Value.int IntKind.i64 now, Value.slice (some a) l.length cap] 25)) [.int .i64 0, .slice none 0 0] 25
    rw [← hW]
    change Loc ((w.alloc (Obj.cells #[Value.int IntKind.i64 now, Value.slice (some a) l.length cap] 25)).alloc (Obj.cells #[Value.int IntKind.i64 0, Value.slice none 0 0] 25)) _ _ at La
    rw [← hW] at La
    change Loc ((w.alloc (Obj.cells #[Value.int IntKind.i64 now, Value.slice (some a) l.length cap] 25)).alloc (Obj.cells #[Value.int IntKind.i64 0, Value.slice none 0 0] 25)) _ _ at Lr
    rw [← hW] at Lr
    simp only [World.size_alloc] at Lr
    have hsz : W.heap.size = w.heap.size + 2 := by rw [hW]; simp
    clear hW
    have a0 := La.cell 0 rfl
    have a1 := La.cell 1 rfl
    have r0 := Lr.cell 0 rfl
    have r1 := Lr.cell 1 rfl
    have rf0 := Lr.frozen 0
    have rf1 := Lr.frozen 1
    go_region_law (refine step_append_own rfl (.const (.slice none 0 0)) (.tmp 6) 23 rfl (w.heap.size + 2) 46 i0 (.agg #[.int .i64 0, .int .i64 0, .int .i64 0, .int .i64 0]) 4 32 Try.underlying23 hi0 hz0 hz1 hz2 rfl (by decide) (.slice none 0 0) 0 [] rfl (World.ownsRow_nil _ _ _ _) a l.length cap (l.flatMap timerC) (by simp [Act.eval]) (flat_len 4 timerC timerC_len l) (HC.out _ hKW.drew) (one_timers l) (by unfold maxLen; omega) (by omega) (by simp; omega) ?_
                   intro v3 w3 hown hgrow
                   obtain ⟨ao3, cap3, hf3, _⟩ := own_form hown
                   rw [Nat.zero_add] at hf3
                   subst hf3
                   have k3 : Kept W w3 := ((But.refl _ _ W).drew).grown hgrow (by intro x hx; cases hx)
                   have a0 := Kept.cell k3 a0
                   have a1 := Kept.cell k3 a1
                   have Lr3 := Lr.kept k3
                   have r0 := Lr3.cell 0 rfl
                   have r1 := Lr3.cell 1 rfl
                   have rf0 := Lr3.frozen 0
                   have rf1 := Lr3.frozen 1
                   have HO : Hid _ := hown
                   clear hown hgrow)
    all_goals
      repeat (first | go_values | go_skip | go_guarded | go_step | go_upon)
      have B : But (w.heap.size + 1) (w.heap.size + 2) w3 ((w3.setCell ⟨w.heap.size + 1, 0, none⟩ (.int .i64 now)).setCell ⟨w.heap.size + 1, 1, none⟩ (.slice ao3 l.length cap3)) :=
        ((But.refl _ _ _).setCell (by simp) (by simp) _).setCell (by simp) (by simp) _
      refine bodyPost_ret (v := .agg #[.int .i64 now, .slice ao3 l.length cap3]) (by simp [results, Try.results52, go_sem, r0, r1]) rfl ?_
      have hown := HO.out
      rw [Nat.zero_add, List.nil_append] at hown
      exact ⟨_, rfl, ⟨_, rfl, (((RowO.top hown).but B (by omega)).mono (by omega) B.size).low⟩, (hKW.trans k3).onto B (by omega)⟩

end Go.Proofs.Ythihgjcnjgpegaa
