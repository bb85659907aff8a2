/-
  A region with a send or a select in it, walked in one goroutine: rules over the machine's steps.
-/
import Derived.Conc.LoneSelect
import Derived.Tactics
namespace Go.Proofs.Ythkfpbknfjapaaa
open Go.Conc

section
variable {P : Program} {ops : Array Oper} {Q : Exit → Act → World → Prop}
/-- From this place of a region on the machine arrives where Q holds. -/
def OpsAt (P : Program) (ops : Array Oper) (Q : Exit → Act → World → Prop) (l : List Nat) (a : Act) (w : World) : Prop :=
  ∀ (b : Frame) (k : List Item) (cs : List Frame), ∃ e a' w', Q e a' w' ∧ Arrives P (lone (b.at a (.inRegion ops l :: k)) cs w) b k cs e a' w'
theorem OpsAt.region {id : Nat} {a : Act} {w : World} (h : OpsAt P ops Q (List.range ops.size) a w) : (Code.region id ops false).wp P Q a w :=
  fun b k cs => let ⟨e, a', w', q, r⟩ := h b k cs; ⟨e, a', w', q, .of_steps (.one step_region) r⟩
theorem OpsAt.walk {l : List Nat} {a : Act} {w : World} (h : wpOps P ops Q l a w) : OpsAt P ops Q l a w := wp_ops l a w h
theorem OpsAt.next {i : Nat} {rest : List Nat} {a a' : Act} {w w' : World} (hs : ∀ (b : Frame) (k : List Item) (cs : List Frame), step P (lone (b.at a (.inRegion ops (i :: rest) :: k)) cs w) = .next (lone (b.at a' (.inRegion ops rest :: k)) cs w')) (h : OpsAt P ops Q rest a' w') : OpsAt P ops Q (i :: rest) a w :=
  fun b k cs => let ⟨e, a₂, w₂, q, r⟩ := h b k cs; ⟨e, a₂, w₂, q, .of_steps (.one (hs b k cs)) r⟩
theorem OpsAt.head (l₂ : List Nat) : ∀ (l₁ : List Nat) (a : Act) (w : World), wpOps P ops (fun e a' w' => e = .normal ∧ OpsAt P ops Q l₂ a' w') l₁ a w → OpsAt P ops Q (l₁ ++ l₂) a w := by
  intro l₁
  induction l₁ with
  | nil => exact fun a w h => h.2
  | cons i rest ih =>
    intro a w h
    simp only [wpOps] at h
    show OpsAt P ops Q (i :: (rest ++ l₂)) a w
    cases ho : ops[i]? with
    | none =>
      rw [ho] at h
      refine OpsAt.next (fun b k cs => ?_) (ih a w h)
      have hs := step_op_skip (P := P) (b := b) (a := a) (k := k) (cs := cs) (w := w) (ops := ops) (i := i) (rest := rest ++ l₂) (by simp [ho])
      simpa only [ho, Option.bind_none, Act.put] using hs
    | some o =>
      rw [ho] at h
      dsimp only at h
      by_cases hw : Region.wanted o (yielded ops a.tmps) = true
      · rw [if_pos hw] at h
        rcases h with h | ⟨_, _, _, hq⟩
        case inr => cases hq.1
        have hg : ∀ (b : Frame) (k : List Item) (cs : List Frame), _ := fun b k cs => stepG_op (P := P) (b := b) (k := k) (cs := cs) (w := w) (rest := rest ++ l₂) ho hw
        have hfin : ∀ (b : Frame) (k : List Item) v, (b.at a (.inRegion ops (i :: (rest ++ l₂)) :: k)).finish v = b.at (a.put o.dst v) (.inRegion ops (rest ++ l₂) :: k) := fun b k v => by
          rw [Frame.finish_at, ho]; rfl
        simp only [Oper.wp, Oper.upon] at h
        split at h
        · rename_i v w' hr
          exact OpsAt.next (fun b k cs => step_lone_go (by rw [hg, ← hfin]; simp [stepG.apply, hr])) (ih _ _ h)
        · rename_i w' hr
          exact OpsAt.next (fun b k cs => step_lone_go (by rw [hg, ← hfin]; simp [stepG.apply, hr])) (ih _ _ h)
        · rename_i d w' hr
          refine OpsAt.next (fun b k cs => step_lone_go ?_) (ih _ _ h)
          have e := Frame.finish_at b { a with defers := d :: a.defers } ops i (rest ++ l₂) k undef
          rw [ho] at e
          rw [hg]
          simp only [stepG.apply, Sem.runT_eq, hr, GStep.bare_after]
          exact congrArg (fun fr => GStep.go { frame := fr, callers := cs, status := .running, dying := none } w') e
        · rename_i f args w' hr
          intro b k cs
          obtain ⟨e, w₂, fr, hR, hst, _, hlv⟩ := h (b.at a (.inRegion ops (i :: (rest ++ l₂)) :: k) :: cs)
          have hen : step P (lone (b.at a (.inRegion ops (i :: (rest ++ l₂)) :: k)) cs w) = .next (lone (Frame.enter P f args .normal) (b.at a (.inRegion ops (i :: (rest ++ l₂)) :: k) :: cs) w') :=
            step_lone_go (by rw [hg]; simp [stepG.apply, hr, Frame.at])
          cases e with
          | returned v =>
            obtain ⟨e, a', w₃, q, r⟩ := ih _ _ hR b k cs
            refine ⟨e, a', w₃, q, .of_steps (.head hen (hst.trans (.one ?_))) r⟩
            rw [← hfin]
            exact step_leave_returned hlv
          | panicked ch => cases hR.1
          | outgrown => obtain ⟨_, _, q⟩ := hR; cases q.1
        · rename_i row args w' hr
          intro b k cs
          obtain ⟨v, w₂, hR, hst⟩ := h (b.at a (.inRegion ops (i :: (rest ++ l₂)) :: k)) cs
          have hen : step P (lone (b.at a (.inRegion ops (i :: (rest ++ l₂)) :: k)) cs w) = .next (lone (Frame.ofRow P row args .normal) (b.at a (.inRegion ops (i :: (rest ++ l₂)) :: k) :: cs) w') :=
            step_lone_go (by rw [hg]; simp [stepG.apply, hr, Frame.at])
          obtain ⟨e, a', w₃, q, r⟩ := ih _ _ hR b k cs
          refine ⟨e, a', w₃, q, .of_steps (.head hen ?_) r⟩
          rw [← hfin]
          exact hst
        · cases h.1
        · exact h.elim
      · rw [if_neg hw] at h
        refine OpsAt.next (fun b k cs => ?_) (ih _ _ h)
        have hs := step_op_skip (P := P) (b := b) (a := a) (k := k) (cs := cs) (w := w) (ops := ops) (i := i) (rest := rest ++ l₂) (by simp [ho]; simpa using hw)
        simpa only [ho, Option.bind_some] using hs
theorem upon_more {o : Oper} {a : Act} {n₁ n₂ : Act → World → Prop} (hn : ∀ a w, n₁ a w → n₂ a w) {r : Result Next} (h : o.upon P a n₁ Q r) : o.upon P a n₂ Q r := by
  unfold Oper.upon at h ⊢
  split at h
  · exact hn _ _ h
  · exact hn _ _ h
  · exact hn _ _ h
  · refine Calls.mono h (fun e w₂ hR => ?_)
    cases e with
    | returned v => exact hn _ _ hR
    | panicked ch => exact hR
    | outgrown => exact hR
  · exact Rows.mono h (fun v w₂ hR => hn _ _ hR)
  · exact h
  · exact h.elim
/-- The walk's list of operations, a stretch of the region. -/
theorem ops_list (l : List Oper) : ∀ (k : Nat), (∀ j, j < l.length → l[j]? = ops[k + j]?) → ∀ a w, wpList P ops Q l a w → wpOps P ops Q (List.range' k l.length) a w := by
  induction l with
  | nil => exact fun k _ a w h => h
  | cons o rest ih =>
    intro k hl a w h
    have h0 : ops[k]? = some o := by simpa using (hl 0 (by simp)).symm
    have ih' := ih (k + 1) (fun j hj => by have := hl (j + 1) (by simp; omega); rw [show k + 1 + j = k + (j + 1) by omega]; simpa using this)
    rw [List.length_cons, List.range'_succ]
    simp only [wpOps, h0]
    simp only [wpList] at h
    split at h
    · rename_i hw
      rw [if_pos hw]
      rcases h with h | h
      · exact .inl (upon_more ih' h)
      · exact .inr h
    · rename_i hw
      rw [if_neg hw]
      exact ih' _ _ h
theorem comm_of {i : Nat} {rest : List Nat} {o : Oper} {a : Act} {w : World} {cases' : Array CommCase} {bl : Bool} {sh : CommShape} (ho : ops[i]? = some o) (hw : Region.wanted o (yielded ops a.tmps) = true) (hr : (execOp a.eval o).run P w = .ok (.comm cases' bl sh) w) (b : Frame) (k : List Item) (cs : List Frame) :
    ∃ es, stepG P true (G (b.at a (.inRegion ops (i :: rest) :: k)) cs) w = .comm (G (b.at a (.inRegion ops (i :: rest) :: k)) cs) cases' bl sh w es := by
  have hg := stepG_op (P := P) (b := b) (k := k) (cs := cs) (w := w) (rest := rest) ho hw
  show ∃ es, stepG P true { frame := b.at a (.inRegion ops (i :: rest) :: k), callers := cs, status := .running, dying := none } w = _
  rw [hg]
  simp only [stepG.apply, Sem.runT_eq, hr, if_true]
  exact ⟨_, rfl⟩
/-- A send into a buffer that has room. -/
theorem OpsAt.send {i : Nat} {rest : List Nat} {o : Oper} {x y : Operand} {a : Act} {w : World} {c cap s r : Nat} {buf : Array Value} {tm : Bool} (ho : ops[i]? = some o) (hop : o.op = .send x y) (hg : o.guard = none) (hx : a.eval x = .chan (some c)) (hc : w.heap[c]? = some (.chan cap buf false s r tm)) (hroom : buf.size < cap)
    (h : OpsAt P ops Q rest (a.put o.dst undef) (w.setChan c cap (buf.push (a.eval y)) false (s + 1) r tm)) : OpsAt P ops Q (i :: rest) a w := by
  refine OpsAt.next (fun b k cs => ?_) h
  obtain ⟨es, hs⟩ := comm_of (P := P) (rest := rest) (cases' := #[scase c (a.eval y) (.tuple #[])]) (bl := true) (sh := .send) ho (by simp [Region.wanted, hg]) (by unfold execOp; rw [hop]; dsimp only; rw [hx]; rfl) b k cs
  rw [lone_eq_solo, step_lone_send_room hs hc hroom, Frame.finish_at, ho]
  rfl
/-- What a select of one receive with a default asks. -/
theorem select_run {o : Oper} {x : Operand} {t : TypeId} {a : Act} {w : World} {c : Nat} {z : Value} (hop : o.op = .select #[{ chan := x, send := none, elem := t }] false) (hx : a.eval x = .chan (some c)) (hz : (zeroValue t).run P w = .ok z w) : (execOp a.eval o).run P w = .ok (.comm #[rcase c z] false .select) w := by
  unfold execOp
  rw [hop]
  dsimp only
  simp [hx, rcase, hz]
/-- A select of one receive with a default, something waits. -/
theorem OpsAt.take {i : Nat} {rest : List Nat} {o : Oper} {a : Act} {w : World} {c cap s r : Nat} {buf : Array Value} {tm cl : Bool} {z : Value} (ho : ops[i]? = some o) (hg : o.guard = none) (hr : (execOp a.eval o).run P w = .ok (.comm #[rcase c z] false .select) w) (hc : w.heap[c]? = some (.chan cap buf cl s r tm)) (hsome : 0 < buf.size)
    (h : OpsAt P ops Q rest (a.put o.dst (.tuple #[goInt 0, .bool true, buf.getD 0 undef])) (w.setChan c cap (buf.extract 1 buf.size) cl s (r + 1) tm)) : OpsAt P ops Q (i :: rest) a w := by
  refine OpsAt.next (fun b k cs => ?_) h
  obtain ⟨es, hs⟩ := comm_of (P := P) (rest := rest) ho (by simp [Region.wanted, hg]) hr b k cs
  rw [lone_eq_solo, step_lone_select_recv_buf hs hc hsome, Frame.finish_at, ho]
  rfl
/-- Nothing waits: the default. -/
theorem OpsAt.none {i : Nat} {rest : List Nat} {o : Oper} {a : Act} {w : World} {c cap s r : Nat} {tm : Bool} {z : Value} (ho : ops[i]? = some o) (hg : o.guard = Option.none) (hr : (execOp a.eval o).run P w = .ok (.comm #[rcase c z] false .select) w) (hc : w.heap[c]? = some (.chan cap #[] false s r tm))
    (h : OpsAt P ops Q rest (a.put o.dst (.tuple #[goInt (-1), .bool false, z])) w) : OpsAt P ops Q (i :: rest) a w := by
  refine OpsAt.next (fun b k cs => ?_) h
  obtain ⟨es, hs⟩ := comm_of (P := P) (rest := rest) ho (by simp [Region.wanted, hg]) hr b k cs
  rw [lone_eq_solo, step_lone_select_default hs hc, Frame.finish_at, ho]
  rfl
/-- A region whose last operation is met by a rule of its own. -/
theorem OpsAt.last {id : Nat} {pre : List Oper} {n : Nat} {a : Act} {w : World} (hsz : ops.size = n + 1) (hn : pre.length = n) (hpre : ops.toList.take n = pre) (h : wpList P ops (fun e a' w' => e = .normal ∧ OpsAt P ops Q [n] a' w') pre a w) : (Code.region id ops false).wp P Q a w := by
  refine OpsAt.region ?_
  have e : List.range ops.size = List.range' 0 pre.length ++ [n] := by rw [hsz, hn, List.range_eq_range', List.range'_concat]; simp
  rw [e]
  refine OpsAt.head [n] _ _ _ (ops_list pre 0 (fun j hj => ?_) _ _ h)
  rw [← hpre, List.getElem?_take, if_pos (by omega)]
  simp
/-- A region whose first operation is met by a rule of its own. -/
theorem OpsAt.first {id n : Nat} {a : Act} {w : World} (hsz : ops.size = n + 1) (h : OpsAt P ops Q (0 :: List.range' 1 n) a w) : (Code.region id ops false).wp P Q a w := by
  refine OpsAt.region ?_
  rw [hsz, List.range_eq_range', List.range'_succ]
  exact h
theorem OpsAt.rest {l : List Oper} {k n : Nat} {a : Act} {w : World} (hl : ops.toList.drop k = l) (hn : l.length = n) (h : wpList P ops Q l a w) : OpsAt P ops Q (List.range' k n) a w := by
  subst hn
  refine OpsAt.walk (ops_list l k (fun j hj => ?_) _ _ h)
  rw [← hl, List.getElem?_drop]
  simp
theorem OpsAt.end_ {a : Act} {w : World} (h : Q .normal a w) : OpsAt P ops Q [] a w := OpsAt.walk h
end
end Go.Proofs.Ythkfpbknfjapaaa
