/-
  A variable that is laid in a region that draws its order.
-/
import Derived.Test.YtaofilinejanjaaThree18
import Derived.Shelf.Abstract
namespace Go.Proofs.Ytaofilinejanjaa
open Go.ChangeShapes Go.WideShapes Go.ChangeAt Go.RowKit

set_option maxRecDepth 100000
set_option linter.unusedVariables false

theorem step_call {w : World} {ops : Array Oper} {o : Oper} {a : Act} {K : Act → World → Prop} {Q : Exit → Act → World → Prop} {E : Prop} (hgd : o.guard = none) (f : Nat) (x y : Operand) (ts : Array TypeId)
    (ho : o.op = .call { callee := .value (.func f), args := #[x, y], argTypes := ts }) (he : ∀ args w, (callFunc f args).run Try.prog w = .ok (.enter f args) w) {vx vy : Value} (hx : a.eval x = vx) (hy : a.eval y = vy)
    (hc : Calls Try.prog f #[vx, vy] w fun e w' => ∃ v, e = .returned v ∧ K (a.put o.dst v) w') : if Region.wanted o (yielded ops a.tmps) = true then Oper.wp Try.prog o a w K Q else E := by
  have hw : Region.wanted o (yielded ops a.tmps) = true := by simp [Region.wanted, hgd]
  rw [if_pos hw]
  have hef : a.eval (.func f) = .func (.func f) #[] #[] := rfl
  unfold Oper.wp execOp
  simp [ho, resolve, Deferred.ofValue, invoke, hef, hx, hy, he]
  rw [Oper.upon_enter]
  refine hc.mono ?_
  rintro e w' ⟨v, rfl, h⟩
  exact h
theorem step_alloc {w : World} {ops : Array Oper} {o : Oper} {a : Act} {K : Act → World → Prop} {Q : Exit → Act → World → Prop} {E : Prop} (hgd : o.guard = none) (ho : o.op = .alloc 61)
    (h : K (a.put o.dst (.pointer (some ⟨w.heap.size, 0, none⟩))) (w.alloc (.cells #[.int .i64 0, .int .i64 0, .int .i64 0, .int .i64 0] 61))) : if Region.wanted o (yielded ops a.tmps) = true then Oper.wp Try.prog o a w K Q else E := by
  have hw : Region.wanted o (yielded ops a.tmps) = true := by simp [Region.wanted, hgd]
  rw [if_pos hw]
  have hr : (Instr.alloc 61 true (.tuple #[])).run Try.prog w = .ok (.pointer (some ⟨w.heap.size, 0, none⟩)) (w.alloc (.cells #[.int .i64 0, .int .i64 0, .int .i64 0, .int .i64 0] 61)) := by
    simp [go_sem]
  unfold Oper.wp execOp
  simp only [ho, Sem.run_bind, Sem.run_pure, Result.andThen_ok, hr]
  exact h

def lst8 (q r : Nat) : Array Bool := #[true, true, true, true, true, true, true, true, true, decide (0 < q), true, decide (1 < q), decide (0 < r), false]
def rdy8 (q r : Nat) : List Nat := (if q = 0 then [9] else if q = 1 then [11] else []) ++ (if r = 0 then [12] else [])
def readyB8 (ops : Array Oper) : Bool := [0, 1, 2].all fun q => [0, 1].all fun r => (q == 2 && r == 1) || (Region.ready .any ops (lst8 q r) == rdy8 q r)
structure Ops8 (ops : Array Oper) : Prop where
  rdy : readyB8 ops = true
  o9 : ∃ o ts, ops[9]? = some o ∧ o.guard = none ∧ o.dst = some 55 ∧ o.op = .call { callee := .value (.func 51), args := #[.tmp 49, .tmp 54], argTypes := ts }
  o11 : ∃ o ts, ops[11]? = some o ∧ o.guard = none ∧ o.dst = some 57 ∧ o.op = .call { callee := .value (.func 50), args := #[.tmp 55, .tmp 56], argTypes := ts }
  o12 : ∃ o, ops[12]? = some o ∧ o.guard = none ∧ o.dst = some 12 ∧ o.op = .alloc 61
structure S8 (a0 : Act) (w1 : World) (P pad lay V1 V2 : Value) (q r B : Nat) (a : Act) (w : World) : Prop where
  le : q ≤ 2 ∧ r ≤ 1
  k : Kept w1 w
  s49 : a.tmps[49]? = some P
  s54 : a.tmps[54]? = some pad
  s56 : a.tmps[56]? = some lay
  r1 : 1 ≤ q → a.tmps[55]? = some V1
  r2 : 2 ≤ q → a.tmps[57]? = some V2
  rb : r = 1 → a.tmps[12]? = some (.pointer (some ⟨B, 0, none⟩)) ∧ Loc w B [.int .i64 0, .int .i64 0, .int .i64 0, .int .i64 0] ∧ w1.heap.size ≤ B
  oth : ∀ i, i ≠ 55 → i ≠ 57 → i ≠ 12 → a.tmps[i]? = a0.tmps[i]?
  siz : a.tmps.size = a0.tmps.size
  dfs : a.defers = a0.defers
section
variable {a0 : Act} {w1 : World} {P pad lay V1 V2 : Value} {q r B : Nat} {a : Act} {w : World}
theorem S8.call (h : S8 a0 w1 P pad lay V1 V2 q r B a w) (hsz : a0.tmps.size = 91) (q' : Nat) (d : Nat) (V : Value) (hd : (d = 55 ∧ q = 0 ∧ q' = 1 ∧ V = V1) ∨ (d = 57 ∧ q = 1 ∧ q' = 2 ∧ V = V2)) {w' : World} (hk : Kept w w') : S8 a0 w1 P pad lay V1 V2 q' r B (a.put (some d) V) w' := by
  have hsz2 : a.tmps.size = 91 := h.siz.trans hsz
  have hle := h.le
  have hd2 : d = 55 ∨ d = 57 := by omega
  refine ⟨by omega, h.k.trans hk, ?_, ?_, ?_, fun hq => ?_, fun hq => ?_, fun hr => ?_, fun i h1 h2 h3 => ?_, ?_, h.dfs⟩
  · rw [get_put, if_neg (by omega)]; exact h.s49
  · rw [get_put, if_neg (by omega)]; exact h.s54
  · rw [get_put, if_neg (by omega)]; exact h.s56
  · rcases hd with ⟨rfl, _, _, rfl⟩ | ⟨rfl, hq1, _, _⟩
    · rw [get_put, if_pos rfl, if_pos (by omega)]
    · rw [get_put, if_neg (by omega)]; exact h.r1 (by omega)
  · rcases hd with ⟨rfl, _, h3, _⟩ | ⟨rfl, _, _, rfl⟩
    · omega
    · rw [get_put, if_pos rfl, if_pos (by omega)]
  · obtain ⟨b1, b2, b3⟩ := h.rb hr
    rw [get_put, if_neg (by omega)]
    exact ⟨b1, b2.kept hk, b3⟩
  · rw [get_put, if_neg (by omega)]
    exact h.oth i h1 h2 h3
  · simp only [Act.put, Array.size_setIfInBounds]
    exact h.siz
theorem S8.alloc (h : S8 a0 w1 P pad lay V1 V2 q r B a w) (hsz : a0.tmps.size = 91) (hr : r = 0) : S8 a0 w1 P pad lay V1 V2 q 1 w.heap.size (a.put (some 12) (.pointer (some ⟨w.heap.size, 0, none⟩))) (w.alloc (.cells #[.int .i64 0, .int .i64 0, .int .i64 0, .int .i64 0] 61)) := by
  have hsz2 : a.tmps.size = 91 := h.siz.trans hsz
  refine ⟨⟨h.le.1, by omega⟩, h.k.alloc _, ?_, ?_, ?_, fun hq => ?_, fun hq => ?_, fun _ => ?_, fun i h1 h2 h3 => ?_, ?_, h.dfs⟩
  · rw [get_put, if_neg (by omega)]; exact h.s49
  · rw [get_put, if_neg (by omega)]; exact h.s54
  · rw [get_put, if_neg (by omega)]; exact h.s56
  · rw [get_put, if_neg (by omega)]; exact h.r1 hq
  · rw [get_put, if_neg (by omega)]; exact h.r2 hq
  · rw [get_put, if_pos rfl, if_pos (by omega)]
    exact ⟨rfl, Loc.new w [.int .i64 0, .int .i64 0, .int .i64 0, .int .i64 0] 61, h.k.size⟩
  · rw [get_put, if_neg (by omega)]
    exact h.oth i h1 h2 h3
  · simp only [Act.put, Array.size_setIfInBounds]
    exact h.siz
end
theorem room8 {ops : Array Oper} {Q : Exit → Act → World → Prop} {a0 : Act} {w1 : World} {P pad lay V1 V2 : Value} (H : Ops8 ops) (hsz : a0.tmps.size = 91)
    (c1 : ∀ W, Kept w1 W → Calls Try.prog 51 #[P, pad] W fun e w' => e = .returned V1 ∧ Kept W w') (c2 : ∀ W, Calls Try.prog 50 #[V1, lay] W fun e w' => e = .returned V2 ∧ Kept W w')
    (fin : ∀ B a w, S8 a0 w1 P pad lay V1 V2 2 1 B a w → wpAnyZ Try.prog .any ops Q (fun W => Kept w1 W) 99 1 (lst8 2 1) a w) :
    ∀ (n q r B : Nat) (a : Act) (w : World), n + q + r = 3 → S8 a0 w1 P pad lay V1 V2 q r B a w → wpAnyZ Try.prog .any ops Q (fun W => Kept w1 W) 99 (n + 1) (lst8 q r) a w := by
  intro n
  induction n with
  | zero =>
    intro q r B a w hn h
    have := h.le
    obtain rfl : q = 2 := by omega
    obtain rfl : r = 1 := by omega
    exact fin B a w h
  | succ n ih =>
    intro q r B a w hn h
    have hle := h.le
    have hr : Region.ready .any ops (lst8 q r) = rdy8 q r := by
      have h0 := H.rdy
      unfold readyB8 at h0
      rw [List.all_eq_true] at h0
      have h1 := h0 q (by simp; omega)
      rw [List.all_eq_true] at h1
      have h2 := h1 r (by simp; omega)
      simp only [Bool.or_eq_true, Bool.and_eq_true, beq_iff_eq] at h2
      rcases h2 with h2 | h2
      · omega
      · exact h2
    refine ⟨fun e => ?_, fun i hi => ?_⟩
    · rw [hr] at e
      unfold rdy8 at e
      have : q = 0 ∨ q = 1 ∨ (q = 2 ∧ r = 0) := by omega
      rcases this with rfl | rfl | ⟨rfl, rfl⟩ <;> simp at e
    · rw [hr] at hi
      have hw : (q = 0 ∧ i = 9) ∨ (q = 1 ∧ i = 11) ∨ (r = 0 ∧ i = 12) := by
        unfold rdy8 at hi
        simp only [List.mem_append] at hi
        rcases hi with hi | hi
        · split at hi
          · simp at hi; omega
          · split at hi
            · simp at hi; omega
            · simp at hi
        · split at hi
          · simp at hi; omega
          · simp at hi
      rcases hw with ⟨hq, rfl⟩ | ⟨hq, rfl⟩ | ⟨hq, rfl⟩
      · obtain ⟨o, ts, ho, hg, hd, hop⟩ := H.o9
        refine wpOp_step ho fun K' hK => step_call hg _ _ _ ts hop (enters_of Try.func51 (by kernel_rfl) rfl) (eval_of h.s49) (eval_of h.s54) ((c1 w h.k).mono ?_)
        rintro e w' ⟨rfl, hk⟩
        refine ⟨_, rfl, ?_⟩
        rw [hd]
        have h' := h.call hsz 1 55 V1 (.inl ⟨rfl, hq, rfl, rfl⟩) hk
        refine hK _ _ ⟨fun _ => h'.k, ?_⟩
        have e : (lst8 q r).setIfInBounds 9 true = lst8 1 r := by subst hq; simp [lst8]
        rw [e]
        exact ih 1 r B _ _ (by omega) h'
      · obtain ⟨o, ts, ho, hg, hd, hop⟩ := H.o11
        refine wpOp_step ho fun K' hK => step_call hg _ _ _ ts hop (enters_of Try.func50 (by kernel_rfl) rfl) (eval_of (h.r1 (by omega))) (eval_of h.s56) ((c2 w).mono ?_)
        rintro e w' ⟨rfl, hk⟩
        refine ⟨_, rfl, ?_⟩
        rw [hd]
        have h' := h.call hsz 2 57 V2 (.inr ⟨rfl, hq, rfl, rfl⟩) hk
        refine hK _ _ ⟨fun _ => h'.k, ?_⟩
        have e : (lst8 q r).setIfInBounds 11 true = lst8 2 r := by subst hq; simp [lst8]
        rw [e]
        exact ih 2 r B _ _ (by omega) h'
      · obtain ⟨o, ho, hg, hd, hop⟩ := H.o12
        refine wpOp_step ho fun K' hK => step_alloc hg hop ?_
        rw [hd]
        have h' := h.alloc hsz hq
        refine hK _ _ ⟨fun _ => h'.k, ?_⟩
        have e : (lst8 q r).setIfInBounds 12 true = lst8 q 1 := by subst hq; simp [lst8]
        rw [e]
        exact ih q 1 _ _ _ (by omega) h'

end Go.Proofs.Ytaofilinejanjaa
