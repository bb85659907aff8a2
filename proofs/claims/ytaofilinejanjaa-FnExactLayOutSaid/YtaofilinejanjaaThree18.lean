/-
  Three appends of one assignment, in whatever order.
-/
import Derived.Test.YtaofilinejanjaaLayL18
import Derived.Test.YtaofilinejanjaaApp18
import Derived.Test.YtaofilinejanjaaZed18
namespace Go.Proofs.Ytaofilinejanjaa
open Go.ChangeShapes Go.WideShapes Go.ChangeAt Go.RowKit

set_option maxRecDepth 100000
set_option linter.unusedVariables false

theorem step_num {w : World} {ops : Array Oper} {o : Oper} {a : Act} {K : Act → World → Prop} {Q : Exit → Act → World → Prop} {E : Prop} (hgd : o.guard = none) (s x : Operand)
    (ho : o.op = .call { callee := .builtin .append, args := #[s, x], argTypes := #[29, 29] }) {lo hi : Nat} {v : Value} {ps : List NumD} (hs : a.eval s = v) (hown : NumO w lo hi v ps)
    {b : Nat} (p : NumD) (hx : a.eval x = .slice (some ⟨b, 0, none⟩) 1 1) (hL : Loc w b (numC p)) (hb : ps.length + 1 ≤ 100000000) (hlo : lo ≤ w.heap.size)
    (h : ∀ v' w', NumO w' lo w'.heap.size v' (ps ++ [p]) → But (blo v) (bhi v) w w' → (v'.ownBlock = v.ownBlock ∨ v'.ownBlock = some w.heap.size) → K (a.put o.dst v') w') : if Region.wanted o (yielded ops a.tmps) = true then Oper.wp Try.prog o a w K Q else E := by
  have hw : Region.wanted o (yielded ops a.tmps) = true := by simp [Region.wanted, hgd]
  rw [if_pos hw]
  obtain ⟨i0, hi0, hz0, hz1, hz2⟩ := info_parts info_numA
  obtain ⟨v', w', hr, h2, h3, _, h5⟩ := run_append_own_at (P := Try.prog) w lo 29 o.type 3 i0 (.int .i64 0) 1 8 Try.underlying29 hi0 hz0 hz1 hz2 rfl (by decide) v ps.length (ps.flatMap numC) hown.1 ⟨b, 0, none⟩ 1 1 (numC p) (numC_len p) (news1 hL) (fun u hu => ones_num [p] u (by simpa using hu)) (by unfold maxLen; omega) (by omega) hlo
  refine Lib.wp_append_run w s x 29 29 ho _ _ hs hx _ _ hr (h v' w' ?_ ?_ h5)
  · unfold NumO
    rw [List.length_append, List.flatMap_append]
    simpa using RowO.top h2
  · refine (But.refl _ _ w).grown h3 (fun g hg => .inr ?_)
    unfold blo bhi
    rw [hg]
    simp
theorem run_build1 (w : World) (x : Int) : (Instr.buildSlice 29 1 #[(0, .int .i64 x)]).run Try.prog w = .ok (.slice (some ⟨w.heap.size, 0, none⟩) 1 1) (w.alloc (.cells #[.int .i64 x] 3)) := by
  obtain ⟨i0, hi0, hz0, hz1, hz2⟩ := info_parts info_numA
  simp [Instr.buildSlice, run_underlying Try.underlying29, sizeOf, typeInfo, hi0, hz0, hz1, zeroValue, go_sem]
theorem step_build {w : World} {ops : Array Oper} {o : Oper} {a : Act} {K : Act → World → Prop} {Q : Exit → Act → World → Prop} {E : Prop} (hgd : o.guard = none) (s : Operand) (ho : o.op = .buildSlice 29 1 #[(0, s)]) {x : Int} (hs : a.eval s = .int .i64 x)
    (h : K (a.put o.dst (.slice (some ⟨w.heap.size, 0, none⟩) 1 1)) (w.alloc (.cells #[.int .i64 x] 3))) : if Region.wanted o (yielded ops a.tmps) = true then Oper.wp Try.prog o a w K Q else E := by
  have hw : Region.wanted o (yielded ops a.tmps) = true := by simp [Region.wanted, hgd]
  rw [if_pos hw]
  have hr := run_build1 w x
  unfold Oper.wp execOp
  simp only [ho, Sem.run_bind, Sem.run_pure, Result.andThen_ok, List.map_toArray, List.map_cons, List.map_nil, hs, hr]
  exact h

def lst (p : Fin 3 → Nat) : Array Bool := #[true, true, decide (0 < p 0), decide (1 < p 0), true, true, true, decide (0 < p 1), decide (1 < p 1), true, true, true, decide (0 < p 2), decide (1 < p 2), false, false, false]
def fn3 (a b c : Nat) : Fin 3 → Nat
  | 0 => a
  | 1 => b
  | 2 => c
def iB : Fin 3 → Nat := fn3 2 7 12
def iA : Fin 3 → Nat := fn3 3 8 13
def sX : Fin 3 → Nat := fn3 27 32 37
def sS : Fin 3 → Nat := fn3 26 30 35
def dB : Fin 3 → Nat := fn3 28 33 38
def dA : Fin 3 → Nat := fn3 29 34 39
def rd (p b a : Nat) : List Nat := if p = 0 then [b] else if p = 1 then [a] else []
def rd2 (q p b a : Nat) : List Nat := if p = 0 then [b] else if p = 1 ∧ q = 2 then [a] else []
def rdy (p : Fin 3 → Nat) : List Nat := rd (p 0) 2 3 ++ rd2 (p 0) (p 1) 7 8 ++ rd2 (p 1) (p 2) 12 13
/-- The appends come one behind the other. -/
def InRow (p : Fin 3 → Nat) : Prop := (p 1 = 2 → p 0 = 2) ∧ (p 2 = 2 → p 1 = 2)
/-- Which operations are ready, as a test over all stands. -/
def readyB (ops : Array Oper) : Bool := [0, 1, 2].all fun a => [0, 1, 2].all fun b => [0, 1, 2].all fun c => (a == 2 && b == 2 && c == 2) || (b == 2 && a != 2) || (c == 2 && b != 2) || (Region.ready .any ops (lst (fn3 a b c)) == rdy (fn3 a b c))
theorem fn3_eta (p : Fin 3 → Nat) : p = fn3 (p 0) (p 1) (p 2) := by
  funext c
  match c with
  | 0 => rfl
  | 1 => rfl
  | 2 => rfl
theorem ready_of {ops : Array Oper} (h : readyB ops = true) (p : Fin 3 → Nat) (hp : ∀ c, p c ≤ 2) (hm : InRow p) (hn : ¬ (p 0 = 2 ∧ p 1 = 2 ∧ p 2 = 2)) : Region.ready .any ops (lst p) = rdy p := by
  rw [fn3_eta p]
  unfold readyB at h
  rw [List.all_eq_true] at h
  have h0 := h (p 0) (by have := hp 0; simp; omega)
  rw [List.all_eq_true] at h0
  have h1 := h0 (p 1) (by have := hp 1; simp; omega)
  rw [List.all_eq_true] at h1
  have h2 := h1 (p 2) (by have := hp 2; simp; omega)
  simp only [Bool.or_eq_true, Bool.and_eq_true, beq_iff_eq, bne_iff_ne] at h2
  rcases h2 with ((h2 | h2) | h2) | h2
  · exact absurd ⟨h2.1.1, h2.1.2, h2.2⟩ hn
  · exact absurd (hm.1 h2.1) h2.2
  · exact absurd (hm.2 h2.1) h2.2
  · exact h2
theorem rdy_way {p : Fin 3 → Nat} {i : Nat} (h : i ∈ rdy p) : ∃ c, (p c = 0 ∧ i = iB c) ∨ (p c = 1 ∧ i = iA c ∧ (c = 1 → p 0 = 2) ∧ (c = 2 → p 1 = 2)) := by
  unfold rdy at h
  simp only [List.mem_append] at h
  rcases h with (h | h) | h
  · refine ⟨0, ?_⟩
    unfold rd at h
    split at h
    · simp at h; exact .inl ⟨by assumption, h⟩
    · split at h
      · simp at h; exact .inr ⟨by assumption, h, fun e => absurd e (by decide), fun e => absurd e (by decide)⟩
      · simp at h
  · refine ⟨1, ?_⟩
    unfold rd2 at h
    split at h
    · simp at h; exact .inl ⟨by assumption, h⟩
    · split at h
      · rename_i hq; simp at h; exact .inr ⟨hq.1, h, fun _ => hq.2, fun e => absurd e (by decide)⟩
      · simp at h
  · refine ⟨2, ?_⟩
    unfold rd2 at h
    split at h
    · simp at h; exact .inl ⟨by assumption, h⟩
    · split at h
      · rename_i hq; simp at h; exact .inr ⟨hq.1, h, fun e => absurd e (by decide), fun _ => hq.2⟩
      · simp at h
def up (p : Fin 3 → Nat) (c : Fin 3) (k : Nat) : Fin 3 → Nat := fun d => if d = c then k else p d
theorem lst_B {p : Fin 3 → Nat} {c : Fin 3} (h : p c = 0) : (lst p).setIfInBounds (iB c) true = lst (up p c 1) := by
  match c with
  | 0 => simp [lst, up, iB, fn3, h]
  | 1 => simp [lst, up, iB, fn3, h]
  | 2 => simp [lst, up, iB, fn3, h]
theorem lst_A {p : Fin 3 → Nat} {c : Fin 3} (h : p c = 1) : (lst p).setIfInBounds (iA c) true = lst (up p c 2) := by
  match c with
  | 0 => simp [lst, up, iA, fn3, h]
  | 1 => simp [lst, up, iA, fn3, h]
  | 2 => simp [lst, up, iA, fn3, h]
theorem but_low {lo hi : Nat} {a b c : World} (h : But lo a.heap.size a b) (k : But lo hi b c) : But lo a.heap.size a c :=
  ⟨k.os.trans h.os, k.out.trans h.out, Nat.le_trans h.size k.size, fun i hi1 ho => by
    have h1 := h.block i hi1 ho
    have h2 := k.block i (Nat.lt_of_lt_of_le hi1 h.size) (by omega)
    exact h2.trans h1⟩
/-- How things stand with the three appends. -/
structure ST (S : World → Prop) (a0 : Act) (w0 : World) (lo bb : Nat) (x : Fin 3 → Int) (L : Fin 3 → List Int) (p : Fin 3 → Nat) (cur : Fin 3 → Value) (g : Fin 3 → Nat) (a : Act) (w : World) : Prop where
  le : ∀ c, p c ≤ 2
  inr : InRow p
  row : ∀ c, NumO w lo w.heap.size (cur c) (if p c = 2 then L c ++ [x c] else L c)
  ap : ∀ c d, c ≠ d → Ap (cur c) (cur d)
  nb : ∀ c, (cur c).ownBlock ≠ some bb
  bbl : bb < w.heap.size
  src : ∀ c, p c < 2 → a.tmps[sS c]? = some (cur c)
  ind : ∀ c, a.tmps[sX c]? = some (.int .i64 (x c))
  new : ∀ c, p c = 1 → a.tmps[dB c]? = some (.slice (some ⟨g c, 0, none⟩) 1 1) ∧ Loc w (g c) [.int .i64 (x c)] ∧ ∀ d, (cur d).ownBlock ≠ some (g c)
  dn : ∀ c, p c = 2 → a.tmps[dA c]? = some (cur c)
  oth : ∀ i, (∀ c, i ≠ dB c ∧ i ≠ dA c) → a.tmps[i]? = a0.tmps[i]?
  siz : a.tmps.size = a0.tmps.size
  dfs : a.defers = a0.defers
  sS : S w
  but : But lo w0.heap.size w0 w
theorem slots (c d : Fin 3) : dB c ≠ sS d ∧ dA c ≠ sS d ∧ dB c ≠ sX d ∧ dA c ≠ sX d ∧ dB c ≠ dA d ∧ (dB c = dB d ↔ c = d) ∧ (dA c = dA d ↔ c = d) ∧ dB c < 91 ∧ dA c < 91 := by
  revert c d
  decide
theorem get_put {a : Act} {d : Nat} {v : Value} {i : Nat} : (a.put (some d) v).tmps[i]? = if d = i then (if d < a.tmps.size then some v else none) else a.tmps[i]? := by
  simp only [Act.put]
  rw [Array.getElem?_setIfInBounds]
theorem eval_of {a : Act} {i : Nat} {v : Value} (h : a.tmps[i]? = some v) : a.eval (.tmp i) = v := by
  simp [Act.eval, Array.getD_eq_getD_getElem?, h]
section
variable {S : World → Prop} {a0 : Act} {w0 : World} {lo bb : Nat} {x : Fin 3 → Int} {L : Fin 3 → List Int} {p : Fin 3 → Nat} {cur : Fin 3 → Value} {g : Fin 3 → Nat} {a : Act} {w : World}
theorem ST.build (h : ST S a0 w0 lo bb x L p cur g a w) (hsz : a0.tmps.size = 91) (hSk : ∀ w w', Kept w w' → S w → S w') {c : Fin 3} (hc : p c = 0) :
    ST S a0 w0 lo bb x L (up p c 1) cur (up g c w.heap.size) (a.put (some (dB c)) (.slice (some ⟨w.heap.size, 0, none⟩) 1 1)) (w.alloc (.cells #[.int .i64 (x c)] 3)) := by
  have hk : Kept w (w.alloc (.cells #[.int .i64 (x c)] 3)) := (But.refl _ _ w).alloc _
  have hsz2 : a.tmps.size = 91 := h.siz.trans hsz
  have hwz : (w.alloc (.cells #[.int .i64 (x c)] 3)).heap.size = w.heap.size + 1 := by simp
  refine ⟨fun d => ?_, ?_, fun d => ?_, h.ap, h.nb, by rw [hwz]; have := h.bbl; omega, fun d hd => ?_, fun d => ?_, fun d hd => ?_, fun d hd => ?_, fun i hi => ?_, ?_, h.dfs, hSk _ _ hk h.sS, ?_⟩
  · unfold up; split
    · omega
    · exact h.le d
  · have hi := h.inr
    match c with
    | 0 => exact ⟨fun e => by have e' : p 1 = 2 := e; have := hi.1 e'; omega, fun e => hi.2 e⟩
    | 1 => exact ⟨fun e => absurd (show (1 : Nat) = 2 from e) (by decide), fun e => by have e' : p 2 = 2 := e; have := hi.2 e'; omega⟩
    | 2 => exact ⟨fun e => hi.1 e, fun e => absurd (show (1 : Nat) = 2 from e) (by decide)⟩
  · have := ((h.row d).kept hk).mono (Nat.le_refl _) hk.size
    unfold up
    split
    · rename_i e
      subst e
      rw [if_neg (by omega)]
      rw [if_neg (by omega)] at this
      exact this
    · exact this
  · rw [get_put, if_neg (slots c d).1]
    refine h.src d ?_
    unfold up at hd
    split at hd
    · rename_i e; subst e; omega
    · exact hd
  · rw [get_put, if_neg (slots c d).2.2.1]
    exact h.ind d
  · unfold up at hd ⊢
    split at hd
    · rename_i e
      subst e
      rw [if_pos rfl, get_put, if_pos rfl, if_pos (by rw [hsz2]; exact (slots d d).2.2.2.2.2.2.2.1)]
      refine ⟨rfl, Loc.new w [.int .i64 (x d)] 3, fun e he => ?_⟩
      have := ((h.row e).1.lt _ he).2
      omega
    · rename_i e
      rw [if_neg e, get_put, if_neg (fun e' => e ((slots c d).2.2.2.2.2.1.1 e').symm)]
      have := h.new d hd
      exact ⟨this.1, this.2.1.kept hk, this.2.2⟩
  · rw [get_put, if_neg (slots c d).2.2.2.2.1]
    refine h.dn d ?_
    unfold up at hd
    split at hd
    · omega
    · exact hd
  · rw [get_put, if_neg (fun e => (hi c).1 e.symm)]
    exact h.oth i hi
  · simp only [Act.put, Array.size_setIfInBounds]
    exact h.siz
  · exact h.but.alloc _
theorem ST.append (h : ST S a0 w0 lo bb x L p cur g a w) (hsz : a0.tmps.size = 91) (hlo : lo ≤ w0.heap.size) {c : Fin 3} (hc : p c = 1) (hc1 : c = 1 → p 0 = 2) (hc2 : c = 2 → p 1 = 2) {v' : Value} {w' : World} (hS : S w') (hr : NumO w' lo w'.heap.size v' (L c ++ [x c]))
    (hb : But (blo (cur c)) (bhi (cur c)) w w') (ho : v'.ownBlock = (cur c).ownBlock ∨ v'.ownBlock = some w.heap.size) :
    ST S a0 w0 lo bb x L (up p c 2) (fun d => if d = c then v' else cur d) g (a.put (some (dA c)) v') w' := by
  have hsz2 : a.tmps.size = 91 := h.siz.trans hsz
  have hfresh : ∀ b, b < w.heap.size → (cur c).ownBlock ≠ some b → v'.ownBlock ≠ some b := fun b hb1 hb2 e => by
    rcases ho with ho | ho
    · exact hb2 (ho.symm.trans e)
    · rw [ho] at e
      cases e
      omega
  refine ⟨fun d => ?_, ?_, fun d => ?_, fun d e hde => ?_, fun d => ?_, Nat.lt_of_lt_of_le h.bbl hb.size, fun d hd => ?_, fun d => ?_, fun d hd => ?_, fun d hd => ?_, fun i hi => ?_, ?_, h.dfs, hS, ?_⟩
  · unfold up; split
    · omega
    · exact h.le d
  · have hi := h.inr
    match c with
    | 0 => exact ⟨fun _ => rfl, fun e => hi.2 e⟩
    | 1 => exact ⟨fun _ => hc1 rfl, fun _ => rfl⟩
    | 2 => exact ⟨fun e => hi.1 e, fun _ => hc2 rfl⟩
  · unfold up
    by_cases e : d = c
    · subst e
      rw [if_pos rfl, if_pos rfl, if_pos rfl]
      exact hr
    · rw [if_neg e, if_neg e]
      exact (RowO.apart (h.row d) hb (h.ap d c e)).mono (Nat.le_refl _) hb.size
  · by_cases e1 : d = c
    · subst e1
      rw [if_pos rfl, if_neg (fun e => hde e.symm)]
      exact (ap1_num (h.row e) (h.ap e d (fun e' => hde e'.symm)) ho).symm
    · rw [if_neg e1]
      by_cases e2 : e = c
      · subst e2
        rw [if_pos rfl]
        exact ap1_num (h.row d) (h.ap d e e1) ho
      · rw [if_neg e2]
        exact h.ap d e hde
  · by_cases e : d = c
    · subst e
      rw [if_pos rfl]
      exact hfresh bb h.bbl (h.nb d)
    · rw [if_neg e]
      exact h.nb d
  · unfold up at hd
    split at hd
    · omega
    · rename_i e
      rw [if_neg e, get_put, if_neg (slots c d).2.1]
      exact h.src d hd
  · rw [get_put, if_neg (slots c d).2.2.2.1]
    exact h.ind d
  · unfold up at hd
    split at hd
    · omega
    · rename_i e
      obtain ⟨n1, n2, n3⟩ := h.new d hd
      have hcb := n3 c
      refine ⟨?_, n2.but hb ?_, fun d' => ?_⟩
      · rw [get_put, if_neg (fun e' => (slots d c).2.2.2.2.1 e'.symm)]
        exact n1
      · unfold blo bhi
        cases hob : (cur c).ownBlock with
        | none => simp
        | some y =>
          rw [hob] at hcb
          have : y ≠ g d := fun e => hcb (by rw [e])
          simp only [Option.getD_some]
          omega
      · by_cases e' : d' = c
        · rw [if_pos e']
          exact hfresh _ n2.lt hcb
        · rw [if_neg e']
          exact n3 d'
  · unfold up at hd
    by_cases e : d = c
    · subst e
      rw [if_pos rfl, get_put, if_pos rfl, if_pos (by rw [hsz2]; exact (slots d d).2.2.2.2.2.2.2.2)]
    · rw [if_neg e] at hd ⊢
      rw [get_put, if_neg (fun e' => e ((slots c d).2.2.2.2.2.2.1.1 e').symm)]
      exact h.dn d hd
  · rw [get_put, if_neg (fun e => (hi c).2 e.symm)]
    exact h.oth i hi
  · simp only [Act.put, Array.size_setIfInBounds]
    exact h.siz
  · exact but_low h.but (But.inner hb (h.row c))
end
/-- The facts of the six operations. -/
structure Six (ops : Array Oper) : Prop where
  rdy : readyB ops = true
  opB : ∀ c, ∃ o, ops[iB c]? = some o ∧ o.guard = none ∧ o.dst = some (dB c) ∧ o.op = .buildSlice 29 1 #[(0, .tmp (sX c))]
  opA : ∀ c, ∃ o, ops[iA c]? = some o ∧ o.guard = none ∧ o.dst = some (dA c) ∧ o.op = .call { callee := .builtin .append, args := #[.tmp (sS c), .tmp (dB c)], argTypes := #[29, 29] }
theorem ix_lt (c : Fin 3) : iB c ≠ 99 ∧ iA c ≠ 99 := by revert c; decide
theorem up_sum (p : Fin 3 → Nat) (c : Fin 3) (k : Nat) : up p c k 0 + up p c k 1 + up p c k 2 + p c = p 0 + p 1 + p 2 + k := by
  match c with
  | 0 => simp [up]; omega
  | 1 => simp [up]; omega
  | 2 => simp [up]; omega
theorem three {ops : Array Oper} {Q : Exit → Act → World → Prop} {S : World → Prop} {a0 : Act} {w0 : World} {lo bb : Nat} {x : Fin 3 → Int} {L : Fin 3 → List Int} (H : Six ops) (hsz : a0.tmps.size = 91) (hlo : lo ≤ w0.heap.size)
    (hSk : ∀ w w', Kept w w' → S w → S w') (hSb : ∀ w w' lo hi, But lo hi w w' → (bb < lo ∨ hi ≤ bb) → S w → S w') (hL : ∀ c, (L c).length ≤ 1000)
    (fin : ∀ cur g a w, ST S a0 w0 lo bb x L (fun _ => 2) cur g a w → wpAnyZ Try.prog .any ops Q S 99 3 (lst fun _ => 2) a w) :
    ∀ (n : Nat) (p : Fin 3 → Nat) (cur : Fin 3 → Value) (g : Fin 3 → Nat) (a : Act) (w : World), n + (p 0 + p 1 + p 2) = 6 → ST S a0 w0 lo bb x L p cur g a w → wpAnyZ Try.prog .any ops Q S 99 (n + 3) (lst p) a w := by
  intro n
  induction n with
  | zero =>
    intro p cur g a w hn h
    have h0 := h.le 0
    have h1 := h.le 1
    have h2 := h.le 2
    have e : p = fun _ => 2 := by
      rw [fn3_eta p]
      have e0 : p 0 = 2 := by omega
      have e1 : p 1 = 2 := by omega
      have e2 : p 2 = 2 := by omega
      rw [e0, e1, e2]
      exact (fn3_eta fun _ => 2).symm
    subst e
    exact fin cur g a w h
  | succ n ih =>
    intro p cur g a w hn h
    have hr := ready_of H.rdy p h.le h.inr (by omega)
    have hne : rdy p ≠ [] := fun e => by
      unfold rdy at e
      simp only [List.append_eq_nil_iff] at e
      have l0 := h.le 0
      have l1 := h.le 1
      have l2 := h.le 2
      have k0 : p 0 = 2 := by
        have := e.1.1
        unfold rd at this
        split at this
        · cases this
        · split at this
          · cases this
          · omega
      have key : ∀ q r b c : Nat, q = 2 → r ≤ 2 → rd2 q r b c = [] → r = 2 := fun q r b c hq hr he => by
        unfold rd2 at he
        split at he
        · cases he
        · split at he
          · cases he
          · omega
      have k1 := key _ _ _ _ k0 l1 e.1.2
      have k2 := key _ _ _ _ k1 l2 e.2
      omega
    refine ⟨fun e => by rw [hr] at e; exact absurd e hne, fun i hi => ?_⟩
    rw [hr] at hi
    obtain ⟨c, ⟨hc, rfl⟩ | ⟨hc, rfl, hc1, hc2⟩⟩ := rdy_way hi
    · obtain ⟨o, ho, hg, hd, hop⟩ := H.opB c
      have h' := h.build hsz hSk hc
      refine wpOp_step ho fun K' hK => step_build hg _ hop (eval_of (h.ind c)) ?_
      rw [hd]
      refine hK _ _ ⟨fun _ => h'.sS, ?_⟩
      rw [lst_B hc]
      exact ih _ _ _ _ _ (by have := up_sum p c 1; omega) h'
    · obtain ⟨o, ho, hg, hd, hop⟩ := H.opA c
      obtain ⟨n1, n2, n3⟩ := h.new c hc
      have hrow := h.row c
      rw [if_neg (by omega)] at hrow
      refine wpOp_step ho fun K' hK => step_num hg _ _ hop (eval_of (h.src c (by omega))) hrow (x c) (eval_of n1) n2 (by have := hL c; omega) (Nat.le_trans hlo h.but.size) fun v' w' r1 r2 r3 => ?_
      have hS' : S w' := by
        refine hSb w w' _ _ r2 ?_ h.sS
        have hcb := h.nb c
        unfold blo bhi
        cases hob : (cur c).ownBlock with
        | none => simp
        | some y =>
          rw [hob] at hcb
          have : y ≠ bb := fun e => hcb (by rw [e])
          simp only [Option.getD_some]
          omega
      have h' := h.append hsz hlo hc hc1 hc2 hS' r1 r2 r3
      rw [hd]
      refine hK _ _ ⟨fun _ => hS', ?_⟩
      rw [lst_A hc]
      exact ih _ _ _ _ _ (by have := up_sum p c 2; omega) h'

end Go.Proofs.Ytaofilinejanjaa
