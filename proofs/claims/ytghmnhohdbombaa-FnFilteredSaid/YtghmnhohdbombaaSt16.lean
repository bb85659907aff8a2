/-
  Filters, memories and turns: structs of floats: how they come in, are copied and compared.
-/
import Derived.Test.YtghmnhohdbombaaFltM
import Derived.Test.YtghmnhohdbombaaTurn
namespace Go.Proofs.Ytghmnhohdbombaa
open Go.ChangeShapes Go.WideShapes Go.ChangeAt Go.RowKit Ieee
abbrev FilterD := Nat × Nat × Nat × Nat × Nat
def filterC (p : FilterD) : List Value := [.float .f64 p.1, .float .f64 p.2.1, .float .f64 p.2.2.1, .float .f64 p.2.2.2.1, .float .f64 p.2.2.2.2]
theorem filterC_len (p : FilterD) : (filterC p).length = 5 := rfl
def FilterOk (p : FilterD) : Prop := p.1 < 18446744073709551616 ∧ p.2.1 < 18446744073709551616 ∧ p.2.2.1 < 18446744073709551616 ∧ p.2.2.2.1 < 18446744073709551616 ∧ p.2.2.2.2 < 18446744073709551616

abbrev MemoryD := Nat × Nat
def memoryC (p : MemoryD) : List Value := [.float .f64 p.1, .float .f64 p.2]
theorem memoryC_len (p : MemoryD) : (memoryC p).length = 2 := rfl
def MemoryOk (p : MemoryD) : Prop := p.1 < 18446744073709551616 ∧ p.2 < 18446744073709551616

abbrev TurnD := Nat × Nat
def turnC (p : TurnD) : List Value := [.float .f64 p.1, .float .f64 p.2]
theorem turnC_len (p : TurnD) : (turnC p).length = 2 := rfl
def TurnOk (p : TurnD) : Prop := p.1 < 18446744073709551616 ∧ p.2 < 18446744073709551616
section
variable {H : Type} {enc : TypeId × Value → H} {w : World} {base : Nat} {spare : Nat → Bool} {held : Bool}
set_option maxRecDepth 100000
open Go.Deep
theorem open_filter {fuel : Nat} {cs : List Value} {x : DataW H × List MemPlace} (h : DataW.trod enc Try.prog w base spare held fuel 34 cs = some x) : ∃ p : FilterD, cs = filterC p ∧ FilterOk p := by
  obtain ⟨xs, n, _, rfl, hl, hlen, hf⟩ := DataW.trod_struct Try.underlying34 h
  match xs, hlen with
  | [y0, y1, y2, y3, y4], _ =>
    have h0 : DataW.trod enc Try.prog w base spare held n 23 ((cs.drop 0).take (Try.prog.cellsOf 23)) = some y0 := by simpa using hf 0 _ rfl
    obtain ⟨a0, e0, _, s0⟩ := trod_float Try.underlying23 h0
    replace s0 : a0 < 18446744073709551616 := by simpa [Lit.wf] using s0
    have h1 : DataW.trod enc Try.prog w base spare held n 23 ((cs.drop 1).take (Try.prog.cellsOf 23)) = some y1 := by simpa using hf 1 _ rfl
    obtain ⟨a1, e1, _, s1⟩ := trod_float Try.underlying23 h1
    replace s1 : a1 < 18446744073709551616 := by simpa [Lit.wf] using s1
    have h2 : DataW.trod enc Try.prog w base spare held n 23 ((cs.drop 2).take (Try.prog.cellsOf 23)) = some y2 := by simpa using hf 2 _ rfl
    obtain ⟨a2, e2, _, s2⟩ := trod_float Try.underlying23 h2
    replace s2 : a2 < 18446744073709551616 := by simpa [Lit.wf] using s2
    have h3 : DataW.trod enc Try.prog w base spare held n 23 ((cs.drop 3).take (Try.prog.cellsOf 23)) = some y3 := by simpa using hf 3 _ rfl
    obtain ⟨a3, e3, _, s3⟩ := trod_float Try.underlying23 h3
    replace s3 : a3 < 18446744073709551616 := by simpa [Lit.wf] using s3
    have h4 : DataW.trod enc Try.prog w base spare held n 23 ((cs.drop 4).take (Try.prog.cellsOf 23)) = some y4 := by simpa using hf 4 _ rfl
    obtain ⟨a4, e4, _, s4⟩ := trod_float Try.underlying23 h4
    replace s4 : a4 < 18446744073709551616 := by simpa [Lit.wf] using s4
    rw [show Try.prog.cellsOf 34 = 5 by kernel_rfl] at hl
    match cs, hl with
    | [c0, c1, c2, c3, c4], _ =>
      simp [show Try.prog.cellsOf 23 = 1 by kernel_rfl] at e0 e1 e2 e3 e4
      subst e0 e1 e2 e3 e4
      exact ⟨(a0, a1, a2, a3, a4), rfl, s0, s1, s2, s3, s4⟩
theorem open_filterV {v : Value} {d : DataW H} {ps : List MemPlace} {r : Reach} {b0 : Nat} (hval : Value.okWide Try.prog w r b0 34 v) (hd : DataW.Trod enc Try.prog w base spare held 34 v d ps) : ∃ p : FilterD, v = .agg (filterC p).toArray ∧ FilterOk p := by
  obtain ⟨cs, rfl, hsz⟩ := okWide_struct Try.underlying34 hval
  obtain ⟨l⟩ := cs
  obtain ⟨fuel, hf⟩ := hd
  obtain ⟨p, hp, hq⟩ := open_filter hf
  refine ⟨p, ?_, hq⟩
  simp only [Value.cells] at hp
  rw [← hp]
theorem open_memory {fuel : Nat} {cs : List Value} {x : DataW H × List MemPlace} (h : DataW.trod enc Try.prog w base spare held fuel 38 cs = some x) : ∃ p : MemoryD, cs = memoryC p ∧ MemoryOk p := by
  obtain ⟨xs, n, _, rfl, hl, hlen, hf⟩ := DataW.trod_struct Try.underlying38 h
  match xs, hlen with
  | [y0, y1], _ =>
    have h0 : DataW.trod enc Try.prog w base spare held n 23 ((cs.drop 0).take (Try.prog.cellsOf 23)) = some y0 := by simpa using hf 0 _ rfl
    obtain ⟨a0, e0, _, s0⟩ := trod_float Try.underlying23 h0
    replace s0 : a0 < 18446744073709551616 := by simpa [Lit.wf] using s0
    have h1 : DataW.trod enc Try.prog w base spare held n 23 ((cs.drop 1).take (Try.prog.cellsOf 23)) = some y1 := by simpa using hf 1 _ rfl
    obtain ⟨a1, e1, _, s1⟩ := trod_float Try.underlying23 h1
    replace s1 : a1 < 18446744073709551616 := by simpa [Lit.wf] using s1
    rw [show Try.prog.cellsOf 38 = 2 by kernel_rfl] at hl
    match cs, hl with
    | [c0, c1], _ =>
      simp [show Try.prog.cellsOf 23 = 1 by kernel_rfl] at e0 e1
      subst e0 e1
      exact ⟨(a0, a1), rfl, s0, s1⟩
theorem open_memoryV {v : Value} {d : DataW H} {ps : List MemPlace} {r : Reach} {b0 : Nat} (hval : Value.okWide Try.prog w r b0 38 v) (hd : DataW.Trod enc Try.prog w base spare held 38 v d ps) : ∃ p : MemoryD, v = .agg (memoryC p).toArray ∧ MemoryOk p := by
  obtain ⟨cs, rfl, hsz⟩ := okWide_struct Try.underlying38 hval
  obtain ⟨l⟩ := cs
  obtain ⟨fuel, hf⟩ := hd
  obtain ⟨p, hp, hq⟩ := open_memory hf
  refine ⟨p, ?_, hq⟩
  simp only [Value.cells] at hp
  rw [← hp]
theorem open_turn {fuel : Nat} {cs : List Value} {x : DataW H × List MemPlace} (h : DataW.trod enc Try.prog w base spare held fuel 52 cs = some x) : ∃ p : TurnD, cs = turnC p ∧ TurnOk p := by
  obtain ⟨xs, n, _, rfl, hl, hlen, hf⟩ := DataW.trod_struct Try.underlying52 h
  match xs, hlen with
  | [y0, y1], _ =>
    have h0 : DataW.trod enc Try.prog w base spare held n 23 ((cs.drop 0).take (Try.prog.cellsOf 23)) = some y0 := by simpa using hf 0 _ rfl
    obtain ⟨a0, e0, _, s0⟩ := trod_float Try.underlying23 h0
    replace s0 : a0 < 18446744073709551616 := by simpa [Lit.wf] using s0
    have h1 : DataW.trod enc Try.prog w base spare held n 23 ((cs.drop 1).take (Try.prog.cellsOf 23)) = some y1 := by simpa using hf 1 _ rfl
    obtain ⟨a1, e1, _, s1⟩ := trod_float Try.underlying23 h1
    replace s1 : a1 < 18446744073709551616 := by simpa [Lit.wf] using s1
    rw [show Try.prog.cellsOf 52 = 2 by kernel_rfl] at hl
    match cs, hl with
    | [c0, c1], _ =>
      simp [show Try.prog.cellsOf 23 = 1 by kernel_rfl] at e0 e1
      subst e0 e1
      exact ⟨(a0, a1), rfl, s0, s1⟩
theorem open_turnV {v : Value} {d : DataW H} {ps : List MemPlace} {r : Reach} {b0 : Nat} (hval : Value.okWide Try.prog w r b0 52 v) (hd : DataW.Trod enc Try.prog w base spare held 52 v d ps) : ∃ p : TurnD, v = .agg (turnC p).toArray ∧ TurnOk p := by
  obtain ⟨cs, rfl, hsz⟩ := okWide_struct Try.underlying52 hval
  obtain ⟨l⟩ := cs
  obtain ⟨fuel, hf⟩ := hd
  obtain ⟨p, hp, hq⟩ := open_turn hf
  refine ⟨p, ?_, hq⟩
  simp only [Value.cells] at hp
  rw [← hp]
end

theorem toFilter (f0 f1 f2 f3 f4 : Nat) (w : World) :
    Calls Try.prog 14 #[.agg #[.float .f64 f0, .float .f64 f1, .float .f64 f2, .float .f64 f3, .float .f64 f4]] w fun e w' => e = .returned (.agg #[.float .f64 f0, .float .f64 f1, .float .f64 f2, .float .f64 f3, .float .f64 f4]) ∧ Kept w w' := by
  go_enter Try.func14, Try.ntmps14
  go_wp2
  refine bodyPost_ret (v := .agg #[.float .f64 f0, .float .f64 f1, .float .f64 f2, .float .f64 f3, .float .f64 f4]) (by simp [results, Try.results14, go_sem]) rfl ?_
  exact ⟨rfl, (((But.refl _ _ _).alloc _).alloc _).alloc _⟩

theorem toMemory (f0 f1 : Nat) (w : World) :
    Calls Try.prog 16 #[.agg #[.float .f64 f0, .float .f64 f1]] w fun e w' => e = .returned (.agg #[.float .f64 f0, .float .f64 f1]) ∧ Kept w w' := by
  go_enter Try.func16, Try.ntmps16
  go_wp2
  refine bodyPost_ret (v := .agg #[.float .f64 f0, .float .f64 f1]) (by simp [results, Try.results16, go_sem]) rfl ?_
  exact ⟨rfl, (((But.refl _ _ _).alloc _).alloc _).alloc _⟩

theorem toTurn (f0 f1 : Nat) (w : World) :
    Calls Try.prog 28 #[.agg #[.float .f64 f0, .float .f64 f1]] w fun e w' => e = .returned (.agg #[.float .f64 f0, .float .f64 f1]) ∧ Kept w w' := by
  go_enter Try.func28, Try.ntmps28
  go_wp2
  refine bodyPost_ret (v := .agg #[.float .f64 f0, .float .f64 f1]) (by simp [results, Try.results28, go_sem]) rfl ?_
  exact ⟨rfl, (((But.refl _ _ _).alloc _).alloc _).alloc _⟩

theorem eqMemory (f0 f1 : Nat) (w : World) :
    Calls Try.prog 19 #[.agg #[.float .f64 f0, .float .f64 f1], .agg #[.float .f64 f0, .float .f64 f1]] w fun e w' => e = .returned (.bool true) ∧ Kept w w' := by
  go_enter Try.func19, Try.ntmps19
  go_wp2_with (first | (go_at_call 30; refine (sameFloat _ _ rfl _).mono ?_; rintro e w' ⟨rfl, rfl⟩))
  go_ret
  exact ⟨rfl, ((But.refl _ _ _).alloc _).alloc _⟩

theorem eqTurn (f0 f1 : Nat) (w : World) :
    Calls Try.prog 57 #[.agg #[.float .f64 f0, .float .f64 f1], .agg #[.float .f64 f0, .float .f64 f1]] w fun e w' => e = .returned (.bool true) ∧ Kept w w' := by
  go_enter Try.func57, Try.ntmps57
  go_wp2_with (first | (go_at_call 30; refine (sameFloat _ _ rfl _).mono ?_; rintro e w' ⟨rfl, rfl⟩))
  go_ret
  exact ⟨rfl, ((But.refl _ _ _).alloc _).alloc _⟩

theorem eqFilter (f0 f1 f2 f3 f4 : Nat) (w : World) :
    Calls Try.prog 79 #[.agg #[.float .f64 f0, .float .f64 f1, .float .f64 f2, .float .f64 f3, .float .f64 f4], .agg #[.float .f64 f0, .float .f64 f1, .float .f64 f2, .float .f64 f3, .float .f64 f4]] w fun e w' => e = .returned (.bool true) ∧ Kept w w' := by
  go_enter Try.func79, Try.ntmps79
  go_wp2_with (first | (go_at_call 30; refine (sameFloat _ _ rfl _).mono ?_; rintro e w' ⟨rfl, rfl⟩))
  go_ret
  exact ⟨rfl, ((But.refl _ _ _).alloc _).alloc _⟩

end Go.Proofs.Ytghmnhohdbombaa
