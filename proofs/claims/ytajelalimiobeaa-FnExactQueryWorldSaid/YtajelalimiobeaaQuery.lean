/-
  Queries: weighed, copied, held against each other, marked; which are good.
-/
import Derived.Test.YtajelalimiobeaaOne
import Derived.Test.YtajelalimiobeaaEq
import Derived.Test.YtajelalimiobeaaOpen
namespace Go.Proofs.Ytajelalimiobeaa
open Go.ChangeShapes Go.WideShapes Go.ChangeAt Go.RowKit

/-- A query: with, without, since. -/
abbrev QD := List ByteArray × List ByteArray × Int
def QAt (w : World) (v : Value) (Q : QD) : Prop := ∃ ao n cap ao' n' cap', v = .agg #[.slice ao n cap, .slice ao' n' cap', .int .i64 Q.2.2] ∧ OneAt cS w (.slice ao n cap) Q.1 ∧ OneAt cS w (.slice ao' n' cap') Q.2.1
def QO (w : World) (lo hi : Nat) (v : Value) (Q : QD) : Prop := ∃ ao n cap ao' n' cap', v = .agg #[.slice ao n cap, .slice ao' n' cap', .int .i64 Q.2.2] ∧ OneO cS 9 w lo hi (.slice ao n cap) Q.1 ∧ OneO cS 9 w lo hi (.slice ao' n' cap') Q.2.1 ∧ Ap (.slice ao n cap) (.slice ao' n' cap')
theorem QAt.kept {w w' : World} {v : Value} {Q : QD} (h : QAt w v Q) (k : Kept w w') : QAt w' v Q := by
  obtain ⟨a, b, c, d, e, f, h1, h2, h3⟩ := h
  exact ⟨a, b, c, d, e, f, h1, h2.kept k, h3.kept k⟩
theorem QO.at {w : World} {lo hi : Nat} {v : Value} {Q : QD} (h : QO w lo hi v Q) : QAt w v Q := by
  obtain ⟨a, b, c, d, e, f, h1, h2, h3, _⟩ := h
  exact ⟨a, b, c, d, e, f, h1, h2.at, h3.at⟩
theorem QO.but {w w' : World} {lo hi lo' hi' : Nat} {v : Value} {Q : QD} (h : QO w lo hi v Q) (k : But lo' hi' w w') (ho : hi ≤ lo' ∨ hi' ≤ lo) : QO w' lo hi v Q := by
  obtain ⟨a, b, c, d, e, f, h1, h2, h3, h4⟩ := h
  exact ⟨a, b, c, d, e, f, h1, RowO.but h2 k ho, RowO.but h3 k ho, h4⟩
theorem QO.kept {w w' : World} {lo hi : Nat} {v : Value} {Q : QD} (h : QO w lo hi v Q) (k : Kept w w') : QO w' lo hi v Q := h.but k (by omega)
theorem QAt.form {w : World} {v : Value} {Q : QD} (h : QAt w v Q) : ∃ ao n cap ao' n' cap', v = .agg #[.slice ao n cap, .slice ao' n' cap', .int .i64 Q.2.2] := by
  obtain ⟨a, b, c, d, e, f, h1, _⟩ := h
  exact ⟨a, b, c, d, e, f, h1⟩
def qcost (Q : QD) : Nat := scost Q.1 + scost Q.2.1
def FitsQ (Q : QD) : Prop := (Q.1.length ≤ 9223372036854775807 ∧ ∀ p ∈ Q.1, p.size ≤ 9223372036854775807) ∧ (Q.2.1.length ≤ 9223372036854775807 ∧ ∀ p ∈ Q.2.1, p.size ≤ 9223372036854775807)

theorem szQuery (Q : QD) (v : Value) (left : Int) (w : World) (hv : QAt w v Q) (hl : 0 ≤ left) (hm : left ≤ 1048576) (hf : FitsQ Q) :
    Calls Try.prog 38 #[v, .int .i64 left] w fun e w' => e = .returned (.int .i64 (leftOf left (qcost Q))) ∧ Kept w w' := by
  obtain ⟨ao, n, cap, ao', n', cap', rfl, h1, h2⟩ := hv
  by_cases c1 : (scost Q.1 : Int) ≤ left
  · have d1 : decide (left - (scost Q.1 : Int) < 0) = false := by simp; omega
    by_cases c2 : (scost Q.2.1 : Int) ≤ left - scost Q.1
    · have d2 : decide (left - (scost Q.1 : Int) - (scost Q.2.1 : Int) < 0) = false := by simp; omega
      go_enter Try.func38, Try.ntmps38
      go_wp2_with fail
      go_at_call 81; refine (szStringS Q.1 _ _ _ (h1.kept ((But.refl _ _ _).alloc _)) hl hm hf.1.1 hf.1.2).mono ?_; rintro e u1 ⟨rfl, k1⟩
      rw [leftOf_yes c1]
      have L := (Loc.new w [.slice ao n cap, .slice ao' n' cap', .int .i64 Q.2.2] 66).kept k1
      have l1 := L.cell 1 rfl
      have K1 : Kept w u1 := ((But.refl _ _ _).alloc _).trans k1
      go_wp2_with fail
      go_at_call 81; refine (szStringS Q.2.1 _ _ _ (h2.kept K1) (by omega) (by omega) hf.2.1 hf.2.2).mono ?_; rintro e u2 ⟨rfl, k2⟩
      rw [leftOf_yes c2]
      go_wp2
      go_ret
      exact ⟨ret_int (by rw [leftOf_yes (by unfold qcost; omega)]; unfold qcost; omega), K1.trans k2⟩
    · go_enter Try.func38, Try.ntmps38
      go_wp2_with fail
      go_at_call 81; refine (szStringS Q.1 _ _ _ (h1.kept ((But.refl _ _ _).alloc _)) hl hm hf.1.1 hf.1.2).mono ?_; rintro e u1 ⟨rfl, k1⟩
      rw [leftOf_yes c1]
      have L := (Loc.new w [.slice ao n cap, .slice ao' n' cap', .int .i64 Q.2.2] 66).kept k1
      have l1 := L.cell 1 rfl
      have K1 : Kept w u1 := ((But.refl _ _ _).alloc _).trans k1
      go_wp2_with fail
      go_at_call 81; refine (szStringS Q.2.1 _ _ _ (h2.kept K1) (by omega) (by omega) hf.2.1 hf.2.2).mono ?_; rintro e u2 ⟨rfl, k2⟩
      rw [leftOf_no (by omega)]
      go_wp2
      go_ret
      exact ⟨ret_int (leftOf_no (by unfold qcost; omega)).symm, K1.trans k2⟩
  · go_enter Try.func38, Try.ntmps38
    go_wp2_with fail
    go_at_call 81; refine (szStringS Q.1 _ _ _ (h1.kept ((But.refl _ _ _).alloc _)) hl hm hf.1.1 hf.1.2).mono ?_; rintro e u1 ⟨rfl, k1⟩
    rw [leftOf_no (by omega)]
    go_wp2
    go_ret
    exact ⟨ret_int (leftOf_no (by unfold qcost; omega)).symm, ((But.refl _ _ _).alloc _).trans k1⟩

theorem eqQuery (Q : QD) (v v' : Value) (w : World) (hv : QAt w v Q) (hv' : QAt w v' Q) (hl : qcost Q ≤ 1048576) :
    Calls Try.prog 41 #[v, v'] w fun e w' => e = .returned (.bool true) ∧ Kept w w' := by
  obtain ⟨ao, n, cap, ao', n', cap', rfl, h1, h2⟩ := hv
  obtain ⟨bo, m, dap, bo', m', dap', rfl, g1, g2⟩ := hv'
  have K : ∀ o o', Kept w ((w.alloc o).alloc o') := fun o o' => ((But.refl _ _ _).alloc _).alloc _
  go_enter Try.func41, Try.ntmps41
  go_wp2_with fail
  go_at_call 83; refine (eqStringS Q.1 _ _ _ (h1.kept (K _ _)) (g1.kept (K _ _)) (by unfold qcost scost at hl; omega)).mono ?_; rintro e u1 ⟨rfl, k1⟩
  have L0 := ((Loc.new w [.slice ao n cap, .slice ao' n' cap', .int .i64 Q.2.2] 28).alloc (.cells #[.slice bo m dap, .slice bo' m' dap', .int .i64 Q.2.2] 28)).kept k1
  have L1 := (Loc.new (w.alloc (.cells #[.slice ao n cap, .slice ao' n' cap', .int .i64 Q.2.2] 28)) [.slice bo m dap, .slice bo' m' dap', .int .i64 Q.2.2] 28).kept k1
  simp only [World.size_alloc] at L1
  have K1 : Kept w u1 := (K _ _).trans k1
  have a1 := L0.cell 1 rfl
  have b1 := L1.cell 1 rfl
  go_wp2_with fail
  go_at_call 83; refine (eqStringS Q.2.1 _ _ _ (h2.kept K1) (g2.kept K1) (by unfold qcost scost at hl; omega)).mono ?_; rintro e u2 ⟨rfl, k2⟩
  have a2 := (L0.kept k2).cell 2 rfl
  have b2 := (L1.kept k2).cell 2 rfl
  go_wp2
  go_ret
  exact ⟨rfl, K1.trans k2⟩

/-- A mark over a query's lists: what else is there stays. -/
theorem markQuery (Q : QD) (v : Value) (k lo hi : Nat) (w : World) (hv : QO w lo hi v Q) (hb : k + qcost Q ≤ 1000000000000) :
    Calls Try.prog 42 #[v, .int .i64 (k : Int)] w fun e w' => (∃ m : Nat, e = .returned (.int .i64 (m : Int))) ∧ But lo hi w w' := by
  obtain ⟨ao, n, cap, ao', n', cap', rfl, h1, h2, h3⟩ := hv
  have hc1 : Q.1.length ≤ qcost Q := by unfold qcost scost; omega
  have hc2 : Q.1.length + Q.2.1.length ≤ qcost Q := by unfold qcost scost; omega
  go_enter Try.func42, Try.ntmps42
  go_wp2_with fail
  go_at_call 84; refine (markStringS Q.1 _ k lo hi _ (h1.kept ((But.refl _ _ _).alloc _)) (by omega)).mono ?_; rintro e u1 ⟨rfl, _, k1⟩
  have hlw : w.heap.size < w.heap.size + 1 := by omega
  have K1 : But lo hi w u1 := ((But.refl _ _ w).alloc _).trans (k1.inner (RowO.kept h1 ((But.refl _ _ _).alloc (.cells #[.slice ao n cap, .slice ao' n' cap', .int .i64 Q.2.2] 28))))
  have h2' : OneO cS 9 u1 lo hi (.slice ao' n' cap') Q.2.1 := RowO.apart (RowO.kept h2 ((But.refl _ _ _).alloc _)) k1 h3.symm
  have L : Loc u1 w.heap.size [.slice ao n cap, .slice ao' n' cap', .int .i64 Q.2.2] := by
    refine (Loc.new w [.slice ao n cap, .slice ao' n' cap', .int .i64 Q.2.2] 28).but k1 ?_
    unfold blo bhi
    cases hob : (Value.slice ao n cap).ownBlock with
    | none => simp
    | some g =>
      have := own_lt h1.1 hob
      simp
      omega
  have l1 := L.cell 1 rfl
  clear k1
  go_wp2_with fail
  go_at_call 84; refine (markStringS Q.2.1 _ (k + Q.1.length) lo hi _ h2' (by omega)).mono ?_; rintro e u2 ⟨rfl, _, k2⟩
  go_wp2
  go_ret
  exact ⟨⟨_, rfl⟩, K1.trans (k2.inner h2')⟩
end Go.Proofs.Ytajelalimiobeaa
