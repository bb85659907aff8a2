/-
  The iterator that goes back over the order of the parts.
-/
import Derived.Test.YtoimpkhgdpkhkaaDoorKey20
import Derived.RangeFuncBox
import Derived.RangeFuncNested
import Derived.RangeFuncLeaves
import Derived.Shelf.Abstract
import Derived.WalkKit
import Derived.OwnWalkIn
import Derived.TacticsInMore
import Derived.LoopNIn
import Derived.LoopIn
import Derived.Maps.AppendAt
namespace Go.Proofs.YtoimpkhgdpkhkaaDoor
open Go.ChangeShapes Go.WideShapes Go.ChangeAt Go.RowKit

set_option maxRecDepth 100000
set_option linter.unusedVariables false
set_option linter.unusedSimpArgs false

abbrev OrdD := Fin 5
def ordC (p : OrdD) : List Value := [.int .i64 (p.val : Int)]
theorem ordC_len (p : OrdD) : (ordC p).length = 1 := rfl
def OrdAt (w : World) (v : Value) (ps : List OrdD) : Prop := RowAt w v ps.length (ps.flatMap ordC)
theorem ord_get {w : World} {v : Value} {ps : List OrdD} (h : OrdAt w v ps) {i : Nat} {p : OrdD} (hp : ps[i]? = some p) :
    ∃ b o cap, v = .slice (some ⟨b, o, none⟩) ps.length cap ∧ w.cell? ⟨b, o + i, none⟩ = some (.int .i64 (p.val : Int)) := by
  obtain ⟨b, o, cap, e, hc⟩ := row_get 1 ordC ordC_len (by omega) h hp
  refine ⟨b, o, cap, e, ?_⟩
  have := hc 0 _ rfl
  simpa using this
abbrev BkE := Int × OrdD
/-- From this number back to the first one. -/
def Back (l : List OrdD) : Int → List BkE → Prop
  | a, [] => a = -1
  | a, x :: r => ∃ (i : Nat) (n : OrdD), a = (i : Int) ∧ l[i]? = some n ∧ x = ((i : Int), n) ∧ Back l ((i : Int) - 1) r
theorem back_is (l : List OrdD) : ∀ k : Nat, k ≤ l.length → ∃ xs, Back l ((k : Int) - 1) xs
  | 0, _ => ⟨[], by show ((0 : Nat) : Int) - 1 = -1; omega⟩
  | k + 1, h => by
    obtain ⟨xs, hx⟩ := back_is l k (by omega)
    obtain ⟨d, hd⟩ : ∃ p, l[k]? = some p := ⟨_, List.getElem?_eq_getElem (by omega)⟩
    exact ⟨((k : Int), d) :: xs, k, d, by omega, hd, rfl, hx⟩

open Go.Shelf
attribute [local go_sem] Oper.semAt_some
def mv (d : OrdD) : Value := .int .i64 (d.val : Int)
set_option maxHeartbeats 2000000 in
theorem back1_in (F : Fence) (n : Nat) (h80 : F.fn 52) (hro : F.round = none) (hn : 1 ≤ n) (lp Bl : Nat) (l : List OrdD) (ao : Option Addr) (cap : Nat) (hll : l.length ≤ 1048576) (xs : List BkE) (hch : Back l ((l.length : Int) - 1) xs)
    (Kp : World → World → Prop) (hKl : ∀ A B, Kp A B → A.cell? ⟨Bl, 0, none⟩ = some (.slice ao l.length cap) → B.cell? ⟨Bl, 0, none⟩ = some (.slice ao l.length cap)) (hKv : ∀ A B, Kp A B → OrdAt A (.slice ao l.length cap) l → OrdAt B (.slice ao l.length cap) l)
    (J Jx : List BkE → World → Prop)
    (hY : ∀ pre x W, J pre W → pre.length < xs.length → YieldAt F (n - 1) Tryd.prog lp #[.int .i64 x.1, mv x.2] W fun e W' =>
      (e = .returned (.bool true) ∧ J (pre ++ [x]) W' ∧ Kp W W') ∨ (e = .returned (.bool false) ∧ Jx (pre ++ [x]) W'))
    (W : World) (hBl : W.cell? ⟨Bl, 0, none⟩ = some (.slice ao l.length cap)) (hv : OrdAt W (.slice ao l.length cap) l) (h0 : J [] W) :
    CallsIn F n Tryd.prog 52 #[.func (.yield lp) #[] #[], .pointer (some ⟨Bl, 0, none⟩)] W fun e W' => (∃ v, e = .returned v) ∧
      ((∃ ys, ys = xs ∧ J ys W') ∨ (∃ pre, pre <+: xs ∧ Jx pre W')) := by
  refine callsIn_of_wp Tryd.func52 rfl h80 ?_ hro
  simp only [Tryd.ntmps52, List.size_toArray, List.length_cons, List.length_nil, Nat.reduceAdd, Nat.reduceSub, Array.replicate_succ, Array.replicate_zero, List.push_toArray, List.append_toArray, List.nil_append, List.cons_append]
  gi_wp2
  gi_loopw [3] (fun p wr => ∃ (pre rest : List BkE) (h : Int), p = .int .i64 h ∧ -1 ≤ h ∧ h < 1048576 ∧ xs = pre ++ rest ∧ Back l h rest ∧ J pre wr ∧ wr.cell? ⟨Bl, 0, none⟩ = some (.slice ao l.length cap) ∧ OrdAt wr (.slice ao l.length cap) l)
    (fun p _ => (intOf p + 1).toNat)
  case atStart =>
    exact ⟨[], xs, _, rfl, by omega, by omega, rfl, hch, h0, hBl, hv⟩
  case round =>
    obtain ⟨pre, rest, h, rfl, hh1, hh2, hx, hl, hJs, hbl, hvr⟩ := hrel
    cases rest with
    | nil =>
      obtain rfl : h = -1 := hl
      gi_wp2
      go_end0
      exact ⟨⟨_, rfl⟩, .inl ⟨pre, by simp [hx], hJs⟩⟩
    | cons x rest =>
      obtain ⟨i, t0, rfl, hi, rfl, hr⟩ := hl
      have hil : i < l.length := (List.getElem?_eq_some_iff.1 hi).1
      obtain ⟨b, o, cap1, e, c0⟩ := ord_get hvr hi
      cases e
      obtain ⟨fn, tmps, assign, body, hy, hR⟩ := hY pre ((i : Int), t0) wr hJs (by rw [hx]; simp)
      dsimp only [mv] at hy c0 hr
      have HX : Hid (xs = pre ++ ((i : Int), t0) :: rest) := hx
      have HR : Hid (Back l ((i : Int) - 1) rest) := hr
      have HJ : Hid _ := hJs
      clear hx hr hJs
      gi_wp2
      refine hR.mono ?_
      rintro e W3 (⟨rfl, hJ3, hk3⟩ | ⟨rfl, hJx3⟩)
      · have hbl3 := hKl _ _ hk3 hbl
        have hv3 := hKv _ _ hk3 hvr
        clear c0 hbl
        gi_wp2
        go_roundw
        case rel => exact ⟨pre ++ [((i : Int), t0)], rest, (i : Int) - 1, rfl, by omega, by omega, by rw [HX.out]; simp, HR.out, hJ3, hbl3, hv3⟩
        case measure => simp [intOf] <;> omega
      · gi_wp2
        refine bodyPost_ret (results_none rfl _ _ _) rfl ?_
        exact ⟨⟨_, rfl⟩, .inr ⟨pre ++ [((i : Int), t0)], ⟨rest, by rw [HX.out]; simp⟩, hJx3⟩⟩

set_option maxHeartbeats 1000000 in
/-- The iterator is made: its variable lies in a box. -/
theorem back_in (F : Fence) (n : Nat) (h75 : F.fn 33) (hro : F.round = none) (ao : Option Addr) (len cap : Nat) (w : World) :
    CallsIn F n Tryd.prog 33 #[.slice ao len cap] w fun e w' => e = .returned (.func (.func 52) #[] #[.pointer (some ⟨w.heap.size, 0, none⟩)]) ∧ w' = w.alloc (.cells #[.slice ao len cap] 38) := by
  refine callsIn_of_wp Tryd.func33 rfl h75 ?_ hro
  simp only [Tryd.ntmps33, List.size_toArray, List.length_cons, List.length_nil, Nat.reduceAdd, Nat.reduceSub, Array.replicate_succ, Array.replicate_zero, List.push_toArray, List.append_toArray, List.nil_append, List.cons_append]
  gi_wp2
  go_ret
  exact ⟨rfl, rfl⟩

/-- Below N all blocks but B0 and B1 are as they were. -/
structure Bu (B0 B1 N : Nat) (A B : World) : Prop where
  size : A.heap.size ≤ B.heap.size
  block : ∀ b, b < N → b ≠ B0 → b ≠ B1 → B.heap[b]? = A.heap[b]?
theorem Bu.trans {B0 B1 N : Nat} {A B C : World} (h : Bu B0 B1 N A B) (k : Bu B0 B1 N B C) : Bu B0 B1 N A C := ⟨Nat.le_trans h.size k.size, fun b hb hn hm => (k.block b hb hn hm).trans (h.block b hb hn hm)⟩
theorem Bu.put {B0 B1 N : Nat} {w : World} (hN : N ≤ w.heap.size) (W : World) (l : Nat) (o o' : Obj) (hl : w.heap.size ≤ l) (_ : W.heap[l]? = some o) (_ : o.isCells = false) (_ : o.isWalk = false) : Bu B0 B1 N W (W.putObj l o') :=
  ⟨by simp, fun b hb _ _ => World.putObj_heap_other (by omega)⟩
theorem Bu.cell {B0 B1 N : Nat} {A B : World} (h : Bu B0 B1 N A B) {a : Addr} {v : Value} (hb : a.block < N) (hn : a.block ≠ B0) (hm : a.block ≠ B1) (hc : A.cell? a = some v) : B.cell? a = some v := (World.cell?_of_block (h.block a.block hb hn hm)).trans hc
theorem Below.keptOf20 {w w' : World} (h : Below w.heap.size w w') : Kept w w' := ⟨h.os, h.output, h.size, fun b hb _ => h.block b hb⟩
theorem back_stops (F : Fence) (n : Nat) (h80 : F.fn 52) (hro : F.round = none) (hn : 1 ≤ n) (B0 B1 N Bl : Nat) (l : List OrdD) (ao : Option Addr) (cap : Nat) (hll : l.length ≤ 1048576) (xs : List BkE) (hch : Back l ((l.length : Int) - 1) xs) (w : World)
    (hBl : w.cell? ⟨Bl, 0, none⟩ = some (.slice ao l.length cap)) (hv : OrdAt w (.slice ao l.length cap) l) (hBln : Bl < N) (hBl0 : Bl ≠ B0) (hBl1 : Bl ≠ B1)
    (hrow : ∀ A B, Bu B0 B1 N A B → OrdAt A (.slice ao l.length cap) l → OrdAt B (.slice ao l.length cap) l) :
    SeqStopsK F n Tryd.prog 52 #[.pointer (some ⟨Bl, 0, none⟩)] (fun x : BkE => #[Value.int .i64 x.1, mv x.2]) (Bu B0 B1 N) (fun ys => ys = xs) (fun pre => pre <+: xs) xs.length w := fun lp J Jx W hW _ _ hY h0 =>
  back1_in F n h80 hro hn lp Bl l ao cap hll xs hch (Bu B0 B1 N) (fun _ _ h hc => h.cell (a := ⟨Bl, 0, none⟩) hBln hBl0 hBl1 hc) hrow J Jx hY W
    ((hW.cell (p := ⟨Bl, 0, none⟩) (World.block_lt_of_cell? w _ hBl)).trans hBl)
    (RowAt.kept hv ⟨hW.os, hW.output, hW.size, fun b hb _ => hW.block b hb⟩) h0

end Go.Proofs.YtoimpkhgdpkhkaaDoor
