/-
  The way up from a node: what the program's iterator goes through.
-/
import Derived.RangeFuncBox
import Derived.RangeFuncNested
import Derived.RangeFuncLeaves
import Derived.Shelf.Abstract
import Derived.WalkKit
import Derived.OwnWalkIn
import Derived.TacticsInMore
import Derived.LoopNIn
import Derived.LoopIn
import Derived.Maps.AppendAt
import Derived.Test.YtcljppnakmeldaaRows
import Derived.Test.YtcljppnakmeldaaTwin
namespace Go.Proofs.Ytcljppnakmeldaa
open Go.ChangeShapes Go.WideShapes Go.ChangeAt Go.RowKit Go.Shelf

attribute [local go_sem] Oper.semAt_some

abbrev UpE := Int × NodeD
/-- From this number up to the topmost node: these nodes. -/
def Chain (l : List NodeD) : Int → List UpE → Prop
  | a, [] => a = -1
  | a, x :: r => ∃ (i : Nat) (n : NodeD), a = (i : Int) ∧ l[i]? = some n ∧ x = ((i : Int), n) ∧ n.2.1 < (i : Int) ∧ Chain l n.2.1 r

set_option maxRecDepth 100000 in
set_option maxHeartbeats 2000000 in
theorem up1_in (F : Fence) (n : Nat) (h80 : F.fn 80) (hro : F.round = none) (hn : 1 ≤ n) (lp Ba Bl : Nat) (l : List NodeD) (ao : Option Addr) (cap : Nat) (a : Int) (xs : List UpE) (hch : Chain l a xs)
    (Kp : World → World → Prop) (hKl : ∀ A B, Kp A B → A.cell? ⟨Bl, 0, none⟩ = some (.slice ao l.length cap) → B.cell? ⟨Bl, 0, none⟩ = some (.slice ao l.length cap)) (hKv : ∀ A B, Kp A B → NodeAt A (.slice ao l.length cap) l → NodeAt B (.slice ao l.length cap) l)
    (J Jx : List UpE → World → Prop)
    (hY : ∀ pre x W, J pre W → pre.length < xs.length → YieldAt F (n - 1) Try.prog lp #[.int .i64 x.1, nv x.2] W fun e W' =>
      (e = .returned (.bool true) ∧ J (pre ++ [x]) W' ∧ Kp W W') ∨ (e = .returned (.bool false) ∧ Jx (pre ++ [x]) W'))
    (W : World) (hBa : W.cell? ⟨Ba, 0, none⟩ = some (.int .i64 a)) (hBl : W.cell? ⟨Bl, 0, none⟩ = some (.slice ao l.length cap)) (hv : NodeAt W (.slice ao l.length cap) l) (h0 : J [] W) :
    CallsIn F n Try.prog 80 #[.func (.yield lp) #[] #[], .pointer (some ⟨Ba, 0, none⟩), .pointer (some ⟨Bl, 0, none⟩)] W fun e W' => (∃ v, e = .returned v) ∧
      ((∃ ys, ys = xs ∧ J ys W') ∨ (∃ pre, pre <+: xs ∧ Jx pre W')) := by
  refine callsIn_of_wp Try.func80 rfl h80 ?_ hro
  simp only [Try.ntmps80, List.size_toArray, List.length_cons, List.length_nil, Nat.reduceAdd, Nat.reduceSub, Array.replicate_succ, Array.replicate_zero, List.push_toArray, List.append_toArray, List.nil_append, List.cons_append]
  gi_wp2
  gi_loopw [4] (fun p wr => ∃ (pre rest : List UpE) (h : Int), p = .int .i64 h ∧ xs = pre ++ rest ∧ Chain l h rest ∧ J pre wr ∧ wr.cell? ⟨Bl, 0, none⟩ = some (.slice ao l.length cap) ∧ NodeAt wr (.slice ao l.length cap) l)
    (fun p _ => (intOf p + 1).toNat)
  case atStart =>
    exact ⟨[], xs, a, rfl, rfl, hch, h0, hBl, hv⟩
  case round =>
    obtain ⟨pre, rest, h, rfl, hx, hl, hJs, hbl, hvr⟩ := hrel
    cases rest with
    | nil =>
      obtain rfl : h = -1 := hl
      gi_wp2
      go_end0
      exact ⟨⟨_, rfl⟩, .inl ⟨pre, by simp [hx], hJs⟩⟩
    | cons x rest =>
      obtain ⟨i, ⟨nm, up, X, Y, t, f⟩, rfl, hi, rfl, hlt, hr⟩ := hl
      have hil : i < l.length := (List.getElem?_eq_some_iff.1 hi).1
      obtain ⟨b, o, cap1, e, c0, c1, c2, c3, c4, c5⟩ := node_get hvr hi
      cases e
      obtain ⟨fn, tmps, assign, body, hy, hR⟩ := hY pre ((i : Int), (nm, up, X, Y, t, f)) wr hJs (by rw [hx]; simp)
      dsimp only [nv] at hy hlt c0 c1 c2 c3 c4 c5 hr
      have hne : ((i : Int) == -1) = false := by simp
      have HX : Hid (xs = pre ++ ((i : Int), nm, up, X, Y, t, f) :: rest) := hx
      have HR : Hid (Chain l up rest) := hr
      have HJ : Hid _ := hJs
      clear hx hr hJs
      gi_wp2
      refine hR.mono ?_
      rintro e W3 (⟨rfl, hJ3, hk3⟩ | ⟨rfl, hJx3⟩)
      · have hbl3 := hKl _ _ hk3 hbl
        have hv3 := hKv _ _ hk3 hvr
        obtain ⟨b', o', cap2, e, -, d1, -⟩ := node_get hv3 hi
        cases e
        dsimp only at d1
        clear c0 c1 c2 c3 c4 c5 hbl
        gi_wp2
        go_roundw
        case rel => exact ⟨pre ++ [((i : Int), (nm, up, X, Y, t, f))], rest, up, rfl, by rw [HX.out]; simp, HR.out, hJ3, hbl3, hv3⟩
        case measure => simp [intOf]; omega
      · gi_wp2
        refine bodyPost_ret (results_none rfl _ _ _) rfl ?_
        exact ⟨⟨_, rfl⟩, .inr ⟨pre ++ [((i : Int), (nm, up, X, Y, t, f))], ⟨rest, by rw [HX.out]; simp⟩, hJx3⟩⟩

set_option maxHeartbeats 1000000 in
/-- The iterator is made: its two variables lie in boxes. -/
theorem up_in (F : Fence) (n : Nat) (h75 : F.fn 75) (hro : F.round = none) (ao : Option Addr) (len cap : Nat) (a : Int) (w : World) :
    CallsIn F n Try.prog 75 #[.slice ao len cap, .int .i64 a] w fun e w' => e = .returned (.func (.func 80) #[] #[.pointer (some ⟨w.heap.size + 1, 0, none⟩), .pointer (some ⟨w.heap.size, 0, none⟩)]) ∧ w' = (w.alloc (.cells #[.slice ao len cap] 29)).alloc (.cells #[.int .i64 a] 3) := by
  refine callsIn_of_wp Try.func75 rfl h75 ?_ hro
  simp only [Try.ntmps75, List.size_toArray, List.length_cons, List.length_nil, Nat.reduceAdd, Nat.reduceSub, Array.replicate_succ, Array.replicate_zero, List.push_toArray, List.append_toArray, List.nil_append, List.cons_append]
  gi_wp2
  go_ret
  exact ⟨rfl, rfl⟩

/-- Below N all blocks but B0 are as they were. -/
structure Bu (B0 N : Nat) (A B : World) : Prop where
  size : A.heap.size ≤ B.heap.size
  block : ∀ b, b < N → b ≠ B0 → B.heap[b]? = A.heap[b]?
theorem Bu.trans {B0 N : Nat} {A B C : World} (h : Bu B0 N A B) (k : Bu B0 N B C) : Bu B0 N A C := ⟨Nat.le_trans h.size k.size, fun b hb hn => (k.block b hb hn).trans (h.block b hb hn)⟩
theorem Bu.put {B0 N : Nat} {w : World} (hN : N ≤ w.heap.size) (W : World) (l : Nat) (o o' : Obj) (hl : w.heap.size ≤ l) (_ : W.heap[l]? = some o) (_ : o.isCells = false) (_ : o.isWalk = false) : Bu B0 N W (W.putObj l o') :=
  ⟨by simp, fun b hb _ => World.putObj_heap_other (by omega)⟩
theorem Bu.cell {B0 N : Nat} {A B : World} (h : Bu B0 N A B) {a : Addr} {v : Value} (hb : a.block < N) (hn : a.block ≠ B0) (hc : A.cell? a = some v) : B.cell? a = some v := (World.cell?_of_block (h.block a.block hb hn)).trans hc

theorem up_stops (F : Fence) (n : Nat) (h80 : F.fn 80) (hro : F.round = none) (hn : 1 ≤ n) (B0 N Ba Bl : Nat) (l : List NodeD) (ao : Option Addr) (cap : Nat) (a : Int) (xs : List UpE) (hch : Chain l a xs) (w : World)
    (hBa : w.cell? ⟨Ba, 0, none⟩ = some (.int .i64 a)) (hBl : w.cell? ⟨Bl, 0, none⟩ = some (.slice ao l.length cap)) (hv : NodeAt w (.slice ao l.length cap) l) (hBln : Bl < N) (hBl0 : Bl ≠ B0)
    (hrow : ∀ A B, Bu B0 N A B → NodeAt A (.slice ao l.length cap) l → NodeAt B (.slice ao l.length cap) l) :
    SeqStopsK F n Try.prog 80 #[.pointer (some ⟨Ba, 0, none⟩), .pointer (some ⟨Bl, 0, none⟩)] (fun x : UpE => #[Value.int .i64 x.1, nv x.2]) (Bu B0 N) (fun ys => ys = xs) (fun pre => pre <+: xs) xs.length w := fun lp J Jx W hW _ _ hY h0 =>
  up1_in F n h80 hro hn lp Ba Bl l ao cap a xs hch (Bu B0 N) (fun _ _ h hc => h.cell (a := ⟨Bl, 0, none⟩) hBln hBl0 hc) hrow J Jx hY W
    ((hW.cell (p := ⟨Ba, 0, none⟩) (World.block_lt_of_cell? w _ hBa)).trans hBa) ((hW.cell (p := ⟨Bl, 0, none⟩) (World.block_lt_of_cell? w _ hBl)).trans hBl)
    (RowAt.kept hv ⟨hW.os, hW.output, hW.size, fun b hb _ => hW.block b hb⟩) h0
end Go.Proofs.Ytcljppnakmeldaa
