/-
  The timers of a list, one behind the other: what the iterator of the library goes through.
-/
import Derived.RangeFuncBox
import Derived.RangeFuncNested
import Derived.RangeFuncLeaves
import Derived.Shelf.Abstract
import Derived.WalkKit
import Derived.OwnWalkIn
import Derived.TacticsInMore
import Derived.LoopNIn
import Derived.LoopIn
import Derived.Maps.AppendAt
import Derived.Test.YthihgjcnjgpegaaApp
import Derived.Test.YthihgjcnjgpegaaQuiet
namespace Go.Proofs.Ythihgjcnjgpegaa
open Go.ChangeShapes Go.WideShapes Go.ChangeAt Go.RowKit

open Go.Shelf
attribute [local go_sem] Oper.semAt_some
set_option maxRecDepth 100000
/-- Below N all blocks but B0 are as they were. -/
structure Bu (B0 N : Nat) (A B : World) : Prop where
  size : A.heap.size ≤ B.heap.size
  block : ∀ b, b < N → b ≠ B0 → B.heap[b]? = A.heap[b]?
theorem Bu.trans {B0 N : Nat} {A B C : World} (h : Bu B0 N A B) (k : Bu B0 N B C) : Bu B0 N A C := ⟨Nat.le_trans h.size k.size, fun b hb hn => (k.block b hb hn).trans (h.block b hb hn)⟩
theorem Bu.put {B0 N : Nat} {w : World} (hN : N ≤ w.heap.size) (W : World) (l : Nat) (o o' : Obj) (hl : w.heap.size ≤ l) (_ : W.heap[l]? = some o) (_ : o.isCells = false) (_ : o.isWalk = false) : Bu B0 N W (W.putObj l o') :=
  ⟨by simp, fun b hb _ => World.putObj_heap_other (by omega)⟩
theorem Bu.cell {B0 N : Nat} {A B : World} (h : Bu B0 N A B) {a : Addr} {v : Value} (hb : a.block < N) (hn : a.block ≠ B0) (hc : A.cell? a = some v) : B.cell? a = some v := (World.cell?_of_block (h.block a.block hb hn)).trans hc


theorem Bu.unalloc {B0 N : Nat} {A B : World} {o : Obj} (h : Bu B0 N (A.alloc o) B) (hN : N ≤ A.heap.size) : Bu B0 N A B :=
  ⟨Nat.le_trans (by simp) h.size, fun b hb hn => (h.block b hb hn).trans (heap_alloc_old A o b (by omega))⟩
def tv (t : TimerD) : Value := .agg #[.int .i64 t.1, .int .i64 t.2.1, .int .i64 t.2.2.1, .int .i64 t.2.2.2]
set_option maxHeartbeats 2000000 in
theorem val1_in (F : Fence) (n : Nat) (h69 : F.fn 69) (hro : F.round = none) (hn : 1 ≤ n) (lp Bs B0 N : Nat) (ps : List TimerD) (ao : Option Addr) (cap : Nat) (hlen : ps.length ≤ 1048576)
    (hKv : ∀ A B, Bu B0 N A B → TimerAt A (.slice ao ps.length cap) ps → TimerAt B (.slice ao ps.length cap) ps)
    (J Jx : List TimerD → World → Prop) (hJa : ∀ pre W o, J pre W → J pre (W.alloc o))
    (hY : ∀ pre x W, J pre W → pre.length < ps.length → YieldAt F (n - 1) Try.prog lp #[tv x] W fun e W' =>
      (e = .returned (.bool true) ∧ J (pre ++ [x]) W' ∧ Bu B0 N W W') ∨ (e = .returned (.bool false) ∧ Jx (pre ++ [x]) W'))
    (W : World) (hN : N ≤ W.heap.size) (hBs : W.cell? ⟨Bs, 0, none⟩ = some (.slice ao ps.length cap)) (hv : TimerAt W (.slice ao ps.length cap) ps) (h0 : J [] W) :
    CallsIn F n Try.prog 69 #[.func (.yield lp) #[] #[], .pointer (some ⟨Bs, 0, none⟩)] W fun e W' => (∃ v, e = .returned v) ∧
      ((∃ ys, ys = ps ∧ J ys W') ∨ (∃ pre, pre <+: ps ∧ Jx pre W')) := by
  refine callsIn_of_wp Try.func69 rfl h69 ?_ hro
  simp only [Try.ntmps69, List.size_toArray, List.length_cons, List.length_nil, Nat.reduceAdd, Nat.reduceSub, Array.replicate_succ, Array.replicate_zero, List.push_toArray, List.append_toArray, List.nil_append, List.cons_append]
  gi_wp2
  gi_loopw [4, 7] (fun _ i wr => ∃ k : Nat, k ≤ ps.length ∧ i = .int .i64 (k : Int) ∧ J (ps.take k) wr ∧ TimerAt wr (.slice ao ps.length cap) ps ∧ N ≤ wr.heap.size)
    (fun _ i _ => ps.length - (intOf i).toNat)
  case atStart => exact ⟨0, by omega, rfl, h0, hv, hN⟩
  case round =>
    obtain ⟨k, hk, rfl, hJs, hvr, hNr⟩ := hrel
    by_cases hlt : k < ps.length
    · obtain ⟨⟨a, b, c, d⟩, hp⟩ : ∃ p, ps[k]? = some p := ⟨_, List.getElem?_eq_getElem hlt⟩
      obtain ⟨g, o, cap1, e, c0, c1, c2, c3⟩ := timer_get hvr hp
      cases e
      dsimp only at c0 c1 c2 c3
      have hgw : g < wr.heap.size := World.block_lt_of_cell? _ _ c0
      obtain ⟨fn, tmps, assign, body, hy, hR⟩ := hY (ps.take k) (a, b, c, d) _ (hJa _ _ (.cells #[.int .i64 a, .int .i64 b, .int .i64 c, .int .i64 d] 46) hJs) (by simp; omega)
      dsimp only [tv] at hy
      have hz1 : (0 : Int) ≤ (k : Int) := by omega
      have hz2 : (k : Int) < (ps.length : Int) := by omega
      have HP : Hid _ := hp
      have HV : Hid _ := hvr
      clear hp hvr hJs
      gi_wp2
      refine hR.mono ?_
      rintro e W3 (⟨rfl, hJ3, hk3⟩ | ⟨rfl, hJx3⟩)
      · clear c0 c1 c2 c3 hy
        have hb3 := hk3.unalloc hNr
        gi_wp2
        go_roundw
        case rel => exact ⟨k + 1, hlt, by go_num, by rw [take_snoc HP.out]; exact hJ3, hKv _ _ hb3 HV.out, Nat.le_trans hNr hb3.size⟩
        case measure => simp [intOf]; omega
      · gi_wp2
        refine bodyPost_ret (results_none rfl _ _ _) rfl ?_
        exact ⟨⟨_, rfl⟩, .inr ⟨ps.take k ++ [(a, b, c, d)], by rw [← take_snoc HP.out]; exact List.take_prefix _ _, hJx3⟩⟩
    · have hke : k = ps.length := by omega
      subst hke
      gi_wp2
      go_end0
      exact ⟨⟨_, rfl⟩, .inl ⟨ps.take ps.length, by simp, hJs⟩⟩
theorem val_stops (F : Fence) (n : Nat) (h69 : F.fn 69) (hro : F.round = none) (hn : 1 ≤ n) (B0 N Bs : Nat) (ps : List TimerD) (ao : Option Addr) (cap : Nat) (hlen : ps.length ≤ 1048576) (w : World)
    (hBs : w.cell? ⟨Bs, 0, none⟩ = some (.slice ao ps.length cap)) (hv : TimerAt w (.slice ao ps.length cap) ps) (hN : N ≤ w.heap.size)
    (hrow : ∀ A B, Bu B0 N A B → TimerAt A (.slice ao ps.length cap) ps → TimerAt B (.slice ao ps.length cap) ps) :
    SeqStopsK F n Try.prog 69 #[.pointer (some ⟨Bs, 0, none⟩)] (fun x : TimerD => #[tv x]) (Bu B0 N) (fun ys => ys = ps) (fun pre => pre <+: ps) ps.length w := fun lp J Jx W hW hJa _ hY h0 =>
  val1_in F n h69 hro hn lp Bs B0 N ps ao cap hlen hrow J Jx (fun pre W o h => hJa pre W _ none h (World.grownBy_alloc W o none) (fun r e => by cases e)) hY W (Nat.le_trans hN hW.size)
    ((hW.cell (p := ⟨Bs, 0, none⟩) (World.block_lt_of_cell? w _ hBs)).trans hBs)
    (RowAt.kept hv ⟨hW.os, hW.output, hW.size, fun b hb _ => hW.block b hb⟩) h0

end Go.Proofs.Ythihgjcnjgpegaa
