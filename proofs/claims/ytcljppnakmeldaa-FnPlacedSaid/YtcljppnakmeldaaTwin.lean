/-
  Lists of nodes cut short, and whether one ahead has the same name and the same Up.
-/
import Derived.Test.YtcljppnakmeldaaRows
import Derived.Test.YtcljppnakmeldaaNode
import Derived.Deep.QuietTactic
import Derived.BigQuiet
namespace Go.Proofs.Ytcljppnakmeldaa
open Go.ChangeShapes Go.WideShapes Go.ChangeAt Go.RowKit

theorem row_take {α : Type} {f : α → List Value} {w : World} {ao : Option Addr} {n cap : Nat} {l : List α} (h : RowAt w (.slice ao n cap) n (l.flatMap f)) (i : Nat) : RowAt w (.slice ao i cap) i ((l.take i).flatMap f) := by
  obtain ⟨ao', cap', e, hc⟩ := h
  cases e
  refine ⟨ao, cap, rfl, fun j x hx => hc j x ?_⟩
  have hl : (l.flatMap f) = (l.take i).flatMap f ++ (l.drop i).flatMap f := by rw [← List.flatMap_append, List.take_append_drop]
  rw [hl, List.getElem?_append_left (List.getElem?_eq_some_iff.1 hx).1]
  exact hx
theorem NodeAt.take {w : World} {ao : Option Addr} {n cap : Nat} {l : List NodeD} (h : NodeAt w (.slice ao n cap) l) (hn : n = l.length) {i : Nat} (hi : i ≤ l.length) : NodeAt w (.slice ao i cap) (l.take i) := by
  subst hn
  unfold NodeAt
  rw [List.length_take, Nat.min_eq_left hi]
  exact row_take h i

def sameN (o n : NodeD) : Bool := o.2.1 == n.2.1 && o.1.toList == n.1.toList
abbrev nv (n : NodeD) : Value := .agg #[.string n.1, .int .i64 n.2.1, .int .i64 n.2.2.1, .int .i64 n.2.2.2.1, .int .i64 n.2.2.2.2.1, .bool n.2.2.2.2.2]

set_option maxRecDepth 100000 in
set_option maxHeartbeats 2000000 in
theorem hasTwin (ps : List NodeD) (n : NodeD) (v : Value) (w : World) (hv : NodeAt w v ps) (hn : ps.length ≤ 1048576) :
    Calls Try.prog 58 #[v, nv n] w fun e w' => e = .returned (.bool (ps.any fun o => sameN o n)) ∧ Kept w w' := by
  obtain ⟨ao, cap, hsl⟩ := row_nil hv
  subst hsl
  go_enter Try.func58, Try.ntmps58
  go_wp2
  go_loopw [6, 9] (fun o i wr => ∃ k : Nat, k ≤ ps.length ∧ i = .int .i64 k ∧ (∀ (j : Nat) o, j < k → ps[j]? = some o → sameN o n = false) ∧ Loc wr w.heap.size (nodeC n) ∧ Kept w wr) (fun _ i _ => ps.length - (intOf i).toNat)
  case atStart => exact ⟨0, by omega, rfl, fun j o hj => by omega, Loc.new _ (nodeC n) _, (But.refl _ _ _).alloc _⟩
  case round =>
    obtain ⟨k, hk, rfl, hno, hL, hkp⟩ := hrel
    by_cases hlt : k < ps.length
    · obtain ⟨p, hp⟩ : ∃ p, ps[k]? = some p := ⟨_, List.getElem?_eq_getElem hlt⟩
      obtain ⟨b, o, cap1, e, c0, c1, c2, c3, c4, c5⟩ := node_get (hv.kept hkp) hp
      cases e
      have l0 := hL.cell 0 rfl
      have l1 := hL.cell 1 rfl
      have hlw := hL.lt
      have HN : Hid _ := hno
      have HL : Hid _ := hL
      have HK : Hid _ := hkp
      clear hno hL hkp
      cases hs : (p.2.1 == n.2.1) with
      | false =>
        go_wp2
        refine ⟨⟨k + 1, hlt, by go_num, fun j q hj hq => ?_, Loc.alloc HL.out _, HK.out.alloc _⟩, by simp [intOf]; omega⟩
        by_cases hjk : j = k
        · subst hjk
          rw [hp] at hq
          cases hq
          simp only [sameN, hs, Bool.false_and]
        · exact HN.out j q (by omega) hq
      | true =>
        cases ht : (p.1.toList == n.1.toList) with
        | false =>
          go_wp2
          refine ⟨⟨k + 1, hlt, by go_num, fun j q hj hq => ?_, Loc.alloc HL.out _, HK.out.alloc _⟩, by simp [intOf]; omega⟩
          by_cases hjk : j = k
          · subst hjk
            rw [hp] at hq
            cases hq
            simp only [sameN, ht, Bool.and_false]
          · exact HN.out j q (by omega) hq
        | true =>
          go_wp2
          go_ret
          refine ⟨?_, HK.out.alloc _⟩
          have : (ps.any fun o => sameN o n) = true := List.any_eq_true.2 ⟨p, List.mem_of_getElem? hp, by simp only [sameN, hs, ht, Bool.and_self]⟩
          rw [this]
          rfl
    · have hke : k = ps.length := by omega
      subst hke
      go_wp2
      go_ret
      refine ⟨?_, hkp⟩
      have : (ps.any fun o => sameN o n) = false := by
        rw [List.any_eq_false]
        intro o ho
        obtain ⟨j, hj⟩ := List.mem_iff_getElem?.1 ho
        simpa using hno j o (List.getElem?_eq_some_iff.1 hj).1 hj
      rw [this]
      rfl
end Go.Proofs.Ytcljppnakmeldaa
