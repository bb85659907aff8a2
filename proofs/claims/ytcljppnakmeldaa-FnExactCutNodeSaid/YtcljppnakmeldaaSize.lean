/-
  What the functions answer that weigh a list of nodes.
-/
import Derived.Test.YtcljppnakmeldaaRows
import Derived.Test.YtcljppnakmeldaaNode
namespace Go.Proofs.Ytcljppnakmeldaa
open Go.ChangeShapes Go.WideShapes Go.ChangeAt Go.RowKit

theorem szNode (f0 : ByteArray) (f1 : Int) (f2 : Int) (f3 : Int) (f4 : Int) (f5 : Bool) (left : Int) (w : World) (hl : 0 ≤ left) (hm : left ≤ 1048576) (hs : f0.size ≤ 9223372036854775807) :
    Calls Try.prog 52 #[.agg #[.string f0, .int .i64 f1, .int .i64 f2, .int .i64 f3, .int .i64 f4, .bool f5], .int .i64 left] w fun e w' => e = .returned (.int .i64 (if (f0.size : Int) ≤ left then left - f0.size else -1)) ∧ w' = w.alloc (.cells #[.string f0, .int .i64 f1, .int .i64 f2, .int .i64 f3, .int .i64 f4, .bool f5] 73) := by
  go_enter Try.func52, Try.ntmps52
  go_wp2
  · go_ret
    exact ⟨rfl, rfl⟩
  · go_ret
    exact ⟨rfl, rfl⟩

/-- How much a list weighs: its length and its texts' bytes. -/
def nodeSum (ps : List NodeD) : Nat := (ps.map fun p => p.1.size).sum
def nodeCost (ps : List NodeD) : Nat := ps.length + nodeSum ps
theorem nodeSum_snoc (l : List NodeD) (p : NodeD) : nodeSum (l ++ [p]) = nodeSum l + p.1.size := by simp [nodeSum]
theorem nodeSum_take (l : List NodeD) (k : Nat) : nodeSum (l.take k) ≤ nodeSum l := by
  have h := congrArg nodeSum (List.take_append_drop k l)
  have h2 : ∀ a b : List NodeD, nodeSum (a ++ b) = nodeSum a + nodeSum b := fun a b => by simp [nodeSum]
  rw [h2] at h
  omega
theorem nodeSum_le {l : List NodeD} {k : Nat} {p : NodeD} (h : l[k]? = some p) : p.1.size ≤ nodeSum l := by
  have := nodeSum_take l (k + 1)
  rw [take_snoc h, nodeSum_snoc] at this
  omega

set_option maxHeartbeats 1000000 in
theorem szNodeS (ps : List NodeD) (v : Value) (left : Int) (w : World) (hv : NodeAt w v ps) (hl : 0 ≤ left) (hm : left ≤ 1048576) (hn : ps.length ≤ 9223372036854775807) (hs : ∀ p ∈ ps, p.1.size ≤ 9223372036854775807) :
    Calls Try.prog 20 #[v, .int .i64 left] w fun e w' => e = .returned (.int .i64 (leftOf left (nodeCost ps))) ∧ Kept w w' := by
  obtain ⟨ao, cap, hsl⟩ := row_nil hv
  subst hsl
  by_cases hc : left < (ps.length : Int)
  · go_enter Try.func20, Try.ntmps20
    go_wp2
    go_ret
    exact ⟨ret_int (leftOf_no (by unfold nodeCost; omega)).symm, But.refl _ _ _⟩
  · have hc' : (ps.length : Int) ≤ left := by omega
    have hc2 : decide (left - (ps.length : Int) < 0) = false := by simp; omega
    go_enter Try.func20, Try.ntmps20
    go_wp2
    go_loopw [1, 5] (fun l i wr => ∃ (k : Nat) (c : Int), k ≤ ps.length ∧ i = .int .i64 k ∧ l = .int .i64 c ∧ c = left - ps.length - nodeSum (ps.take k) ∧ 0 ≤ c ∧ Kept w wr) (fun l i _ => ps.length - (intOf i).toNat)
    case atStart => exact ⟨0, _, by omega, rfl, rfl, by simp [nodeSum], by omega, But.refl _ _ _⟩
    case round =>
      obtain ⟨k, c, hk, rfl, rfl, hcv, h0, hkp⟩ := hrel
      have HC : Hid (c = left - ps.length - nodeSum (ps.take k)) := hcv
      clear hcv
      by_cases hlt : k < ps.length
      · obtain ⟨p, hp⟩ : ∃ p, ps[k]? = some p := ⟨_, List.getElem?_eq_getElem hlt⟩
        obtain ⟨b, o, cap', e, c0, c1, c2, c3, c4, c5⟩ := node_get (hv.kept hkp) hp
        cases e
        have hcm : c ≤ 1048576 := by have := HC.out; omega
        have hps := hs p (List.mem_of_getElem? hp)
        have hsn := nodeSum_snoc (ps.take k) p
        rw [← take_snoc hp] at hsn
        have hst := nodeSum_take ps (k + 1)
        have HS : Hid (nodeSum (ps.take (k + 1)) = nodeSum (ps.take k) + p.1.size ∧ nodeSum (ps.take (k + 1)) ≤ nodeSum ps) := ⟨hsn, hst⟩
        clear hsn hst
        by_cases hle : (p.1.size : Int) ≤ c
        · have hd : decide (c - (p.1.size : Int) < 0) = false := by simp; omega
          go_wp2_with (go_at_call 52; refine (szNode _ _ _ _ _ _ _ _ h0 hcm hps).mono ?_; rintro e w' ⟨rfl, rfl⟩; rw [if_pos hle])
          exact ⟨⟨k + 1, _, hlt, by go_num, rfl, by have := HC.out; have := HS.out; omega, by omega, hkp.alloc _⟩, by simp [intOf]; omega⟩
        · go_wp2_with (go_at_call 52; refine (szNode _ _ _ _ _ _ _ _ h0 hcm hps).mono ?_; rintro e w' ⟨rfl, rfl⟩; rw [if_neg hle])
          go_ret
          exact ⟨ret_int (leftOf_no (by have := HC.out; have := HS.out; unfold nodeCost; omega)).symm, hkp.alloc _⟩
      · have hke : k = ps.length := by omega
        subst hke
        go_wp2
        go_ret
        have := HC.out
        rw [List.take_length] at this
        exact ⟨ret_int (by rw [leftOf_yes (by unfold nodeCost; omega)]; unfold nodeCost; omega), hkp⟩

end Go.Proofs.Ytcljppnakmeldaa
