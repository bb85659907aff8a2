/-
  What the functions answer that weigh actions.
-/
import Derived.Test.YtjpceimaggcncaaRows
import Derived.Test.YtjpceimaggcncaaAction
namespace Go.Proofs.Ytjpceimaggcncaa
open Go.ChangeShapes Go.WideShapes Go.ChangeAt Go.RowKit

theorem szAction (f0 : ByteArray) (f1 : Int) (f2 : Int) (f3 : Int) (f4 : Int) (f5 : Int) (left : Int) (w : World) (hl : 0 ≤ left) (hm : left ≤ 1048576) (hs : f0.size ≤ 9223372036854775807) :
    Calls Try.prog 18 #[.agg #[.string f0, .int .i64 f1, .int .i64 f2, .int .i64 f3, .int .i64 f4, .int .i64 f5], .int .i64 left] w fun e w' => e = .returned (.int .i64 (if (f0.size : Int) ≤ left then left - f0.size else -1)) ∧ w' = w.alloc (.cells #[.string f0, .int .i64 f1, .int .i64 f2, .int .i64 f3, .int .i64 f4, .int .i64 f5] 36) := by
  go_enter Try.func18, Try.ntmps18
  go_wp2
  · go_ret
    exact ⟨rfl, rfl⟩
  · go_ret
    exact ⟨rfl, rfl⟩

/-- How much a list weighs: its length and its texts' bytes. -/
def actionSum (ps : List ActionD) : Nat := (ps.map fun p => p.1.size).sum
def actionCost (ps : List ActionD) : Nat := ps.length + actionSum ps
theorem actionSum_snoc (l : List ActionD) (p : ActionD) : actionSum (l ++ [p]) = actionSum l + p.1.size := by simp [actionSum]
theorem actionSum_take (l : List ActionD) (k : Nat) : actionSum (l.take k) ≤ actionSum l := by
  have h := congrArg actionSum (List.take_append_drop k l)
  have h2 : ∀ a b : List ActionD, actionSum (a ++ b) = actionSum a + actionSum b := fun a b => by simp [actionSum]
  rw [h2] at h
  omega
theorem actionSum_le {l : List ActionD} {k : Nat} {p : ActionD} (h : l[k]? = some p) : p.1.size ≤ actionSum l := by
  have := actionSum_take l (k + 1)
  rw [take_snoc h, actionSum_snoc] at this
  omega

set_option maxHeartbeats 1000000 in
theorem szActionS (ps : List ActionD) (v : Value) (left : Int) (w : World) (hv : ActionAt w v ps) (hl : 0 ≤ left) (hm : left ≤ 1048576) (hn : ps.length ≤ 9223372036854775807) (hs : ∀ p ∈ ps, p.1.size ≤ 9223372036854775807) :
    Calls Try.prog 25 #[v, .int .i64 left] w fun e w' => e = .returned (.int .i64 (leftOf left (actionCost ps))) ∧ Kept w w' := by
  obtain ⟨ao, cap, hsl⟩ := row_nil hv
  subst hsl
  by_cases hc : left < (ps.length : Int)
  · go_enter Try.func25, Try.ntmps25
    go_wp2
    go_ret
    exact ⟨ret_int (leftOf_no (by unfold actionCost; omega)).symm, But.refl _ _ _⟩
  · have hc' : (ps.length : Int) ≤ left := by omega
    have hc2 : decide (left - (ps.length : Int) < 0) = false := by simp; omega
    go_enter Try.func25, Try.ntmps25
    go_wp2
    go_loopw [1, 5] (fun l i wr => ∃ (k : Nat) (c : Int), k ≤ ps.length ∧ i = .int .i64 k ∧ l = .int .i64 c ∧ c = left - ps.length - actionSum (ps.take k) ∧ 0 ≤ c ∧ Kept w wr) (fun l i _ => ps.length - (intOf i).toNat)
    case atStart => exact ⟨0, _, by omega, rfl, rfl, by simp [actionSum], by omega, But.refl _ _ _⟩
    case round =>
      obtain ⟨k, c, hk, rfl, rfl, hcv, h0, hkp⟩ := hrel
      have HC : Hid (c = left - ps.length - actionSum (ps.take k)) := hcv
      clear hcv
      by_cases hlt : k < ps.length
      · obtain ⟨p, hp⟩ : ∃ p, ps[k]? = some p := ⟨_, List.getElem?_eq_getElem hlt⟩
        obtain ⟨b, o, cap', e, c0, c1, c2, c3, c4, c5⟩ := action_get (hv.kept hkp) hp
        cases e
        have hcm : c ≤ 1048576 := by have := HC.out; omega
        have hps := hs p (List.mem_of_getElem? hp)
        have hsn := actionSum_snoc (ps.take k) p
        rw [← take_snoc hp] at hsn
        have hst := actionSum_take ps (k + 1)
        have HS : Hid (actionSum (ps.take (k + 1)) = actionSum (ps.take k) + p.1.size ∧ actionSum (ps.take (k + 1)) ≤ actionSum ps) := ⟨hsn, hst⟩
        clear hsn hst
        by_cases hle : (p.1.size : Int) ≤ c
        · have hd : decide (c - (p.1.size : Int) < 0) = false := by simp; omega
          go_wp2_with (go_at_call 18; refine (szAction _ _ _ _ _ _ _ _ h0 hcm hps).mono ?_; rintro e w' ⟨rfl, rfl⟩; rw [if_pos hle])
          exact ⟨⟨k + 1, _, hlt, by go_num, rfl, by have := HC.out; have := HS.out; omega, by omega, hkp.alloc _⟩, by simp [intOf]; omega⟩
        · go_wp2_with (go_at_call 18; refine (szAction _ _ _ _ _ _ _ _ h0 hcm hps).mono ?_; rintro e w' ⟨rfl, rfl⟩; rw [if_neg hle])
          go_ret
          exact ⟨ret_int (leftOf_no (by have := HC.out; have := HS.out; unfold actionCost; omega)).symm, hkp.alloc _⟩
      · have hke : k = ps.length := by omega
        subst hke
        go_wp2
        go_ret
        have := HC.out
        rw [List.take_length] at this
        exact ⟨ret_int (by rw [leftOf_yes (by unfold actionCost; omega)]; unfold actionCost; omega), hkp⟩

end Go.Proofs.Ytjpceimaggcncaa
