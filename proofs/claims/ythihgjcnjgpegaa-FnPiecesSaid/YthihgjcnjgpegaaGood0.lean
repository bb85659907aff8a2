/-
  Which timers may stand in a clock, and which clocks are good.
-/
import Derived.Test.YthihgjcnjgpegaaRows
import Derived.Test.YthihgjcnjgpegaaQuiet
import Derived.Test.YthihgjcnjgpegaaClock
namespace Go.Proofs.Ythihgjcnjgpegaa
open Go.ChangeShapes Go.WideShapes Go.ChangeAt Go.RowKit

theorem ret_bool {a b : Bool} (h : a = b) : Ending.returned (.bool a) = .returned (.bool b) := by rw [h]
def inB (n lo hi : Int) : Bool := decide (lo ≤ n) && decide (n ≤ hi)
theorem inB_true {n lo hi : Int} : inB n lo hi = true ↔ lo ≤ n ∧ n ≤ hi := by simp [inB]
theorem inB_false {n lo hi : Int} : inB n lo hi = false ↔ ¬ (lo ≤ n ∧ n ≤ hi) := by rw [← inB_true]; simp
theorem l1In (n lo hi : Int) (w : World) : Calls Try.prog 46 #[.int .i64 n, .int .i64 lo, .int .i64 hi] w fun e w' => e = .returned (.bool (inB n lo hi)) ∧ w' = w := by
  go_enter Try.func46, Try.ntmps46
  go_wp2
  all_goals
    go_ret
    exact ⟨ret_bool (by rw [Bool.eq_iff_iff]; simp [inB] <;> omega), rfl⟩
theorem goodTime (n : Int) (w : World) : Calls Try.prog 49 #[.int .i64 n] w fun e w' => e = .returned (.bool (inB n 0 100000)) ∧ w' = w := by
  go_enter Try.func49, Try.ntmps49
  go_wp2
  all_goals
    go_ret
    exact ⟨ret_bool (by rw [Bool.eq_iff_iff]; simp [inB] <;> omega), rfl⟩

/-- Whether a timer may stand in a clock of that time, whatever its Id. -/
def waitB (now : Int) (t : TimerD) : Bool := inB t.2.1 (now + 1) 200000 && inB t.2.2.1 0 100000 && inB t.2.2.2 1 1000 && !(t.2.2.1 == 0 && !(t.2.2.2 == 1))
/-- Whether timers may stand behind one with the Id last. -/
def goodL (now : Int) : Int → List TimerD → Bool
  | _, [] => true
  | last, t :: r => decide (last < t.1) && decide (t.1 ≤ 999) && waitB now t && goodL now t.1 r
/-- Whether a clock is good. -/
def goodC (c : ClockD) : Bool := inB c.1 0 100000 && decide (c.2.length ≤ 20) && goodL c.1 (-1) c.2
/-- The Id of the timer ahead of place k. -/
def lastOf (l : List TimerD) (k : Nat) : Int := match k with
  | 0 => -1
  | j + 1 => match l[j]? with
    | some t => t.1
    | none => -1
theorem goodL_step {now last : Int} {l : List TimerD} {k : Nat} {t : TimerD} (h : l[k]? = some t) : goodL now last (l.drop k) = (decide (last < t.1) && decide (t.1 ≤ 999) && waitB now t && goodL now t.1 (l.drop (k + 1))) := by
  obtain ⟨hk, rfl⟩ := List.getElem?_eq_some_iff.1 h
  rw [List.drop_eq_getElem_cons hk, goodL]
theorem lastOf_succ {l : List TimerD} {k : Nat} {t : TimerD} (h : l[k]? = some t) : lastOf l (k + 1) = t.1 := by simp [lastOf, h]

set_option maxHeartbeats 1000000 in
theorem mayWait (a b c d now : Int) (w : World) :
    Calls Try.prog 50 #[.agg #[.int .i64 a, .int .i64 b, .int .i64 c, .int .i64 d], .int .i64 now] w fun e w' => e = .returned (.bool (waitB now (a, b, c, d))) ∧ Kept w w' := by
  go_enter Try.func50, Try.ntmps50
  go_wp2
  all_goals
    go_ret
    refine ⟨ret_bool ?_, (But.refl _ _ _).alloc _⟩
    rw [Bool.eq_iff_iff]
    simp [waitB, inB] at * <;> omega

end Go.Proofs.Ythihgjcnjgpegaa
