/-
  What RunClock answers, without the program.
-/
import Derived.Test.YthihgjcnjgpegaaRunM
import Derived.Test.YthihgjcnjgpegaaTimer
import Derived.Test.YthihgjcnjgpegaaClock
import Derived.Test.YthihgjcnjgpegaaGood0
namespace Go.Proofs.Ythihgjcnjgpegaa
open Go.ChangeShapes Go.WideShapes Go.ChangeAt Go.RowKit

/-- What RunClock answers. -/
def outA (u : Int) : Option (List TimerD × List FiredD) → ClockD × List FiredD × Bool
  | some r => ((u, r.1), r.2, true)
  | none => ((0, []), [], false)
def runA (c : ClockD) (u : Int) : ClockD × List FiredD × Bool := if goodC c && decide (c.1 ≤ u) && decide (u ≤ 100000) then outA u (runM u 2000 c.2) else ((0, []), [], false)
theorem goodL_TB {now : Int} (hn : 0 ≤ now) : ∀ (l : List TimerD) (last : Int), goodL now last l = true → ∀ t ∈ l, TB t
  | [], _, _ => fun p hp => by cases hp
  | t :: r, last, h => by
    simp only [goodL, Bool.and_eq_true, decide_eq_true_eq] at h
    intro p hp
    rcases List.mem_cons.1 hp with rfl | hp
    · have := h.1.2
      simp only [waitB, Bool.and_eq_true, inB_true] at this
      unfold TB
      omega
    · exact goodL_TB hn r t.1 h.2 p hp
theorem good_TB {c : ClockD} (h : goodC c = true) : ∀ t ∈ c.2, TB t := by
  simp only [goodC, Bool.and_eq_true, inB_true] at h
  exact goodL_TB h.1.1.1 _ _ h.2
theorem inv_start {c : ClockD} (u : Int) (h : goodC c = true) {ps : List TimerD} (hp : ps.Perm c.2) : RunInv u (runM u 2000 c.2) ps [] :=
  ⟨c.2, hp.symm, good_rising h, good_TB h, .inl ⟨by simp, by rw [ahd_nil]; rfl⟩⟩
theorem zero_clock2 (w : World) (lo hi : Nat) : ClockO w lo hi (.agg #[.int .i64 0, .slice none 0 0]) (0, []) := ⟨_, rfl, World.ownsRow_nil _ _ _ _, fun g hg => by simp [Value.ownBlock] at hg⟩
theorem zero_fired (w : World) (lo hi : Nat) : FiredO w lo hi (.slice none 0 0) [] := ⟨World.ownsRow_nil _ _ _ _, fun g hg => by simp [Value.ownBlock] at hg⟩

end Go.Proofs.Ythihgjcnjgpegaa
