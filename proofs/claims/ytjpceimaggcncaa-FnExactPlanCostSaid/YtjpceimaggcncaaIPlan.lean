/-
  What PlanCost answers in the program.
-/
import Derived.Test.YtjpceimaggcncaaThr
namespace Go.Proofs.Ytjpceimaggcncaa
open Go.ChangeShapes Go.WideShapes Go.ChangeAt Go.RowKit
set_option maxRecDepth 100000
set_option linter.unusedVariables false

theorem planA_thr {f : Int} {ns : List Int} {ps : List ActionD} (h : planOk f ns ps = true) : ∃ a b : Int, ∃ c : Bool, thrV ps f ns = .tuple #[.agg #[.int .i64 a, .int .i64 b], .bool c] ∧ planA f ns ps = (a, b, c) := by
  cases hr : runP ps (0, f) ns with
  | none => exact ⟨0, 0, false, by simp [thrV, hr], by simp [planA, h, hr]⟩
  | some s => exact ⟨s.1, s.2, true, by simp [thrV, hr], by simp [planA, h, hr]⟩

set_option maxHeartbeats 4000000 in
theorem iPlan (f : Int) (ns : List Int) (ps : List ActionD) (v v' : Value) (w : World) (hv : NumAt w v ns) (hv' : ActionAt w v' ps) (hq : ∀ p ∈ ps, p.1.size ≤ 1048576) (hn : ps.length ≤ 1048576) (hm : ns.length ≤ 1048576) :
    Calls Try.prog 16 #[.int .i64 f, v, v'] w fun e w' => e = .returned (.tuple #[.int .i64 (planA f ns ps).1, .int .i64 (planA f ns ps).2.1, .bool (planA f ns ps).2.2]) ∧ Kept w w' := by
  obtain ⟨ao, cap, hsl⟩ := row_nil hv
  subst hsl
  obtain ⟨ao', cap', hsl⟩ := row_nil hv'
  subst hsl
  cases hok : planOk f ns ps
  · rw [planA_no hok]
    cases hf : factB f
    · go_enter Try.func16, Try.ntmps16
      go_wp2_with (first | (go_at_call 44; refine (ifacts _ _).mono ?_; rw [hf]; rintro e w' ⟨rfl, rfl⟩))
      refine bodyPost_ret (v := .tuple #[.int .i64 0, .int .i64 0, .bool false]) (by simp [results, Try.results16, go_sem]) rfl ?_
      exact ⟨rfl, (But.refl _ _ _).alloc _⟩
    by_cases hl : ns.length ≤ 20
    · have d : decide ((20 : Int) < (ns.length : Int)) = false := by simp; omega
      have ha : actsB ps = false := by simpa [planOk, hf, hl] using hok
      go_enter Try.func16, Try.ntmps16
      go_wp2_with (first | (go_at_call 44; refine (ifacts _ _).mono ?_; rw [hf]; rintro e w' ⟨rfl, rfl⟩) | (go_at_call 45; refine (iacts ps _ _ (hv'.kept ((But.refl _ _ _).alloc _)) hq hn).mono ?_; rw [ha]; rintro e w1 ⟨rfl, k1⟩))
      refine bodyPost_ret (v := .tuple #[.int .i64 0, .int .i64 0, .bool false]) (by simp [results, Try.results16, go_sem]) rfl ?_
      exact ⟨rfl, But.trans ((But.refl _ _ _).alloc _) k1⟩
    · have d : decide ((20 : Int) < (ns.length : Int)) = true := by simp; omega
      go_enter Try.func16, Try.ntmps16
      go_wp2_with (first | (go_at_call 44; refine (ifacts _ _).mono ?_; rw [hf]; rintro e w' ⟨rfl, rfl⟩))
      refine bodyPost_ret (v := .tuple #[.int .i64 0, .int .i64 0, .bool false]) (by simp [results, Try.results16, go_sem]) rfl ?_
      exact ⟨rfl, (But.refl _ _ _).alloc _⟩
  · have hf : factB f = true := by simp [planOk] at hok; exact hok.1
    have hl : ns.length ≤ 20 := by simp [planOk] at hok; exact hok.2.1
    have ha : actsB ps = true := by simp [planOk] at hok; exact hok.2.2
    have d : decide ((20 : Int) < (ns.length : Int)) = false := by simp; omega
    obtain ⟨A, B, C, hT, hA⟩ := planA_thr hok
    rw [hA]
    have HT : Hid _ := hT
    clear hT hA hok
    go_enter Try.func16, Try.ntmps16
    go_wp2_with (first | (go_at_call 44; refine (ifacts _ _).mono ?_; rw [hf]; rintro e w' ⟨rfl, rfl⟩) | (go_at_call 45; refine (iacts ps _ _ (hv'.kept ((But.refl _ _ _).alloc _)) hq hn).mono ?_; rw [ha]; rintro e w1 ⟨rfl, k1⟩) | (go_at_call 57; have K1 : Kept w w1 := But.trans ((But.refl _ _ _).alloc _) k1; refine (through f ns ps w.heap.size _ _ _ (hv.kept K1) (Kept.cell k1 (by simp [go_sem])) (hv'.kept K1) hq hn hl hf ha).mono ?_; rw [HT.out]; rintro e w2 ⟨rfl, k2⟩))
    go_region
    all_goals (try go_wp2)
    all_goals (refine bodyPost_ret (v := .tuple #[.int .i64 A, .int .i64 B, .bool C]) (by simp [results, Try.results16, go_sem, *]) rfl ?_)
    all_goals exact ⟨rfl, ((K1.trans k2).alloc _).drew⟩
end Go.Proofs.Ytjpceimaggcncaa
