/-
  slices.swapRangeCmpFunc.
-/
import Derived.Test.YtaofilinejanjaaSymM18
namespace Go.Proofs.Ytaofilinejanjaa
open Go.ChangeShapes Go.WideShapes Go.ChangeAt Go.RowKit

set_option maxRecDepth 100000
set_option linter.unusedVariables false

set_option maxHeartbeats 8000000 in
theorem iswr (w0 : World) (g n cap lo hi : Nat) (P A M B S : List Int) (hAB : A.length = B.length) (fv : Value) (W : World) (h : Sw w0 g n cap lo hi (P ++ A ++ M ++ B ++ S) W) (hn : n ≤ 1048576) :
    Calls Try.prog 60 #[.slice (some ⟨g, 0, none⟩) n cap, .int .i64 (P.length : Int), .int .i64 ((P.length + A.length + M.length : Nat) : Int), .int .i64 (A.length : Int), fv] W fun e W' => e = .returned (.tuple #[]) ∧ Sw w0 g n cap lo hi (P ++ B ++ M ++ A ++ S) W' := by
  have hl := h.len
  simp only [List.length_append] at hl
  obtain ⟨bb, hbb⟩ : ∃ b : Nat, P.length + A.length + M.length = b := ⟨_, rfl⟩
  rw [hbb]
  have HBB : Hid (P.length + A.length + M.length = bb) := hbb
  have hb0 : bb + A.length ≤ n := by omega
  have ha0 : P.length + A.length ≤ n := by omega
  clear hbb
  go_enter Try.func60, Try.ntmps60
  go_wp2
  go_loopw [10] (fun i wr => ∃ A1 A2 B1 B2 : List Int, Hid (A = A1 ++ A2 ∧ B = B1 ++ B2 ∧ A1.length = B1.length) ∧ i = .int .i64 (A1.length : Int) ∧ A1.length ≤ A.length ∧ Sw w0 g n cap lo hi (P ++ B1 ++ A2 ++ M ++ A1 ++ B2 ++ S) wr) (fun i _ => A.length - (intOf i).toNat)
  case atStart => exact ⟨[], A, [], B, (show A = [] ++ A ∧ B = [] ++ B ∧ ([] : List Int).length = ([] : List Int).length from ⟨rfl, rfl, rfl⟩), rfl, by simp, h.as (by simp)⟩
  case round =>
    obtain ⟨A1, A2, B1, B2, HE, rfl, hle, hs⟩ := hrel
    cases A2 with
    | nil =>
      obtain ⟨e1, e2, e3⟩ := HE.out
      have hAl : A1.length = A.length := by rw [e1]; simp
      have hB2 : B2 = [] := by
        have h5 := congrArg List.length e2
        rw [List.length_append] at h5
        exact List.eq_nil_of_length_eq_zero (by omega)
      subst hB2
      have hf : P ++ B1 ++ [] ++ M ++ A1 ++ [] ++ S = P ++ B ++ M ++ A ++ S := by rw [e1, e2]; simp
      have HS : Hid (Sw w0 g n cap lo hi (P ++ B ++ M ++ A ++ S) wr) := hs.as hf
      have d0 : decide ((A1.length : Int) < (A.length : Int)) = false := decide_eq_false (by omega)
      have d0' : decide (A1.length < A.length) = false := decide_eq_false (by omega)
      clear e1 e2 hs hf
      repeat (first | go_values | go_skip | go_guarded | go_step | go_upon)
      go_end0
      exact ⟨rfl, HS.out⟩
    | cons x A2 =>
      obtain ⟨e1, e2, e3⟩ := HE.out
      have hAl : A1.length < A.length := by rw [e1]; simp
      cases B2 with
      | nil =>
        have h5 := congrArg List.length e2
        simp at h5
        omega
      | cons y B2 =>
        have hf : P ++ B1 ++ x :: A2 ++ M ++ A1 ++ y :: B2 ++ S = (P ++ B1) ++ x :: ((A2 ++ M ++ A1) ++ y :: (B2 ++ S)) := by simp
        have hs2 := hs.as hf
        obtain ⟨f1, z1, y1⟩ := hs2.cell (at_first _ _ _)
        obtain ⟨f2, z2, y2⟩ := hs2.cell (at_second _ _ _ _ _)
        obtain ⟨f3, hfin⟩ := hs2.up
        have hal := congrArg List.length e1
        simp only [List.length_append, List.length_cons] at hal
        have hU : (P ++ B1).length = P.length + A1.length := by rw [List.length_append]; omega
        have hV : (P ++ B1).length + 1 + (A2 ++ M ++ A1).length = bb + A1.length := by have := HBB.out; simp only [List.length_append]; omega
        have HF : Hid (Sw w0 g n cap lo hi (P ++ (B1 ++ [y]) ++ A2 ++ M ++ (A1 ++ [x]) ++ B2 ++ S) ((wr.setCell ⟨g, P.length + A1.length, none⟩ (.int .i64 y)).setCell ⟨g, bb + A1.length, none⟩ (.int .i64 x))) := by
          have e : Sw w0 g n cap lo hi (P ++ (B1 ++ [y]) ++ A2 ++ M ++ (A1 ++ [x]) ++ B2 ++ S) ((wr.setCell ⟨g, P.length + A1.length, none⟩ (.int .i64 y)).setCell ⟨g, bb + A1.length, none⟩ (.int .i64 x)) := by
            rw [hV, hU] at hfin
            exact hfin.as (by simp)
          exact e
        rw [hV] at f2 z2 y2 f3
        rw [hU] at f1 z1 y1 f3
        have HE2 : Hid (A = (A1 ++ [x]) ++ A2 ∧ B = (B1 ++ [y]) ++ B2 ∧ (A1 ++ [x]).length = (B1 ++ [y]).length) := show A = (A1 ++ [x]) ++ A2 ∧ B = (B1 ++ [y]) ++ B2 ∧ (A1 ++ [x]).length = (B1 ++ [y]).length from ⟨by rw [e1]; simp, by rw [e2]; simp, by simp [e3]⟩
        have d0 : decide ((A1.length : Int) < (A.length : Int)) = true := decide_eq_true (by omega)
        have d0' : decide (A1.length < A.length) = true := decide_eq_true (by omega)
        have w1 : IntKind.i64.wrap ((P.length : Int) + (A1.length : Int)) = ((P.length + A1.length : Nat) : Int) := by rw [IntWalk.i64_in _ (by omega)]; omega
        have w2 : IntKind.i64.wrap ((bb : Int) + (A1.length : Int)) = ((bb + A1.length : Nat) : Int) := by rw [IntWalk.i64_in _ (by omega)]; omega
        have q1 : (0 : Int) ≤ ((P.length + A1.length : Nat) : Int) := by omega
        have q2 : (0 : Int) ≤ ((bb + A1.length : Nat) : Int) := by omega
        have ha1 : A1.length ≤ 1048576 := by omega
        clear e1 e2 e3 hs hs2 hf hfin hal hU hV HE
        generalize hi1 : P.length + A1.length = i1 at *
        generalize hi2 : bb + A1.length = i2 at *
        clear hi1 hi2
        repeat (first | go_values | go_skip | go_guarded | go_step | go_upon)
        go_big_region
        repeat (first | go_values | go_skip | go_guarded | go_step | go_upon)
        exact ⟨⟨A1 ++ [x], A2, B1 ++ [y], B2, HE2, by simp, by simp; omega, HF.out.kept ((But.refl _ _ _).drew)⟩, by simp [intOf]; omega⟩

end Go.Proofs.Ytaofilinejanjaa
