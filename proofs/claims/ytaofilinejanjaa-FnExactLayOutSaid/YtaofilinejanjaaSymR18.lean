/-
  slices.rotateCmpFunc.
-/
import Derived.Test.YtaofilinejanjaaSymS18
namespace Go.Proofs.Ytaofilinejanjaa
open Go.ChangeShapes Go.WideShapes Go.ChangeAt Go.RowKit

set_option maxRecDepth 100000
set_option linter.unusedVariables false

theorem iswr2 (w0 : World) (g n cap lo hi : Nat) (P A M B S : List Int) (hAB : A.length = B.length) (fv : Value) (a b k : Nat) (ha : P.length = a) (hb : P.length + A.length + M.length = b) (hk : A.length = k) (hn : n ≤ 1048576) (W : World) (h : Sw w0 g n cap lo hi (P ++ A ++ M ++ B ++ S) W) :
    Calls Try.prog 60 #[.slice (some ⟨g, 0, none⟩) n cap, .int .i64 (a : Int), .int .i64 (b : Int), .int .i64 (k : Int), fv] W fun e W' => e = .returned (.tuple #[]) ∧ Sw w0 g n cap lo hi (P ++ B ++ M ++ A ++ S) W' := by
  subst ha hb hk
  exact iswr w0 g n cap lo hi P A M B S hAB fv W h hn
set_option maxHeartbeats 8000000 in
theorem irot (w0 : World) (g n cap lo hi : Nat) (P A B S : List Int) (hA : A ≠ []) (hB : B ≠ []) (fv : Value) (a m b : Nat) (ha : P.length = a) (hm : P.length + A.length = m) (hb : P.length + A.length + B.length = b) (hn : n ≤ 1048576) (W : World) (h : Sw w0 g n cap lo hi (P ++ A ++ B ++ S) W) :
    Calls Try.prog 59 #[.slice (some ⟨g, 0, none⟩) n cap, .int .i64 (a : Int), .int .i64 (m : Int), .int .i64 (b : Int), fv] W fun e W' => e = .returned (.tuple #[]) ∧ Sw w0 g n cap lo hi (P ++ B ++ A ++ S) W' := by
  obtain ⟨T, hT⟩ : ∃ T, P ++ B ++ A ++ S = T := ⟨_, rfl⟩
  rw [hT]
  have HT : Hid (P ++ B ++ A ++ S = T) := hT
  have hlen := h.len
  simp only [List.length_append] at hlen
  have hA0 : 0 < A.length := List.length_pos_iff.2 hA
  have hB0 : 0 < B.length := List.length_pos_iff.2 hB
  obtain ⟨i0, hi0⟩ : ∃ i, A.length = i := ⟨_, rfl⟩
  obtain ⟨j0, hj0⟩ : ∃ j, B.length = j := ⟨_, rfl⟩
  have e1 : IntKind.i64.wrap ((m : Int) - (a : Int)) = (i0 : Int) := by rw [IntWalk.i64_in _ (by omega)]; omega
  have e2 : IntKind.i64.wrap ((b : Int) - (m : Int)) = (j0 : Int) := by rw [IntWalk.i64_in _ (by omega)]; omega
  have HM : Hid (P.length + A.length = m ∧ A.length = i0 ∧ B.length = j0) := show P.length + A.length = m ∧ A.length = i0 ∧ B.length = j0 from ⟨hm, hi0, hj0⟩
  have hmn : m ≤ n := by omega
  have hpi : 0 < i0 := by omega
  have hpj : 0 < j0 := by omega
  clear hT ha hm hb hlen hA0 hB0 hi0 hj0 hA hB
  go_enter Try.func59, Try.ntmps59
  go_wp2
  clear e1 e2
  go_loopw [10, 11] (fun iv jv wr => ∃ (i j : Nat) (P X Y S : List Int), Hid (P ++ Y ++ X ++ S = T ∧ P.length + X.length = m ∧ X.length = i ∧ Y.length = j) ∧ iv = .int .i64 (i : Int) ∧ jv = .int .i64 (j : Int) ∧ 0 < i ∧ 0 < j ∧ Sw w0 g n cap lo hi (P ++ X ++ Y ++ S) wr) (fun iv jv _ => (intOf iv).toNat + (intOf jv).toNat)
  case atStart => exact ⟨i0, j0, P, A, B, S, (show P ++ B ++ A ++ S = T ∧ P.length + A.length = m ∧ A.length = i0 ∧ B.length = j0 from ⟨HT.out, HM.out⟩), rfl, rfl, hpi, hpj, h⟩
  case round =>
    obtain ⟨i, j, P, X, Y, S, HE, rfl, rfl, hi1, hj1, hs⟩ := hrel
    have hlen := hs.len
    simp only [List.length_append] at hlen
    obtain ⟨p0, hp0⟩ : ∃ p, P.length = p := ⟨_, rfl⟩
    have hin : i + j ≤ n := by have := HE.out; omega
    have w1 : IntKind.i64.wrap ((m : Int) - (i : Int)) = (p0 : Int) := by have := HE.out; rw [IntWalk.i64_in _ (by omega)]; omega
    have HS : Hid (Sw w0 g n cap lo hi (P ++ X ++ Y ++ S) wr) := hs
    have HP : Hid (P.length = p0) := hp0
    clear hs hlen h hp0 HT HM
    rcases Nat.lt_trichotomy i j with hij | hij | hij
    · have d1 : ((i : Int) != (j : Int)) = true := by simp; omega
      have d1' : (i != j) = true := by simp; omega
      have d2 : decide ((j : Int) < (i : Int)) = false := decide_eq_false (by omega)
      have d2' : decide (j < i) = false := decide_eq_false (by omega)
      have w2 : IntKind.i64.wrap ((m : Int) + (j : Int)) = ((m + j : Nat) : Int) := by rw [IntWalk.i64_in _ (by omega)]; omega
      have w3 : IntKind.i64.wrap (((m + j : Nat) : Int) - (i : Int)) = ((m + (j - i) : Nat) : Int) := by rw [IntWalk.i64_in _ (by omega)]; omega
      have w4 : IntKind.i64.wrap ((j : Int) - (i : Int)) = ((j - i : Nat) : Int) := by rw [IntWalk.i64_in _ (by omega)]; omega
      have hY : Y = Y.take (j - i) ++ Y.drop (j - i) := (List.take_append_drop _ _).symm
      have hY1 : (Y.take (j - i)).length = j - i := by have := HE.out; rw [List.length_take]; omega
      have hY2 : (Y.drop (j - i)).length = i := by have := HE.out; rw [List.length_drop]; omega
      have hc := iswr2 w0 g n cap lo hi P X (Y.take (j - i)) (Y.drop (j - i)) S (by have := HE.out; omega) fv p0 (m + (j - i)) i HP.out (by have := HE.out; omega) (by have := HE.out; omega) hn wr (HS.out.as (by rw [show P ++ X ++ Y.take (j - i) ++ Y.drop (j - i) ++ S = P ++ X ++ (Y.take (j - i) ++ Y.drop (j - i)) ++ S by simp, ← hY]))
      have HN : Hid (P ++ Y.take (j - i) ++ Y.drop (j - i) ++ (X ++ S) = T ∧ P.length + (Y.drop (j - i)).length = m ∧ (Y.drop (j - i)).length = i ∧ (Y.take (j - i)).length = j - i) := by
        have he := HE.out
        exact (⟨by rw [← he.1]; conv => rhs; rw [hY]
                   simp, by omega, hY2, hY1⟩ : P ++ Y.take (j - i) ++ Y.drop (j - i) ++ (X ++ S) = T ∧ P.length + (Y.drop (j - i)).length = m ∧ (Y.drop (j - i)).length = i ∧ (Y.take (j - i)).length = j - i)
      have HC : Hid _ := hc
      clear hc hY hY1 hY2
      generalize Y.take (j - i) = Y1 at *
      generalize Y.drop (j - i) = Y2 at *
      generalize hq2 : m + (j - i) = q2 at *
      generalize hq1 : m + j = q1 at *
      have hq3 : 0 < j - i := by omega
      generalize hq4 : j - i = q4 at *
      have HQ4 : Hid (q4 < j) := show q4 < j from by omega
      clear hq2 hq1 hq4
      repeat (first | go_values | go_skip | go_guarded | go_step | go_upon)
      go_at_call 60
      refine Calls.mono HC.out ?_
      rintro e w3 ⟨rfl, hs3⟩
      have HS3 : Hid (Sw w0 g n cap lo hi (P ++ Y2 ++ Y1 ++ X ++ S) w3) := hs3
      clear hs3 HC HS
      dsimp only
      repeat (first | go_values | go_skip | go_guarded | go_step | go_upon)
      exact ⟨⟨i, q4, P, Y2, Y1, X ++ S, HN, rfl, rfl, hi1, hq3, HS3.out.as (by simp)⟩, by simp [intOf]; have := HQ4.out; omega⟩
    · subst hij
      have d1 : ((i : Int) != (i : Int)) = false := by simp
      have hc := iswr2 w0 g n cap lo hi P X [] Y S (by have := HE.out; omega) fv p0 m i HP.out (by have := HE.out; simp; omega) (by have := HE.out; omega) hn wr (HS.out.as (by simp))
      have HC : Hid _ := hc
      clear hc
      repeat (first | go_values | go_skip | go_guarded | go_step | go_upon)
      go_at_call 60
      refine Calls.mono HC.out ?_
      rintro e w3 ⟨rfl, hs3⟩
      have HS3 : Hid (Sw w0 g n cap lo hi T w3) := hs3.as (by rw [← HE.out.1]; simp)
      clear hs3 HC HS
      dsimp only
      repeat (first | go_values | go_skip | go_guarded | go_step | go_upon)
      go_end0
      exact ⟨rfl, HS3.out⟩
    · have d1 : ((i : Int) != (j : Int)) = true := by simp; omega
      have d1' : (i != j) = true := by simp; omega
      have d2 : decide ((j : Int) < (i : Int)) = true := decide_eq_true (by omega)
      have d2' : decide (j < i) = true := decide_eq_true (by omega)
      have w4 : IntKind.i64.wrap ((i : Int) - (j : Int)) = ((i - j : Nat) : Int) := by rw [IntWalk.i64_in _ (by omega)]; omega
      have hX : X = X.take j ++ X.drop j := (List.take_append_drop _ _).symm
      have hX1 : (X.take j).length = j := by have := HE.out; rw [List.length_take]; omega
      have hX2 : (X.drop j).length = i - j := by have := HE.out; rw [List.length_drop]; omega
      have hc := iswr2 w0 g n cap lo hi P (X.take j) (X.drop j) Y S (by have := HE.out; omega) fv p0 m j HP.out (by have := HE.out; omega) hX1 hn wr (HS.out.as (by rw [show P ++ X.take j ++ X.drop j ++ Y ++ S = P ++ (X.take j ++ X.drop j) ++ Y ++ S by simp, ← hX]))
      have HN : Hid ((P ++ Y) ++ X.take j ++ X.drop j ++ S = T ∧ (P ++ Y).length + (X.drop j).length = m ∧ (X.drop j).length = i - j ∧ (X.take j).length = j) := by
        have he := HE.out
        exact (⟨by rw [← he.1]; conv => rhs; rw [hX]
                   simp, by rw [List.length_append]; omega, hX2, hX1⟩ : (P ++ Y) ++ X.take j ++ X.drop j ++ S = T ∧ (P ++ Y).length + (X.drop j).length = m ∧ (X.drop j).length = i - j ∧ (X.take j).length = j)
      have HC : Hid _ := hc
      clear hc hX hX1 hX2
      generalize X.take j = X1 at *
      generalize X.drop j = X2 at *
      have hq3 : 0 < i - j := by omega
      generalize hq4 : i - j = q4 at *
      have HQ4 : Hid (q4 < i) := show q4 < i from by omega
      clear hq4
      repeat (first | go_values | go_skip | go_guarded | go_step | go_upon)
      go_at_call 60
      refine Calls.mono HC.out ?_
      rintro e w3 ⟨rfl, hs3⟩
      have HS3 : Hid (Sw w0 g n cap lo hi (P ++ Y ++ X2 ++ X1 ++ S) w3) := hs3
      clear hs3 HC HS
      dsimp only
      repeat (first | go_values | go_skip | go_guarded | go_step | go_upon)
      exact ⟨⟨q4, j, P ++ Y, X2, X1, S, HN, rfl, rfl, hq3, hj1, HS3.out⟩, by simp [intOf]; have := HQ4.out; omega⟩

end Go.Proofs.Ytaofilinejanjaa
