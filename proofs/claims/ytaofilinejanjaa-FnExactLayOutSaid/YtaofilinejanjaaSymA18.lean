/-
  slices.symMergeCmpFunc: two rising lists become one.
-/
import Derived.Test.YtaofilinejanjaaSymG18
import Derived.Test.YtaofilinejanjaaSymL18
import Derived.Test.YtaofilinejanjaaSymN18
namespace Go.Proofs.Ytaofilinejanjaa
open Go.ChangeShapes Go.WideShapes Go.ChangeAt Go.RowKit

set_option maxRecDepth 100000
set_option linter.unusedVariables false

theorem isym (w0 : World) (g n cap lo hi Bx : Nat) (r : Int → Int) (hn : n ≤ 1048576) (hcm : CmpC w0 g n Bx r) : ∀ (N : Nat) (P A B S : List Int) (a m b : Nat), A.length + B.length = N → A ≠ [] → B ≠ [] → Srt r A → Srt r B → (∀ x ∈ A, ∀ y ∈ B, x < y) → P.length = a → P.length + A.length = m → P.length + A.length + B.length = b → ∀ W, Sw w0 g n cap lo hi (P ++ A ++ B ++ S) W → Calls Try.prog 58 #[.slice (some ⟨g, 0, none⟩) n cap, .int .i64 (a : Int), .int .i64 (m : Int), .int .i64 (b : Int), (.func (.func 53) #[] #[.pointer (some ⟨Bx, 0, none⟩)])] W fun e W' => e = .returned (.tuple #[]) ∧ ∃ C, C.Perm (A ++ B) ∧ Srt r C ∧ Sw w0 g n cap lo hi (P ++ C ++ S) W' := by
  intro N
  induction N using Nat.strongRecOn with
  | _ N ih =>
    intro P A B S a m b hN hA hB sA sB hAB ha hm hb W h
    have hA0 : 0 < A.length := List.length_pos_iff.2 hA
    have hB0 : 0 < B.length := List.length_pos_iff.2 hB
    by_cases h1 : A.length = 1
    · obtain ⟨x, rfl⟩ := List.length_eq_one_iff.1 h1
      exact isymL w0 g n cap lo hi Bx r hn hcm P B S x sB (fun y hy => hAB x (by simp) y hy) a m b ha (by simp at hm; omega) (by simp at hb hm; omega) W h
    · by_cases h2 : B.length = 1
      · obtain ⟨y, rfl⟩ := List.length_eq_one_iff.1 h2
        exact isymR w0 g n cap lo hi Bx r hn hcm P A S y sA (fun x hx => hAB x hx y (by simp)) a m b ha (by omega) (by simp at hb; omega) h1 W h
      · exact isymG w0 g n cap lo hi Bx r hn hcm N (fun P A B S a m b hlt => ih _ hlt P A B S a m b rfl) P A B S a m b hN (by omega) (by omega) sA sB hAB ha hm hb W h

end Go.Proofs.Ytaofilinejanjaa
