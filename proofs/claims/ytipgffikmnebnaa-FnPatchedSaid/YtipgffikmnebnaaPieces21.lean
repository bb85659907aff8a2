/-
  What a chunk stands for: the program, all ways.
-/
import Derived.Test.YtipgffikmnebnaaPiece21
namespace Go.Proofs.Ytipgffikmnebnaa
open Go.ChangeShapes Go.WideShapes Go.ChangeAt Go.RowKit

set_option maxRecDepth 100000
set_option linter.unusedVariables false
set_option linter.unusedSimpArgs false

theorem ipiece (f m : Int) (d old : List UInt8) (ad ao : Option Addr) (cd co : Nat) (w : World) (hd : BytAt w (.slice ad d.length cd) d) (ho : BytAt w (.slice ao old.length co) old) (hco : old.length ≤ co ∧ co ≤ 9223372036854775807) (hdl : d.length ≤ 1048576) (hol : old.length ≤ 1048576) (hf : -9223372036854775808 ≤ f ∧ f ≤ 9223372036854775807) :
    Calls Try.prog 79 #[.slice ao old.length co, .agg #[.int .i64 f, .int .i64 m, .slice ad d.length cd]] w fun e w' => ∃ a9 n9 c9 b, e = .returned (.tuple #[.slice a9 n9 c9, .bool b]) ∧ b = (pieceP old (f, m, d)).isSome ∧ (∀ p, pieceP old (f, m, d) = some p → n9 = p.length ∧ BytAt w (.slice a9 n9 c9) p) ∧ Kept w w' := by
  by_cases h : 0 < d.length
  · by_cases h1 : f = 0
    · by_cases h2 : m = 0
      · refine (piece_d1 f m d old ad ao cd co w hd ho hco hdl hol hf h h1 h2).mono ?_
        rintro e w' ⟨b, rfl, rfl, k⟩
        rw [piece_data (c := (f, m, d)) h h1 h2]
        exact ⟨_, _, _, _, rfl, rfl, (fun p hp => by cases hp; exact ⟨rfl, hd⟩), k⟩
      · refine (piece_d3 f m d old ad ao cd co w hd ho hco hdl hol hf h h1 h2).mono ?_
        rintro e w' ⟨b, rfl, rfl, k⟩
        rw [piece_dno (c := (f, m, d)) h (fun x => h2 x.2)]
        exact ⟨_, _, _, _, rfl, rfl, (fun p hp => nomatch hp), k⟩
    · refine (piece_d2 f m d old ad ao cd co w hd ho hco hdl hol hf h h1).mono ?_
      rintro e w' ⟨b, rfl, rfl, k⟩
      rw [piece_dno (c := (f, m, d)) h (fun x => h1 x.1)]
      exact ⟨_, _, _, _, rfl, rfl, (fun p hp => nomatch hp), k⟩
  · by_cases h1 : f < 0
    · refine (piece_n1 f m d old ad ao cd co w hd ho hco hdl hol hf h h1).mono ?_
      rintro e w' ⟨rfl, k⟩
      rw [piece_no (c := (f, m, d)) h (fun x => by have := x.1; dsimp only at this; omega)]
      exact ⟨_, _, _, _, rfl, rfl, (fun p hp => nomatch hp), k⟩
    · by_cases h2 : m < 1
      · refine (piece_n2 f m d old ad ao cd co w hd ho hco hdl hol hf h h1 h2).mono ?_
        rintro e w' ⟨rfl, k⟩
        rw [piece_no (c := (f, m, d)) h (fun x => by have := x.2.1; dsimp only at this; omega)]
        exact ⟨_, _, _, _, rfl, rfl, (fun p hp => nomatch hp), k⟩
      · by_cases h3 : (old.length : Int) - f < m
        · refine (piece_n3 f m d old ad ao cd co w hd ho hco hdl hol hf h h1 h2 h3).mono ?_
          rintro e w' ⟨rfl, k⟩
          rw [piece_no (c := (f, m, d)) h (fun x => by have := x.2.2; dsimp only at this; omega)]
          exact ⟨_, _, _, _, rfl, rfl, (fun p hp => nomatch hp), k⟩
        · refine (piece_y f m d old ad ao cd co w hd ho hco hdl hol hf h h1 h2 h3).mono ?_
          rintro e w' ⟨a9, c9, rfl, hb, k⟩
          rw [piece_yes (c := (f, m, d)) h ⟨by dsimp only; omega, by dsimp only; omega, by dsimp only; omega⟩]
          exact ⟨_, _, _, _, rfl, rfl, (fun p hp => by cases hp; exact ⟨rfl, hb⟩), k⟩

end Go.Proofs.Ytipgffikmnebnaa
