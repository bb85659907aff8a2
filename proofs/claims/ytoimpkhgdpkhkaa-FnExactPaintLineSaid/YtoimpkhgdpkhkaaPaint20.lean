/-
  Painting, free of the program.
-/
import Derived.Test.YtoimpkhgdpkhkaaClone20
import Derived.Test.YtoimpkhgdpkhkaaMeet20
namespace Go.Proofs.Ytoimpkhgdpkhkaa
open Go.ChangeShapes Go.WideShapes Go.ChangeAt Go.RowKit

set_option maxRecDepth 100000
set_option linter.unusedVariables false
set_option linter.unusedSimpArgs false

def putL (a b : Int) (l : List Int) (x y col : Int) : List Int := if (0 ≤ x ∧ x ≤ a - 1) ∧ (0 ≤ y ∧ y ≤ b - 1) then l.set (y * a + x).toNat col else l
theorem putL_len (a b : Int) (l : List Int) (x y col : Int) : (putL a b l x y col).length = l.length := by unfold putL; split <;> simp
theorem idx_in {a b x y : Int} (hx : 0 ≤ x ∧ x ≤ a - 1) (hy : 0 ≤ y ∧ y ≤ b - 1) : 0 ≤ y * a ∧ y * a + x < a * b := by
  have h1 : 0 ≤ y * a := Int.mul_nonneg hy.1 (by omega)
  have h2 : (y + 1) * a ≤ b * a := Int.mul_le_mul_of_nonneg_right (by omega) (by omega)
  rw [Int.add_mul, Int.one_mul, Int.mul_comm b a] at h2
  omega
theorem getI_at {l : List Int} {k : Int} (h0 : 0 ≤ k) (h1 : k < (l.length : Int)) : ∃ p, l[k.toNat]? = some p := ⟨_, List.getElem?_eq_getElem (by omega)⟩
/-- A box painted, pixel by pixel. -/
def boxN (c : SheetD) (x y a b col : Int) : Nat → List Int
  | 0 => c.2.2
  | k + 1 => if MeetP x y a b ((k : Int) % c.1) ((k : Int) / c.1) 1 1 then (boxN c x y a b col k).set k col else boxN c x y a b col k
theorem boxN_len (c : SheetD) (x y a b col : Int) (k : Nat) : (boxN c x y a b col k).length = c.2.2.length := by
  induction k with
  | zero => rfl
  | succ k ih => unfold boxN; split <;> simp [ih]
def boxA (c : SheetD) (x y a b col : Int) : SheetD × Bool := if SheetP c ∧ BoxP x y a b ∧ (0 ≤ col ∧ col ≤ 16777215) then ((c.1, c.2.1, boxN c x y a b col c.2.2.length), true) else ((0, 0, []), false)
theorem no_sheet (w : World) (lo hi : Nat) : SheetO w lo hi (.agg #[.int .i64 0, .int .i64 0, .slice none 0 0]) (0, 0, []) := ⟨_, rfl, World.ownsRow_nil _ _ _ _, fun g hg => by cases hg⟩
theorem own_some {w : World} {lo hi : Nat} {v : Value} {ps : List NumD} (h : NumO w lo hi v ps) (h0 : 0 < ps.length) : ∃ g cap, v = .slice (some ⟨g, 0, none⟩) ps.length cap := by
  rcases h.1.2 with ⟨hf, h2⟩ | ⟨g, c2, cur, hf, _⟩
  · omega
  · exact ⟨g, c2, hf⟩

end Go.Proofs.Ytoimpkhgdpkhkaa
