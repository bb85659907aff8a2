/-
  Marks that are crossed, free of the program.
-/
import Derived.Test.YtpnplfngglfpoaaGoodC11
import Derived.Test.YtpnplfngglfpoaaPose11
import Derived.Test.YtpnplfngglfpoaaTxtM
namespace Go.Proofs.Ytpnplfngglfpoaa
open Go.ChangeShapes Go.WideShapes Go.ChangeAt Go.RowKit

set_option maxRecDepth 100000
set_option linter.unusedVariables false

/-- The frame behind so many steps, and the marks that are come to. -/
def stepF (x fr : Int) : Nat → Int
  | 0 => fr
  | i + 1 => (stepF x fr i + 1) % x
theorem stepF_in {x fr : Int} (h1 : 0 ≤ fr) (h2 : fr < x) : ∀ i, 0 ≤ stepF x fr i ∧ stepF x fr i < x
  | 0 => ⟨h1, h2⟩
  | i + 1 => ⟨Int.emod_nonneg _ (by omega), Int.emod_lt_of_pos _ (by omega)⟩
def hits (ms : List MarkD) (f : Int) : List ByteArray := (ms.filter fun m => m.1 == f).map Prod.snd
theorem hits_yes {ms : List MarkD} {j : Nat} {f : Int} {nm : ByteArray} (h : ms[j]? = some (f, nm)) : hits (ms.take (j + 1)) f = hits (ms.take j) f ++ [nm] := by
  rw [take_snoc h]
  simp [hits]
theorem hits_no {ms : List MarkD} {j : Nat} {f g : Int} {nm : ByteArray} (h : ms[j]? = some (f, nm)) (hne : (f == g) = false) : hits (ms.take (j + 1)) g = hits (ms.take j) g := by
  rw [take_snoc h]
  simp [hits, hne]
def crossL (ms : List MarkD) (x fr : Int) : Nat → List ByteArray
  | 0 => []
  | i + 1 => crossL ms x fr i ++ hits ms (stepF x fr (i + 1))
theorem hits_len (ms : List MarkD) (f : Int) : (hits ms f).length ≤ ms.length := by
  unfold hits
  rw [List.length_map]
  exact List.length_filter_le _ _
theorem cross_len {ms : List MarkD} (h : ms.length ≤ 20) (x fr : Int) : ∀ i, (crossL ms x fr i).length ≤ 20 * i
  | 0 => by simp [crossL]
  | i + 1 => by
    have := cross_len h x fr i
    have h2 := hits_len ms (stepF x fr (i + 1))
    simp only [crossL, List.length_append]
    omega
def CrossP (c : ClipD) (fr st : Int) : Prop := ClipP c ∧ (0 ≤ fr ∧ fr < c.1) ∧ (0 ≤ st ∧ st ≤ 600)
open Classical in
/-- What MarksCrossed answers. -/
noncomputable def crossA (c : ClipD) (fr st : Int) : List ByteArray × Int × Bool := if CrossP c fr st then (crossL c.2.2 c.1 fr st.toNat, stepF c.1 fr st.toNat, true) else ([], 0, false)
theorem cross_no {c : ClipD} {fr st : Int} (h : ¬ CrossP c fr st) : crossA c fr st = ([], 0, false) := if_neg h
theorem cross_yes {c : ClipD} {fr st : Int} (h : CrossP c fr st) : crossA c fr st = (crossL c.2.2 c.1 fr st.toNat, stepF c.1 fr st.toNat, true) := if_pos h
theorem crossA_len (c : ClipD) (fr st : Int) : (crossA c fr st).1.length ≤ 12000 := by
  by_cases h : CrossP c fr st
  · rw [cross_yes h]
    have := cross_len h.1.2.2.1 c.1 fr st.toNat
    have := h.2.2
    dsimp only
    omega
  · rw [cross_no h]; simp
theorem infoTxt : (Try.prog.info? 9).map (fun i => (i.zero, i.size, i.bytes)) = some (some (.string ByteArray.empty), 1, 16) := by kernel_rfl
theorem txt_nil (w : World) (lo hi : Nat) : TxtO w lo hi (.slice none 0 0) [] := ⟨World.ownsRow_nil _ _ _ _, fun g hg => by simp [Value.ownBlock] at hg⟩
theorem ret_three {v : Value} {a b : Int} {x y : Bool} (h : a = b) (h' : x = y) : Ending.returned (.tuple #[v, .int .i64 a, .bool x]) = .returned (.tuple #[v, .int .i64 b, .bool y]) := by rw [h, h']

end Go.Proofs.Ytpnplfngglfpoaa
