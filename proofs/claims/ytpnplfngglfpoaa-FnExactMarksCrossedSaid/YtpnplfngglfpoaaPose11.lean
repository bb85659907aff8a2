/-
  Blends, free of the program.
-/
import Derived.Test.YtpnplfngglfpoaaGoodV11
import Derived.Test.YtpnplfngglfpoaaFlagM
import Derived.Test.YtpnplfngglfpoaaNumM
namespace Go.Proofs.Ytpnplfngglfpoaa
open Go.ChangeShapes Go.WideShapes Go.ChangeAt Go.RowKit

set_option maxRecDepth 100000
set_option linter.unusedVariables false
theorem Kept.of_grown {a b : World} (h : Grown a b) : Kept a b := ⟨h.1.1, h.1.2.1, h.2.2, fun i hs _ => gblock h i hs⟩
theorem news1 {W : World} {b : Nat} {x : Value} (h : Loc W b [x]) : ∀ j u, [x][j]? = some u → W.cell? ((⟨b, 0, none⟩ : Addr).add j) = some u := fun j u hu => by
  rw [Go.WideShapes.add_plain, Nat.zero_add]
  exact h.cell j hu
theorem infoNum : (Try.prog.info? 3).map (fun i => (i.zero, i.size, i.bytes)) = some (some (.int .i64 0), 1, 8) := by kernel_rfl
theorem num_nil (w : World) (lo hi : Nat) : NumO w lo hi (.slice none 0 0) [] := ⟨World.ownsRow_nil _ _ _ _, fun g hg => by simp [Value.ownBlock] at hg⟩
/-- On its way from a to b, where the flag is set. -/
def g1 (a b pt : Int) (m : Bool) : Int := if m then a + mulM (b - a) pt else a
theorem mulM_bd {x pt : Int} (h1 : -200000 ≤ x) (h2 : x ≤ 200000) (h3 : 0 ≤ pt) (h4 : pt ≤ 65536) : -300000 ≤ mulM x pt ∧ mulM x pt ≤ 300000 := by
  have hb := mul_bd (A := 200000) (B := 65536) h1 h2 h3 h4
  rw [show mulM x pt = Plain.nearM (x * pt) 65536 from if_pos ⟨by omega, by omega⟩, near_small _ (by omega) (by omega)]
  omega
def blendL (xs ys : List Int) (pt : Int) (ms : List Bool) (k : Nat) : List Int := (List.range k).map fun i => g1 ((xs[i]?).getD 0) ((ys[i]?).getD 0) pt ((ms[i]?).getD false)
theorem blend_len (xs ys : List Int) (pt : Int) (ms : List Bool) (k : Nat) : (blendL xs ys pt ms k).length = k := by simp [blendL]
theorem blend_snoc {xs ys : List Int} {pt : Int} {ms : List Bool} {k : Nat} {a b : Int} {m : Bool} (ha : xs[k]? = some a) (hb : ys[k]? = some b) (hm : ms[k]? = some m) :
    blendL xs ys pt ms (k + 1) = blendL xs ys pt ms k ++ [g1 a b pt m] := by simp [blendL, List.range_succ, ha, hb, hm]
def BlendP (xs ys : List Int) (pt : Int) (ms : List Bool) : Prop := (xs.length ≤ 8 ∧ ys.length = xs.length ∧ ms.length = xs.length) ∧ (0 ≤ pt ∧ pt ≤ 65536) ∧ (∀ v ∈ xs, ValP v) ∧ ∀ v ∈ ys, ValP v
open Classical in
/-- What BlendPose answers. -/
noncomputable def blendA (xs ys : List Int) (pt : Int) (ms : List Bool) : List Int × Bool := if BlendP xs ys pt ms then (blendL xs ys pt ms xs.length, true) else ([], false)
theorem blend_no {xs ys : List Int} {pt : Int} {ms : List Bool} (h : ¬ BlendP xs ys pt ms) : blendA xs ys pt ms = ([], false) := if_neg h
theorem blend_yes {xs ys : List Int} {pt : Int} {ms : List Bool} (h : BlendP xs ys pt ms) : blendA xs ys pt ms = (blendL xs ys pt ms xs.length, true) := if_pos h
theorem blendA_len (xs ys : List Int) (pt : Int) (ms : List Bool) : (blendA xs ys pt ms).1.length ≤ 8 := by
  by_cases h : BlendP xs ys pt ms
  · rw [blend_yes h]; simp only [blend_len]; exact h.1.1
  · rw [blend_no h]; simp

end Go.Proofs.Ytpnplfngglfpoaa
