/-
  Shuffles free of the program, and numbers that change their places.
-/
import Derived.Test.YtpeiblodefaajaaCoin12
import Derived.Test.YtpeiblodefaajaaNum
import Derived.Deep.Slices
namespace Go.Proofs.Ytpeiblodefaajaa
open Go.ChangeShapes Go.WideShapes Go.ChangeAt Go.RowKit

set_option maxRecDepth 100000
set_option linter.unusedVariables false
theorem info_num : (Try.prog.info? 3).map (fun i => (i.zero, i.size, i.bytes)) = some (some (.int .i64 0), 1, 8) := by kernel_rfl
theorem news1 {W : World} {b : Nat} {cs : List Value} (h : Loc W b cs) : ∀ j u, cs[j]? = some u → W.cell? ((⟨b, 0, none⟩ : Addr).add j) = some u := fun j u hu => by
  rw [Go.WideShapes.add_plain, Nat.zero_add]
  exact h.cell j hu
theorem num_nil (w : World) (lo hi : Nat) : NumO w lo hi (.slice none 0 0) [] := ⟨World.ownsRow_nil _ _ _ _, fun g hg => by simp [Value.ownBlock] at hg⟩
theorem num_form {w : World} {lo hi : Nat} {v : Value} {ps : List NumD} (h : NumO w lo hi v ps) (h0 : 0 < ps.length) : ∃ g cap, v = .slice (some ⟨g, 0, none⟩) ps.length cap ∧ lo ≤ g ∧ g < w.heap.size := by
  have hlt := h.1
  rcases h.1.2 with ⟨hv, hn⟩ | ⟨g, cap, cur, hv, hbs, hgg, _⟩
  · omega
  · subst hv
    have := own_lt h.1 (g := g) (by simp [Value.ownBlock])
    exact ⟨g, cap, rfl, this.1, this.2⟩
/-- Two numbers exchanged. -/
def swapL (l : List Int) (i k : Nat) : List Int := (l.set i (l.getD k 0)).set k (l.getD i 0)
theorem swapL_len (l : List Int) (i k : Nat) : (swapL l i k).length = l.length := by simp [swapL]
/-- The shuffle from place i down. -/
def shufL : Nat → List Int → Int → List Int × Int
  | 0, l, s => (l, s)
  | i + 1, l, s => shufL i (swapL l (i + 1) (coinC s % ((i + 1 : Nat) + 1)).toNat) (coinN s)
theorem shufL_len : ∀ (i : Nat) (l : List Int) (s : Int), (shufL i l s).1.length = l.length
  | 0, l, s => rfl
  | i + 1, l, s => by rw [shufL, shufL_len i, swapL_len]
def rangeL (n : Nat) : List Int := (List.range n).map fun i : Nat => (i : Int)
theorem rangeL_succ (n : Nat) : rangeL (n + 1) = rangeL n ++ [(n : Int)] := by simp [rangeL, List.range_succ]
theorem rangeL_len (n : Nat) : (rangeL n).length = n := by simp [rangeL]
theorem rangeL_get {n i : Nat} (h : i < n) : (rangeL n)[i]? = some (i : Int) := by simp [rangeL, h]
def ShufP (m sd : Int) : Prop := (0 ≤ m ∧ m ≤ 60) ∧ 0 ≤ sd ∧ sd ≤ 2147483647
instance (m sd : Int) : Decidable (ShufP m sd) := by unfold ShufP; infer_instance
/-- What ShuffleBy answers. -/
def shufA (m sd : Int) : List Int × Int × Bool := if ShufP m sd then ((shufL (m.toNat - 1) (rangeL m.toNat) sd).1, (shufL (m.toNat - 1) (rangeL m.toNat) sd).2, true) else ([], 0, false)
theorem shufA_no {m sd : Int} (h : ¬ ShufP m sd) : shufA m sd = ([], 0, false) := if_neg h
theorem shufA_yes {m : Nat} {sd : Int} {l : List Int} {s : Int} (h : ShufP m sd) (e : shufL (m - 1) (rangeL m) sd = (l, s)) : shufA m sd = (l, s, true) := by
  unfold shufA
  rw [if_pos h, Int.toNat_natCast, e]
theorem shufA_len (m sd : Int) : (shufA m sd).1.length ≤ 60 := by
  unfold shufA
  split
  · rename_i h
    have := h.1.2
    simp only [shufL_len, rangeL_len]
    omega
  · simp
theorem retS {v : Value} {b b' : Int} {c c' : Bool} {l l' : List Int} (h : (l', b', c') = (l, b, c)) : Ending.returned (.tuple #[v, .int .i64 b, .bool c]) = .returned (.tuple #[v, .int .i64 b', .bool c']) := by cases h; rfl
theorem swap_set {w : World} {lo hi g cap n : Nat} {l : List Int} (ho : NumO w lo hi (.slice (some ⟨g, 0, none⟩) n cap) l) (hn : n = l.length) {i k : Nat} {a b : Int} (hi' : l[i]? = some a) (hk : l[k]? = some b) :
    NumO ((w.setCell ⟨g, i, none⟩ (.int .i64 b)).setCell ⟨g, k, none⟩ (.int .i64 a)) lo hi (.slice (some ⟨g, 0, none⟩) n cap) (swapL l i k) := by
  have h1 := ho.set hn hi' b
  obtain ⟨b', hb'⟩ : ∃ p : Int, (l.set i b)[k]? = some p := ⟨_, List.getElem?_eq_getElem (by have := (List.getElem?_eq_some_iff.1 hk).1; simpa using this)⟩
  have h2 := h1.set (by simpa using hn) hb' a
  have e : swapL l i k = (l.set i b).set k a := by
    unfold swapL
    rw [List.getD_eq_getElem?_getD, List.getD_eq_getElem?_getD, hi', hk]
    rfl
  rw [e]
  exact h2

end Go.Proofs.Ytpeiblodefaajaa
