/-
  Letters turned: turnLetter, strings.Map, slices.Contains.
-/
import Derived.Test.YtgbgnmjgnfocmaaDoorRot19
import Derived.Test.YtgbgnmjgnfocmaaDoorShelf
import Derived.Test.YtgbgnmjgnfocmaaDoorNum
import Derived.Test.YtgbgnmjgnfocmaaDoorQuiet
import Derived.Test.YtgbgnmjgnfocmaaDoorLeaf18
namespace Go.Proofs.YtgbgnmjgnfocmaaDoor
open Go.ChangeShapes Go.WideShapes Go.ChangeAt Go.RowKit

set_option maxRecDepth 100000
set_option linter.unusedVariables false
theorem no_mem {l : List Int} {n : Int} (h : ∀ j : Nat, j < l.length → l[j]? ≠ some n) : n ∉ l := fun hm => by
  obtain ⟨i, hi⟩ := List.mem_iff_getElem?.1 hm
  exact h i (List.getElem?_eq_some_iff.1 hi).1 hi

set_option maxHeartbeats 4000000 in
theorem iidx (l : List Int) (n : Int) (ao : Option Addr) (cap : Nat) (w : World) (hv : NumAt w (.slice ao l.length cap) l) (hn : l.length ≤ 9000000000000000000) :
    Calls Tryd.prog 13 #[.slice ao l.length cap, .int .i64 n] w fun e w' => ∃ i : Int, e = .returned (.int .i64 i) ∧ (0 ≤ i ↔ n ∈ l) ∧ w' = w := by
  go_enter Tryd.func13, Tryd.ntmps13
  go_wp2
  go_loopw [8] (fun i wr => ∃ k : Nat, k ≤ l.length ∧ i = .int .i64 k ∧ Hid (∀ j : Nat, j < k → l[j]? ≠ some n) ∧ w = wr) (fun i _ => l.length - (intOf i).toNat)
  case atStart => exact ⟨0, by omega, rfl, fun j hj => by omega, rfl⟩
  case round =>
    obtain ⟨k, hk, rfl, HB, rfl⟩ := hrel
    by_cases hlt : k < l.length
    · obtain ⟨p, hp⟩ : ∃ p : Int, l[k]? = some p := ⟨_, List.getElem?_eq_getElem hlt⟩
      obtain ⟨g, o, cap1, ee, c0⟩ := num_get hv hp
      cases ee
      have HP : Hid (l[k]? = some p) := hp
      clear hp hv
      by_cases h1 : n = p
      · subst h1
        repeat (first | go_values | go_skip | go_guarded | go_step | go_upon)
        go_ret
        exact ⟨_, rfl, ⟨fun _ => List.mem_of_getElem? HP.out, fun _ => by omega⟩, rfl⟩
      · have h1' : (p == n) = false := by simp; omega
        have h1'' : (n == p) = false := by simp; omega
        repeat (first | go_values | go_skip | go_guarded | go_step | go_upon)
        refine ⟨⟨k + 1, hlt, by go_num, ?_, by first | rfl | trivial⟩, by simp [intOf]; omega⟩
        intro j hj
        by_cases hjk : j = k
        · subst hjk
          rw [HP.out]
          intro he
          cases he
          exact h1 rfl
        · exact HB.out j (by omega)
    · have hke : k = l.length := by omega
      subst hke
      go_wp2
      go_ret
      exact ⟨_, rfl, ⟨fun h => by omega, fun h => absurd h (no_mem HB.out)⟩, rfl⟩

theorem icon (l : List Int) (n : Int) (ao : Option Addr) (cap : Nat) (w : World) (hv : NumAt w (.slice ao l.length cap) l) (hn : l.length ≤ 9000000000000000000) :
    Calls Tryd.prog 8 #[.slice ao l.length cap, .int .i64 n] w fun e w' => e = .returned (.bool (dec (n ∈ l))) ∧ w' = w := by
  go_enter Tryd.func8, Tryd.ntmps8
  repeat (first | go_values | go_skip | go_guarded | go_step | go_upon)
  go_at_call 13
  refine (iidx l n _ _ _ hv hn).mono ?_
  rintro e w1 ⟨i, rfl, hi, rfl⟩
  have HI : Hid (0 ≤ i ↔ n ∈ l) := hi
  clear hi
  dsimp only
  repeat (first | go_values | go_skip | go_guarded | go_step | go_upon)
  go_ret
  refine ⟨ret_boolG ?_, rfl⟩
  by_cases h : n ∈ l
  · rw [dec_yes h]; simp; exact HI.out.2 h
  · rw [dec_no h]; simp; exact Int.not_le.1 fun x => h (HI.out.1 x)

theorem belowKept {w w' : World} (h : Below w.heap.size w w') : Kept w w' := ⟨h.os, h.output, h.size, fun b hb _ => h.block b hb⟩
/-- The tables of runes, and a number. -/
def Tabs (w : World) : Prop := Lib.Utf8Tabs 0 1 w ∧ ∃ m, w.cell? ⟨2, 0, none⟩ = some (.int .i64 m)
theorem Tabs.kept {w w' : World} (h : Tabs w) (k : Kept w w') : Tabs w' := by
  obtain ⟨⟨h1, h2⟩, m, hm⟩ := h
  exact ⟨⟨fun c hc => Kept.cell k (h1 c hc), fun i hi => ⟨Kept.cell k (h2 i hi).1, Kept.cell k (h2 i hi).2⟩⟩, m, Kept.cell k hm⟩
theorem ret_i32 {a b : Int} (h : a = b) : Ending.returned (.int .i32 a) = .returned (.int .i32 b) := by rw [h]
set_option maxHeartbeats 4000000 in
theorem iturn (x : Int) (h0 : 0 ≤ x) (h1 : x ≤ 1114111) (w : World) : Calls Tryd.prog 11 #[.int .i32 x] w fun e w' => e = .returned (.int .i32 (turnZ x)) ∧ w' = w := by
  by_cases q1 : 97 ≤ x ∧ x ≤ 122
  · have e : turnZ x = 97 + (x - 97 + 13) % 26 := if_pos q1
    rw [e]
    have d1 : decide (97 ≤ x) = true := decide_eq_true q1.1
    have d2 : decide (x ≤ 122) = true := decide_eq_true q1.2
    obtain ⟨q1, q2⟩ := q1
    clear e
    go_enter Tryd.func11, Tryd.ntmps11
    go_wp2
    go_ret
    exact ⟨ret_i32 (by first | rfl | omega), rfl⟩
  · by_cases q2 : 65 ≤ x ∧ x ≤ 90
    · have e : turnZ x = 65 + (x - 65 + 13) % 26 := by unfold turnZ; rw [if_neg q1, if_pos q2]
      rw [e]
      have d1 : decide (97 ≤ x) = false := by simp; omega
      have d3 : decide (65 ≤ x) = true := decide_eq_true q2.1
      have d4 : decide (x ≤ 90) = true := decide_eq_true q2.2
      obtain ⟨q2, q3⟩ := q2
      clear e q1
      go_enter Tryd.func11, Tryd.ntmps11
      go_wp2
      go_ret
      exact ⟨ret_i32 (by first | rfl | omega), rfl⟩
    · have e : turnZ x = x := by unfold turnZ; rw [if_neg q1, if_neg q2]
      rw [e]
      clear e
      rcases (show x < 65 ∨ (90 < x ∧ x < 97) ∨ 122 < x by omega) with h | ⟨h, h'⟩ | h
      all_goals
        clear q1 q2
        go_enter Tryd.func11, Tryd.ntmps11
        go_wp2
        go_ret
        exact ⟨rfl, rfl⟩
theorem imap (s : ByteArray) (w : World) (hT : Tabs w) (hs : s.size ≤ 1048576) (hv : Lib.validD s.data.toList = true) :
    Calls Tryd.prog 10 #[.func (.func 11) #[] #[], .string s] w fun e w' => e = .returned (.string ⟨(rotL s.data.toList).toArray⟩) ∧ Kept w w' := by
  refine (Tryd.strings_Map_runes 11 #[] (enters_of Tryd.func11 (by kernel_rfl) rfl) turnZ s w (by omega) (fun W x hx _ => ?_) (fun x hx => ?_) hT.1).mono ?_
  · exact (iturn (x : Int) (by omega) (by omega) W).mono fun e w' ⟨h1, h2⟩ => ⟨h1, 0, h2⟩
  · unfold turnZ
    split
    · omega
    · split <;> omega
  · rintro e w' ⟨rfl, h⟩
    rw [map_rot _ _ (Nat.le_refl _) hv]
    exact ⟨rfl, belowKept h⟩

end Go.Proofs.YtgbgnmjgnfocmaaDoor
