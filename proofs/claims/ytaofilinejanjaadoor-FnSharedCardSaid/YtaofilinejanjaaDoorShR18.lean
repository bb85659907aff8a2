/-
  What the law asks of room that is shared and of lines.
-/
import Derived.Test.YtaofilinejanjaaDoorShQ18
import Derived.Test.YtaofilinejanjaaDoorCnt18
import Derived.Test.YtaofilinejanjaaDoorRunR18
import Derived.Test.YtaofilinejanjaaDoorRunS18
import Derived.Test.YtaofilinejanjaaDoorRoomP18
import Derived.Test.YtaofilinejanjaaDoorWrapP18
namespace Go.Proofs.YtaofilinejanjaaDoor
open Go.ChangeShapes Go.WideShapes Go.ChangeAt Go.RowKit

set_option maxRecDepth 100000
set_option linter.unusedVariables false

theorem mem_sum : ∀ {l : List Int}, (∀ x ∈ l, 0 ≤ x) → ∀ x ∈ l, x ≤ l.sum
  | [], _, x, hx => by cases hx
  | a :: l, h, x, hx => by
    have ih := @mem_sum l (fun y hy => h y (List.mem_cons_of_mem _ hy))
    have h0 : 0 ≤ l.sum := by
      have : ∀ q : List Int, (∀ x ∈ q, 0 ≤ x) → 0 ≤ q.sum := fun q => by
        induction q with
        | nil => intro _; simp
        | cons b q ihq => intro hq; rw [List.sum_cons]; have := hq b (by simp); have := ihq (fun y hy => hq y (by simp [hy])); omega
      exact this l (fun y hy => h y (by simp [hy]))
    rw [List.sum_cons]
    rcases List.mem_cons.1 hx with rfl | hx
    · omega
    · have := ih x hx; have := h a (by simp); omega
/-- What the law asks of room that is shared. -/
structure ShF (R : Int) (la lb l : List Int) : Prop where
  len : l.length = la.length
  len' : lb.length = la.length
  short : la.length ≤ 40
  room : 0 ≤ R ∧ R ≤ 10000
  bl : ∀ x ∈ l, 0 ≤ x ∧ x ≤ 400000
  ba : ∀ x ∈ la, 0 ≤ x ∧ x ≤ 400000
  bb : ∀ x ∈ lb, 0 ≤ x ∧ x ≤ 400000
  ge : ∀ (k : Nat) (a s : Int), la[k]? = some a → l[k]? = some s → a ≤ s
  s1 : 0 < lb.sum → la.sum < R → l.sum = R
  s2 : lb.sum = 0 ∨ R ≤ la.sum → l.sum = la.sum
theorem shF {R : Int} {la lb : List Int} (h : RoomOk R la lb) : ShF R la lb (shA R la lb) := by
  have hs := shA_sum h
  have hl := shA_len (room := R) h.2.2.1
  have hge : ∀ (k : Nat) (a s : Int), la[k]? = some a → (shA R la lb)[k]? = some s → a ≤ s := fun k a s h1 h2 => shA_ge h h1 h2
  have hsl := sum_bd la.length h.2.2.2.1 rfl
  have hsb := sum_bd lb.length h.2.2.2.2 rfl
  have h40 := h.2.1
  have hr := h.1
  have hn : ∀ x ∈ shA R la lb, 0 ≤ x := fun x hx => by
    obtain ⟨k, hk⟩ := List.mem_iff_getElem?.1 hx
    have hkl : k < la.length := by rw [← hl]; exact (List.getElem?_eq_some_iff.1 hk).1
    have := hge k _ x (List.getElem?_eq_getElem hkl) hk
    have := h.2.2.2.1 _ (List.getElem_mem hkl)
    omega
  have hS : (shA R la lb).sum ≤ 400000 := by
    by_cases hc : 0 < lb.sum ∧ la.sum < R
    · rw [hs.1 hc]; omega
    · rw [hs.2 (by omega)]; omega
  exact ⟨hl, h.2.2.1, h40, hr, fun x hx => ⟨hn x hx, by have := mem_sum hn x hx; omega⟩, fun x hx => by have := h.2.2.2.1 x hx; omega, fun x hx => by have := h.2.2.2.2 x hx; omega, hge, fun h1 h2 => hs.1 ⟨h1, h2⟩, fun h1 => by rw [hs.2 h1]⟩
theorem part {l : List Int} (h : ∀ x ∈ l, 0 ≤ x ∧ x ≤ 400000) (hl : l.length ≤ 40) (k : Nat) : 0 ≤ (l.take k).sum ∧ (l.take k).sum ≤ 16000000 := by
  have := sum_bd (l.take k).length (B := 400000) (fun x hx => h x (List.mem_of_mem_take hx)) rfl
  have h2 : (l.take k).length ≤ 40 := by rw [List.length_take]; omega
  omega
/-- What the law asks of lines. -/
structure LnF (s : ByteArray) (wide : Int) (L : List ByteArray) : Prop where
  cnt : ∀ x ∈ L, ((runA x).1.length : Int) ≤ wide ∧ x.size ≤ 400
  ink : L.flatMap ink = ink s
  len : L.length ≤ 160801
theorem lnF {s : ByteArray} {wide : Int} (h : WrapOk s wide) : LnF s wide (wrapA s wide).1 := by
  refine ⟨fun x hx => ?_, ink_wrap h, wrapA_len s wide⟩
  obtain ⟨h1, h2⟩ := wrap_cnt h x hx
  rw [runA_yes h2]
  exact ⟨h1, h2⟩
theorem hide {p : Prop} (h : p) : Hid p := h
theorem ink_app (t x : ByteArray) : ink (t ++ x) = ink t ++ ink x := by
  unfold ink
  rw [ByteArray.data_append, Array.toList_append, List.filter_append]

end Go.Proofs.YtaofilinejanjaaDoor
