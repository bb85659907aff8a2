/-
  cutField.
-/
import Derived.Test.YtgbgnmjgnfocmaaDoorLet19
namespace Go.Proofs.YtgbgnmjgnfocmaaDoor
open Go.ChangeShapes Go.WideShapes Go.ChangeAt Go.RowKit

set_option maxRecDepth 100000
set_option linter.unusedVariables false

/-- How a text is cut at an open bracket and the next closed one. -/
theorem icutf (s : ByteArray) (w : World) (hT : Tabs w) (hs : s.size ≤ 1048576) :
    Calls Tryd.prog 9 #[.string s] w fun e w' => ∃ a b r q, e = .returned (.tuple #[.string ⟨a.toArray⟩, .string ⟨b.toArray⟩, .string ⟨r.toArray⟩, .bool q]) ∧ Kept w w' ∧
      ((q = false ∧ fl s.data.toList = rotL s.data.toList) ∨ (q = true ∧ s.data.toList = a ++ 123 :: (b ++ 125 :: r) ∧ (123 : UInt8) ∉ a ∧ (125 : UInt8) ∉ b)) := by
  obtain ⟨_, m, hm⟩ := hT
  have C1 : Hid (Calls Tryd.prog 14 #[.string s, .string ⟨#[123]⟩] w fun e w' => e = .returned (.tuple #[.string ⟨(Lib.cut s.data.toList [123]).1.toArray⟩, .string ⟨(Lib.cut s.data.toList [123]).2.1.toArray⟩, .bool (Lib.cut s.data.toList [123]).2.2]) ∧ ∃ n, w' = w.drewN n) := Tryd.strings_Cut s ⟨#[123]⟩ m w (by omega) hm
  have C2 : Hid (∀ (t : List UInt8) (n : Nat), t.length ≤ 1048576 → Calls Tryd.prog 14 #[.string ⟨t.toArray⟩, .string ⟨#[125]⟩] (w.drewN n) fun e w' => e = .returned (.tuple #[.string ⟨(Lib.cut t [125]).1.toArray⟩, .string ⟨(Lib.cut t [125]).2.1.toArray⟩, .bool (Lib.cut t [125]).2.2]) ∧ ∃ k, w' = (w.drewN n).drewN k) := fun t n ht =>
    Tryd.strings_Cut ⟨t.toArray⟩ ⟨#[125]⟩ m (w.drewN n) (by rw [Lib.size_eq]; simp; omega) hm
  have hl : s.data.toList.length = s.size := (Lib.size_eq s).symm
  rcases cut_way 123 s.data.toList with ⟨h1, h2⟩ | ⟨a, t, h0, h1, h2⟩
  · rw [h2] at C1
    have h4 : Lib.cut ([] : List UInt8) [125] = ([], [], false) := by rfl
    have C2' : Hid (∀ n, Calls Tryd.prog 14 #[.string ⟨#[]⟩, .string ⟨#[125]⟩] (w.drewN n) fun e w' => e = .returned (.tuple #[.string ⟨#[]⟩, .string ⟨#[]⟩, .bool false]) ∧ ∃ k, w' = (w.drewN n).drewN k) := fun n => by
      have := C2.out [] n (by simp)
      rw [h4] at this
      exact this
    have HF : Hid (fl s.data.toList = rotL s.data.toList) := fl_miss1 h1
    clear C2 h1 h2 h4 hl
    dsimp only at C1
    go_enter Tryd.func9, Tryd.ntmps9
    repeat (first | go_values | go_skip | go_guarded | go_step | go_upon)
    go_at_call 14; refine C1.out.mono ?_; rintro e w1 ⟨rfl, n1, rfl⟩; dsimp only
    repeat (first | go_values | go_skip | go_guarded | go_step | go_upon)
    go_at_call 14; refine (C2'.out _).mono ?_; rintro e w2 ⟨rfl, n2, rfl⟩; dsimp only
    repeat (first | go_values | go_skip | go_guarded | go_step | go_upon)
    go_returns
    exact ⟨_, [], [], false, rfl, (But.refl _ _ _).drewN _, .inl ⟨rfl, HF.out⟩⟩
  · rw [h2] at C1
    have htl : t.length ≤ 1048576 := by
      have := congrArg List.length h0
      rw [List.length_append, List.length_cons] at this
      omega
    rcases cut_way 125 t with ⟨h3, h4⟩ | ⟨b, r, h3, h5, h4⟩
    · have C2' : Hid (∀ n, Calls Tryd.prog 14 #[.string ⟨t.toArray⟩, .string ⟨#[125]⟩] (w.drewN n) fun e w' => e = .returned (.tuple #[.string ⟨t.toArray⟩, .string ⟨#[]⟩, .bool false]) ∧ ∃ k, w' = (w.drewN n).drewN k) := fun n => by
        have := C2.out t n htl
        rw [h4] at this
        exact this
      have HF : Hid (fl s.data.toList = rotL s.data.toList) := show _ = _ from by rw [h0]; exact fl_miss2 h1 h3
      clear C2 h0 h1 h2 h3 h4 hl
      dsimp only at C1
      go_enter Tryd.func9, Tryd.ntmps9
      repeat (first | go_values | go_skip | go_guarded | go_step | go_upon)
      go_at_call 14; refine C1.out.mono ?_; rintro e w1 ⟨rfl, n1, rfl⟩; dsimp only
      repeat (first | go_values | go_skip | go_guarded | go_step | go_upon)
      go_at_call 14; refine (C2'.out _).mono ?_; rintro e w2 ⟨rfl, n2, rfl⟩; dsimp only
      repeat (first | go_values | go_skip | go_guarded | go_step | go_upon)
      go_returns
      exact ⟨a, t, [], false, rfl, (But.refl _ _ _).drewN _, .inl ⟨rfl, HF.out⟩⟩
    · have C2' : Hid (∀ n, Calls Tryd.prog 14 #[.string ⟨t.toArray⟩, .string ⟨#[125]⟩] (w.drewN n) fun e w' => e = .returned (.tuple #[.string ⟨b.toArray⟩, .string ⟨r.toArray⟩, .bool true]) ∧ ∃ k, w' = (w.drewN n).drewN k) := fun n => by
        have := C2.out t n htl
        rw [h4] at this
        exact this
      have HF : Hid (s.data.toList = a ++ 123 :: (b ++ 125 :: r) ∧ (123 : UInt8) ∉ a ∧ (125 : UInt8) ∉ b) := ⟨by rw [h0, h3], h1, h5⟩
      clear C2 h0 h1 h2 h3 h4 hl h5
      dsimp only at C1
      go_enter Tryd.func9, Tryd.ntmps9
      repeat (first | go_values | go_skip | go_guarded | go_step | go_upon)
      go_at_call 14; refine C1.out.mono ?_; rintro e w1 ⟨rfl, n1, rfl⟩; dsimp only
      repeat (first | go_values | go_skip | go_guarded | go_step | go_upon)
      go_at_call 14; refine (C2'.out _).mono ?_; rintro e w2 ⟨rfl, n2, rfl⟩; dsimp only
      repeat (first | go_values | go_skip | go_guarded | go_step | go_upon)
      go_returns
      exact ⟨a, b, r, true, rfl, (But.refl _ _ _).drewN _, .inr ⟨rfl, HF.out⟩⟩

end Go.Proofs.YtgbgnmjgnfocmaaDoor
