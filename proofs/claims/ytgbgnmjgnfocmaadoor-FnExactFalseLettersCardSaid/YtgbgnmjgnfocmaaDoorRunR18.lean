/-
  RunesOf of the specification.
-/
import Derived.Test.YtgbgnmjgnfocmaaDoorRunQ18
import Derived.Test.YtgbgnmjgnfocmaaDoorRunS18
import Derived.Test.YtgbgnmjgnfocmaaDoorApp18
namespace Go.Proofs.YtgbgnmjgnfocmaaDoor
open Go.ChangeShapes Go.WideShapes Go.ChangeAt Go.RowKit

set_option maxRecDepth 100000
set_option linter.unusedVariables false

set_option maxHeartbeats 8000000 in
theorem sruns (s : ByteArray) (w : World) (hs : s.size ≤ 1048576) :
    Calls Tryd.prog 6 #[.string s] w fun e w' => ∃ v, e = .returned (.tuple #[v, .bool (runA s).2]) ∧ NumO w' w.heap.size w'.heap.size v (runA s).1 ∧ Kept w w' := by
  by_cases h4 : 400 < s.size
  · rw [runA_no h4]
    have d4 : decide ((400 : Int) < (s.size : Int)) = true := decide_eq_true (by omega)
    go_enter Tryd.func6, Tryd.ntmps6
    go_wp2
    go_ret2
    exact ⟨_, rfl, nil_num _ _ _, But.refl _ _ _⟩
  rw [runA_yes (by omega)]
  have d4 : decide ((400 : Int) < (s.size : Int)) = false := decide_eq_false (by omega)
  go_enter Tryd.func6, Tryd.ntmps6
  go_wp2
  clear d4
  go_loopw [4, 5] (fun v i wr => ∃ (p b : Nat) (L : List Int), i = .int .i64 p ∧ NumO wr w.heap.size wr.heap.size v L ∧ Hid (L ++ runesF s b p = runesF s s.size 0) ∧ s.size ≤ p + b ∧ p ≤ s.size ∧ L.length ≤ p ∧ Kept w wr) (fun v i _ => s.size - (intOf i).toNat)
  case atStart => exact ⟨0, s.size, [], rfl, nil_num _ _ _, (show [] ++ runesF s s.size 0 = runesF s s.size 0 from rfl), by omega, by omega, by simp, But.refl _ _ _⟩
  case round =>
    obtain ⟨p, b, L, rfl, ho, HR, hpb, hps, hL, hkp⟩ := hrel
    obtain ⟨a5, p5, hf⟩ := ho.form
    subst hf
    have HO : Hid (NumO wr w.heap.size wr.heap.size (.slice a5 L.length p5) L) := ho
    have HK : Hid (Kept w wr) := hkp
    have s1 := hkp.size
    clear ho hkp
    by_cases hlt : p < s.size
    · obtain ⟨b', rfl⟩ : ∃ b', b = b' + 1 := ⟨b - 1, by omega⟩
      have hst := runesF_step s b' p hlt
      have hw1 := wid_pos s p hlt
      have hw2 := wid_le s p hlt
      have hrl := run_le s p
      have AR : Hid (∀ W, Calls Tryd.prog 12 #[.string (s.extract p s.size)] W fun e w' => e = .returned (.tuple #[.int .i64 (((runM s p).1 : Nat) : Int), .int .i64 (((runM s p).2 : Nat) : Int)]) ∧ w' = W) := fun W => by
        have := srune (s.extract p s.size) W (by rw [ByteArray.size_extract]; omega) (by rw [ByteArray.size_extract]; omega)
        rw [run_ext s p hps] at this
        exact this
      generalize (runM s p).1 = r at *
      generalize (runM s p).2 = n at *
      have HN : Hid ((L ++ [(r : Int)]) ++ runesF s b' (p + n) = runesF s s.size 0) := by
        have h := HR.out
        rw [hst] at h
        rw [List.append_assoc]
        exact h
      have hpi : (0 : Int) ≤ (p : Int) := by omega
      have hpj : (p : Int) ≤ (s.size : Int) := by omega
      have hlt' : decide ((p : Int) < (s.size : Int)) = true := decide_eq_true (by omega)
      clear HR hst
      repeat (first | (go_at_call 12; refine (AR.out _).mono ?_; rintro e w3 ⟨rfl, hw3⟩; rw [hw3]; clear hw3 w3; dsimp only) | (at_builtin; refine forgetL (fun w' => w' = _) rfl ?_) | go_values | go_skip | go_guarded | go_step | go_upon)
      intro W7 hW7
      rw [hW7]
      clear hW7 W7
      refine app_num rfl _ _ rfl (lo := w.heap.size) (hi := wr.heap.size) rfl (HO.out.kept ((But.refl _ _ wr).alloc _)) rfl (one_num (p := (r : Int)) (Loc.new wr [.int .i64 (r : Int)] 3)) rfl (by simp; omega) (by simp; omega) ?_
      intro v2 w2 o2 b2
      have HO2 : Hid (NumO w2 w.heap.size w2.heap.size v2 (L ++ [(r : Int)])) := o2
      have HK2 : Hid (Kept w w2) := But.onto (HK.out.alloc _) b2 (Nat.le_refl _)
      clear o2 b2
      repeat (first | go_values | go_skip | go_guarded | go_step | go_upon)
      exact ⟨⟨p + n, b', L ++ [(r : Int)], by go_num, HO2.out, HN, by omega, by omega, by simp; omega, HK2.out⟩, by simp [intOf]; omega⟩
    · have hlt' : decide ((p : Int) < (s.size : Int)) = false := decide_eq_false (by omega)
      have hL0 : L = runesF s s.size 0 := by
        have h := HR.out
        rw [runesF_end s b p hlt, List.append_nil] at h
        exact h
      have HE : Hid (L = runesF s s.size 0) := hL0
      clear hL0
      repeat (first | go_values | go_skip | go_guarded | go_step | go_upon)
      go_ret2
      exact ⟨_, rfl, by rw [← HE.out]; exact HO.out, HK.out⟩

end Go.Proofs.YtgbgnmjgnfocmaaDoor
