/-
  RunesOf of the program.
-/
import Derived.Test.YtgbgnmjgnfocmaaDoorRunQ18
import Derived.Test.YtgbgnmjgnfocmaaDoorIter18
namespace Go.Proofs.YtgbgnmjgnfocmaaDoor
open Go.ChangeShapes Go.WideShapes Go.ChangeAt Go.RowKit

set_option maxRecDepth 100000
set_option linter.unusedVariables false

set_option maxHeartbeats 8000000 in
theorem iruns (s : ByteArray) (w : World) (hs : s.size ≤ 1048576) :
    Calls Tryd.prog 7 #[.string s] w fun e w' => ∃ v, e = .returned (.tuple #[v, .bool (runA s).2]) ∧ NumO w' w.heap.size w'.heap.size v (runA s).1 ∧ Kept w w' := by
  by_cases h4 : 400 < s.size
  · rw [runA_no h4]
    have d4 : decide ((400 : Int) < (s.size : Int)) = true := decide_eq_true (by omega)
    go_enter Tryd.func7, Tryd.ntmps7
    go_wp2
    go_ret2
    exact ⟨_, rfl, nil_num _ _ _, But.refl _ _ _⟩
  rw [runA_yes (by omega)]
  have d4 : decide ((400 : Int) < (s.size : Int)) = false := decide_eq_false (by omega)
  go_enter Tryd.func7, Tryd.ntmps7
  go_wp2
  clear d4
  go_loopw [4] (fun v wr => ∃ (p b : Nat) (L : List Int), wr.heap[w.heap.size]? = some (.stringIter s p) ∧ NumO wr (w.heap.size + 1) wr.heap.size v L ∧ Hid (L ++ runesF s b p = runesF s s.size 0) ∧ s.size ≤ p + b ∧ p ≤ s.size ∧ L.length ≤ p ∧ Kept w wr) (fun v wr => s.size - wr.iterPos w.heap.size)
  case atStart => exact ⟨0, s.size, [], World.iter_heap w s 0, nil_num _ _ _, (show [] ++ runesF s s.size 0 = runesF s s.size 0 from rfl), by omega, by omega, by simp, (But.refl _ _ _).alloc _⟩
  case round =>
    obtain ⟨p, b, L, hit, ho, HR, hpb, hps, hL, hkp⟩ := hrel
    obtain ⟨a5, p5, hf⟩ := ho.form
    subst hf
    have HO : Hid (NumO wr (w.heap.size + 1) wr.heap.size (.slice a5 L.length p5) L) := ho
    have HK : Hid (Kept w wr) := hkp
    have s1 := hkp.size
    have hBl : w.heap.size < wr.heap.size := (Array.getElem?_eq_some_iff.1 hit).1
    have HI : Hid (wr.heap[w.heap.size]? = some (.stringIter s p)) := hit
    have hm : wr.iterPos w.heap.size = p := by simp [World.iterPos, hit]
    rw [hm]
    clear ho hkp hit
    by_cases hlt : p < s.size
    · obtain ⟨b', rfl⟩ : ∃ b', b = b' + 1 := ⟨b - 1, by omega⟩
      have hst := runesF_step s b' p hlt
      have hw1 := wid_pos s p hlt
      have hw2 := wid_le s p hlt
      have hrl := run_le s p
      have hnx : ∀ ty, (Instr.next (.pointer (some ⟨w.heap.size, 0, none⟩)) true ty).run Tryd.prog wr = _ := fun ty => run_next_at wr w.heap.size s p ty HI.out hlt
      generalize (runM s p).1 = r at *
      generalize (runM s p).2 = n at *
      have HN : Hid ((L ++ [(r : Int)]) ++ runesF s b' (p + n) = runesF s s.size 0) := by
        have h := HR.out
        rw [hst] at h
        rw [List.append_assoc]
        exact h
      have hit2 := put_same wr w.heap.size _ (.stringIter s (p + n)) HI.out
      have hkp2 := HK.out.putObj w.heap.size (.stringIter s (p + n)) (by omega)
      have ho2 := HO.out.but (but_put wr w.heap.size (.stringIter s (p + n))) (by omega)
      have hz2 := size_put wr w.heap.size (.stringIter s (p + n))
      generalize hW2 : wr.putObj w.heap.size (.stringIter s (p + n)) = W2 at *
      have HO : Hid (NumO W2 (w.heap.size + 1) wr.heap.size (.slice a5 L.length p5) L) := ho2
      have HK : Hid (Kept w W2) := hkp2
      have HI : Hid (W2.heap[w.heap.size]? = some (.stringIter s (p + n))) := hit2
      have hz3 : wr.heap.size ≤ W2.heap.size := by omega
      clear HR hst hit2 hkp2 ho2 hW2 hz2
      repeat (first | (at_builtin; refine forgetL (fun w' => w' = _) rfl ?_) | go_values | go_skip | go_guarded | go_step | go_upon)
      intro W7 hW7
      rw [hW7]
      clear hW7 W7
      refine app_num rfl _ _ rfl (lo := w.heap.size + 1) (hi := wr.heap.size) rfl (HO.out.kept ((But.refl _ _ W2).alloc _)) rfl (one_num (p := (r : Int)) (Loc.new W2 [.int .i64 (r : Int)] 3)) rfl (by simp; omega) (by simp; omega) ?_
      intro v2 w2 o2 b2
      have HO2 : Hid (NumO w2 (w.heap.size + 1) w2.heap.size v2 (L ++ [(r : Int)])) := o2
      have HK2 : Hid (Kept w w2) := But.onto (HK.out.alloc _) b2 (by omega)
      have hi2 : w2.heap[w.heap.size]? = some (.stringIter s (p + n)) := (b2.block w.heap.size (by simp; omega) (by omega)).trans ((Go.heap_alloc_old W2 _ (by omega)).trans HI.out)
      have HI2 : Hid (w2.heap[w.heap.size]? = some (.stringIter s (p + n))) := hi2
      have hm2 : w2.iterPos w.heap.size = p + n := by simp [World.iterPos, hi2]
      have HM2 : Hid (w2.iterPos w.heap.size = p + n) := hm2
      clear o2 b2 hi2 hm2
      repeat (first | go_values | go_skip | go_guarded | go_step | go_upon)
      exact ⟨⟨p + n, b', L ++ [(r : Int)], HI2.out, HO2.out, HN, by omega, by omega, by simp; omega, HK2.out⟩, by rw [HM2.out]; omega⟩
    · have hnx : ∀ ty, (Instr.next (.pointer (some ⟨w.heap.size, 0, none⟩)) true ty).run Tryd.prog wr = _ := fun ty => run_next_off wr w.heap.size s p ty HI.out hlt
      have hL0 : L = runesF s s.size 0 := by
        have h := HR.out
        rw [runesF_end s b p hlt, List.append_nil] at h
        exact h
      have HE : Hid (L = runesF s s.size 0) := hL0
      clear hL0
      repeat (first | go_values | go_skip | go_guarded | go_step | go_upon)
      go_ret2
      exact ⟨_, rfl, by rw [← HE.out]; exact HO.out.mono (by omega) (Nat.le_refl _), HK.out⟩

end Go.Proofs.YtgbgnmjgnfocmaaDoor
