/-
  Marks: a text of a number, written over a world's memory, and found there again.
-/
import Derived.Test.YtajelalimiobeaaRows
import Derived.Test.YtajelalimiobeaaOwn
import Derived.Laws.BytesArg
namespace Go.Proofs.Ytajelalimiobeaa
open Go.ChangeShapes Go.WideShapes Go.ChangeAt Go.RowKit

def digs : Nat → Nat → ByteArray → ByteArray
  | 0, _, s => s
  | f + 1, j, s => if j = 0 then s else digs f (j / 10) (strOfNums [48 + (j : Int) % 10] ++ s)
def mtext (k : Nat) : ByteArray := if k = 0 then ⟨#[109, 48]⟩ else ⟨#[109]⟩ ++ digs k k ⟨#[]⟩
theorem digs_zero (f : Nat) (s : ByteArray) : digs f 0 s = s := by cases f <;> simp [digs]
theorem one_size (c : Int) : (strOfNums [c]).size = 1 := by simp [strOfNums, ByteArray.size]

set_option maxHeartbeats 1000000 in
set_option maxRecDepth 20000 in
theorem markText (k : Nat) (hkm : k ≤ 1000000000000) (w : World) : Calls Try.prog 113 #[.int .i64 (k : Int)] w fun e w' => e = .returned (.string (mtext k)) ∧ Kept w w' := by
  by_cases hk : k = 0
  · subst hk
    go_enter Try.func113, Try.ntmps113
    go_wp2
    go_ret
    exact ⟨rfl, But.refl _ _ _⟩
  · have h1 : decide ((k : Int) ≤ 0) = false := by simp; omega
    have hcv : ∀ (u : World) (c : Int), (convert 22 9 (.slice (some ⟨u.heap.size, 0, none⟩) 1 1)).run Try.prog (u.alloc (.cells #[.int .u8 c] 5)) = .ok (.string (strOfNums [c])) (u.alloc (.cells #[.int .u8 c] 5)) := fun u c =>
      run_convert_bytes_arg _ 22 5 Try.underlying22 Try.underlying5 u.heap.size 0 1 1 [c] rfl (fun i hi => by
        obtain rfl : i = 0 := by omega
        simp [go_sem]) 9 Try.underlying9
    go_enter Try.func113, Try.ntmps113
    go_wp2
    go_loopw [0, 3] (fun i o wr => ∃ (j f : Nat) (s : ByteArray), i = .int .i64 j ∧ o = .string s ∧ s.size + j ≤ k ∧ j ≤ f ∧ digs f j s = digs k k ⟨#[]⟩ ∧ Kept w wr) (fun i o _ => (intOf i).toNat)
    case atStart => exact ⟨k, k, _, rfl, rfl, by simp [ByteArray.size], Nat.le_refl _, rfl, But.refl _ _ _⟩
    case round =>
      obtain ⟨j, f, s, rfl, rfl, hsj, hjf, hd, hkp⟩ := hrel
      have hs1 : ¬ 9223372036854775807 < 1 + s.size := by omega
      have HD : Hid (digs f j s = digs k k ⟨#[]⟩) := hd
      clear hd
      by_cases hj : j = 0
      · subst hj
        go_wp2
        go_ret
        refine ⟨?_, hkp⟩
        rw [mtext, if_neg hk, ← HD.out, digs_zero]
        rfl
      · have hj0 : (0 : Int) < j := by omega
        have hjm : (j : Int) ≤ 1000000000000 := by omega
        have HB : Hid (s.size + j ≤ k ∧ j ≤ f) := ⟨hsj, hjf⟩
        have hos := one_size (48 + (j : Int) % 10)
        clear hkm hsj hjf
        go_wp2
        obtain ⟨hsj, hjf⟩ := HB.out
        refine ⟨⟨j / 10, f - 1, _, by go_num, rfl, ?_, by omega, ?_, hkp.alloc _⟩, by simp [intOf]; omega⟩
        · rw [ByteArray.size_append, hos]
          omega
        · obtain ⟨f', rfl⟩ : ∃ f', f = f' + 1 := ⟨f - 1, by omega⟩
          rw [← HD.out]
          simp [digs, hj]
end Go.Proofs.Ytajelalimiobeaa
