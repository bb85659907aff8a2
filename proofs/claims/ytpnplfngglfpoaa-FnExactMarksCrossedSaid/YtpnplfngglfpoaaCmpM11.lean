/-
  How marks are compared.
-/
import Derived.Test.YtpnplfngglfpoaaGoodP11
import Derived.Test.YtpnplfngglfpoaaLeaf11
import Derived.Test.YtpnplfngglfpoaaSplit11
import Derived.WalkLawsBesides
import Derived.Lib.Bytealg
namespace Go.Proofs.Ytpnplfngglfpoaa
open Go.ChangeShapes Go.WideShapes Go.ChangeAt Go.RowKit

set_option maxRecDepth 100000
set_option linter.unusedVariables false

theorem wp_region_ksp {P : Program} {id : Nat} {Q : Exit → Act → World → Prop} {a : Act} {w : World} {l : List Oper} (m d : Nat) (hm : P.follows .mixedOrders = true) (hB : Region.lexB .any l.toArray = true) (hR : splitB l.toArray m d = true) (hml : m ≤ l.length)
    (h : wpQuiet P l.toArray (fun w' => ∃ x : KW w, w' = x.w) (fun a' => ∀ w', (∃ x : KW w, w' = x.w) → wpList P l.toArray Q (l.drop m) a' w') (l.take m) a) : (Code.region id l.toArray true).wp P Q a w :=
  wp_region_split m d hm hB hR hml ⟨⟨w.drew, (But.refl _ _ w).drew⟩, rfl⟩ h
def cmpB (a b : ByteArray) : Int := Lib.compareBytes a.data.toList b.data.toList
theorem compareS (a b : ByteArray) (w : World) : Calls Try.prog 114 #[.string a, .string b] w fun e w' => e = .returned (.int .i64 (cmpB a b)) ∧ w' = w := by
  go_enter Try.func114, Try.ntmps114
  go_wp2
  rw [run_callFunc_extern Try.func116 (by kernel_rfl) (by kernel_rfl) (by kernel_rfl) (e := Extern.BytealgCompare.compare) (by kernel_rfl), Lib.run_compareString]
  simp only [Result.andThen]
  rw [Oper.upon_value]
  go_wp2
  go_ret
  exact ⟨rfl, rfl⟩
theorem stringsCompare (a b : ByteArray) (w : World) : Calls Try.prog 108 #[.string a, .string b] w fun e w' => e = .returned (.int .i64 (cmpB a b)) ∧ w' = w := by
  go_enter Try.func108, Try.ntmps108
  go_wp2_with (go_at_call 114; refine (compareS _ _ _).mono ?_; rintro e w' ⟨rfl, rfl⟩)
  go_ret
  exact ⟨rfl, rfl⟩
theorem cb_lt : ∀ x y : List UInt8, Lib.compareBytes x y < 0 ↔ Op.bytesLess x y = true
  | [], [] => by simp [Lib.compareBytes, Op.bytesLess]
  | [], _ :: _ => by simp [Lib.compareBytes, Op.bytesLess]
  | _ :: _, [] => by simp [Lib.compareBytes, Op.bytesLess]
  | a :: x, b :: y => by
    have ih := cb_lt x y
    simp only [Lib.compareBytes, Op.bytesLess, Bool.or_eq_true, decide_eq_true_eq, Bool.and_eq_true, beq_iff_eq]
    by_cases h1 : a < b
    · simp [h1]
    · by_cases h2 : b < a
      · rw [if_neg h1, if_pos h2]
        constructor
        · intro h; omega
        · rintro (h | ⟨rfl, _⟩)
          · exact absurd h h1
          · exact absurd h2 h1
      · rw [if_neg h1, if_neg h2, ih]
        rw [UInt8.lt_iff_toNat_lt] at h1 h2
        have e : a = b := UInt8.toNat_inj.1 (by omega)
        simp [e]
theorem cmpB_lt (a b : ByteArray) : cmpB a b < 0 ↔ less a b = true := by
  unfold cmpB less
  rw [ByteArray.toList_eq, ByteArray.toList_eq]
  exact cb_lt _ _
/-- The first of two that is not 0. -/
def orI (a b : Int) : Int := if a = 0 then b else a
theorem orM_lt (a b : Int) (s t : ByteArray) : orI (cmpI a b) (cmpB s t) < 0 ↔ (a < b ∨ a = b ∧ less s t = true) := by
  rw [← cmpB_lt]
  unfold orI cmpI
  repeat' split
  all_goals first | omega | (constructor <;> intro h <;> omega)
set_option maxHeartbeats 2000000 in
theorem cmpOr (a b : Int) (B o cap : Nat) (w : World) (h0 : w.cell? ⟨B, o, none⟩ = some (.int .i64 a)) (h1 : w.cell? ⟨B, o + 1, none⟩ = some (.int .i64 b)) : Calls Try.prog 107 #[.slice (some ⟨B, o, none⟩) 2 cap] w fun e w' => e = .returned (.int .i64 (orI a b)) ∧ w' = w := by
  by_cases ha : a = 0
  · subst ha
    by_cases hb : b = 0
    · subst hb
      go_enter Try.func107, Try.ntmps107
      repeat (first | go_values | go_skip | go_guarded | go_step | go_upon)
      go_rounds 3
      go_ret
      exact ⟨ret_intG (by simp [orI]), rfl⟩
    · have e1 : (b == 0) = false := by simpa using hb
      go_enter Try.func107, Try.ntmps107
      repeat (first | go_values | go_skip | go_guarded | go_step | go_upon)
      go_rounds 3
      go_ret
      exact ⟨ret_intG (by simp [orI]), rfl⟩
  · have e1 : (a == 0) = false := by simpa using ha
    go_enter Try.func107, Try.ntmps107
    repeat (first | go_values | go_skip | go_guarded | go_step | go_upon)
    go_rounds 3
    go_ret
    exact ⟨ret_intG (by simp [orI, ha]), rfl⟩
theorem cmpOrN (a b : Int) (W : World) : Calls Try.prog 107 #[.slice (some ⟨W.heap.size, 0, none⟩) 2 2] (W.alloc (.cells #[.int .i64 a, .int .i64 b] 3)) fun e w' => e = .returned (.int .i64 (orI a b)) ∧ w' = W.alloc (.cells #[.int .i64 a, .int .i64 b] 3) := cmpOr a b _ _ _ _ (by simp [go_sem]) (by simp [go_sem])
set_option maxHeartbeats 2000000 in
theorem compareMarks (a c : Int) (b d : ByteArray) (w : World) : Calls Try.prog 94 #[.agg #[.int .i64 a, .string b], .agg #[.int .i64 c, .string d]] w fun e w' => e = .returned (.int .i64 (orI (cmpI a c) (cmpB b d))) ∧ Kept w w' := by
  go_enter Try.func94, Try.ntmps94
  repeat (first | go_values | go_skip | go_guarded | go_step | go_upon)
  refine wp_region_ksp 10 3 (by kernel_rfl) (by kernel_rfl) (by kernel_rfl) (by decide) ?_
  have hcc := @KW.cell_eq
  simp only [List.take_succ_cons, List.take_zero, List.drop_succ_cons, List.drop_zero]
  repeat (go_big_quiet_step (first | (go_at_call 103; exact kw_same (compareI _ _ _)) | (go_at_call 108; exact kw_same (stringsCompare _ _ _))))
  refine wpQuiet_nil ?_
  rintro w5 ⟨⟨w6, k5⟩, h5⟩
  change w5 = w6 at h5
  subst h5
  clear hcc
  have hk : Kept w w5 := But.trans (by (repeat (first | with_reducible exact But.refl _ _ _ | with_reducible apply But.drewN | with_reducible apply But.drew | with_reducible apply But.alloc | (with_reducible refine But.setNew ?_ (by simp +arith) _)))) k5
  clear k5
  repeat (first | (go_at_call 107; refine (cmpOrN _ _ _).mono ?_; rintro e w' ⟨rfl, rfl⟩; dsimp only) | go_values | go_skip | go_guarded | go_step | go_upon)
  go_ret
  exact ⟨rfl, by (repeat (first | with_reducible exact hk | with_reducible apply But.drewN | with_reducible apply But.drew | with_reducible apply But.alloc))⟩

end Go.Proofs.Ytpnplfngglfpoaa
