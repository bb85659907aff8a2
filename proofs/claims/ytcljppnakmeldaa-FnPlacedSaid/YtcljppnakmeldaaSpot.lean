/-
  Spots: what is good, how they are joined and taken back, in the specification and in the program.
-/
import Derived.Test.YtcljppnakmeldaaRows
import Derived.Test.YtcljppnakmeldaaNode
import Derived.Deep.QuietTactic
import Derived.BigQuiet
import Derived.Laws.StructEq
import Derived.Test.YtcljppnakmeldaaName
import Derived.Test.YtcljppnakmeldaaQuiet
namespace Go.Proofs.Ytcljppnakmeldaa
open Go.ChangeShapes Go.WideShapes Go.ChangeAt Go.RowKit

theorem and3 (t : Int) : bits BinOp.and IntKind.i64 t 3 = t % 4 := by
  have h1 : (BitVec.ofInt 64 t &&& BitVec.ofInt 64 3).toNat = (t % 4).toNat := by
    rw [BitVec.toNat_and, BitVec.toNat_ofInt, BitVec.toNat_ofInt]
    have : ((3 : Int) % (2 ^ 64 : Nat)).toNat = 2 ^ 2 - 1 := by decide
    rw [this, Nat.and_two_pow_sub_one_eq_mod]
    omega
  show IntKind.i64.wrap (((BitVec.ofInt 64 t &&& BitVec.ofInt 64 3).toNat : Nat) : Int) = t % 4
  rw [h1, Int.toNat_of_nonneg (by omega)]
  exact IntWalk.i64_in _ (by omega)

/-- A spot is good. -/
def goodS (s : SpotD) : Bool := decide (-1000000 ≤ s.1) && decide (s.1 ≤ 1000000) && decide (-1000000 ≤ s.2.1) && decide (s.2.1 ≤ 1000000) && decide (0 ≤ s.2.2.1) && decide (s.2.2.1 ≤ 3)
def GoodS (s : SpotD) : Prop := -1000000 ≤ s.1 ∧ s.1 ≤ 1000000 ∧ -1000000 ≤ s.2.1 ∧ s.2.1 ≤ 1000000 ∧ 0 ≤ s.2.2.1 ∧ s.2.2.1 ≤ 3
theorem goodS_iff (s : SpotD) : goodS s = true ↔ GoodS s := by simp [goodS, GoodS]; omega
instance (s : SpotD) : Decidable (GoodS s) := decidable_of_iff _ (goodS_iff s)
theorem goodS_no {s : SpotD} (h : ¬ GoodS s) : goodS s = false := by
  rw [← goodS_iff] at h
  simpa using h

/-- So many quarters. -/
def rotN : Nat → Int × Int → Int × Int
  | 0, p => p
  | n + 1, p => (-(rotN n p).2, (rotN n p).1)
theorem rotN_le (p : Int × Int) (B : Int) (h1 : -B ≤ p.1) (h2 : p.1 ≤ B) (h3 : -B ≤ p.2) (h4 : p.2 ≤ B) : ∀ n, -B ≤ (rotN n p).1 ∧ (rotN n p).1 ≤ B ∧ -B ≤ (rotN n p).2 ∧ (rotN n p).2 ≤ B
  | 0 => ⟨h1, h2, h3, h4⟩
  | n + 1 => by
    obtain ⟨a, b, c, d⟩ := rotN_le p B h1 h2 h3 h4 n
    refine ⟨?_, ?_, a, b⟩ <;> simp only [rotN] <;> omega
def flipX (f : Bool) (x : Int) : Int := if f then -x else x
def carryM (s : SpotD) (x y : Int) : Int × Int := rotN s.2.2.1.toNat (flipX s.2.2.2 x, y)
def joinM (a b : SpotD) : SpotD := ((carryM a b.1 b.2.1).1 + a.1, (carryM a b.1 b.2.1).2 + a.2.1, (if a.2.2.2 then a.2.2.1 - b.2.2.1 else a.2.2.1 + b.2.2.1) % 4, a.2.2.2 != b.2.2.2)
def backT (a : SpotD) : Int := if a.2.2.2 then a.2.2.1 else (-a.2.2.1) % 4
def backM (a : SpotD) : SpotD := (-(carryM (0, 0, backT a, a.2.2.2) a.1 a.2.1).1, -(carryM (0, 0, backT a, a.2.2.2) a.1 a.2.1).2, backT a, a.2.2.2)
theorem carryM_le (s : SpotD) (x y B : Int) (h1 : -B ≤ x) (h2 : x ≤ B) (h3 : -B ≤ y) (h4 : y ≤ B) : -B ≤ (carryM s x y).1 ∧ (carryM s x y).1 ≤ B ∧ -B ≤ (carryM s x y).2 ∧ (carryM s x y).2 ≤ B := by
  refine rotN_le _ B ?_ ?_ h3 h4 _ <;> unfold flipX <;> simp only <;> split <;> omega
abbrev sv (s : SpotD) : Value := .agg #[.int .i64 s.1, .int .i64 s.2.1, .int .i64 s.2.2.1, .bool s.2.2.2]

theorem inOneRound (t : Int) (w : World) : Calls Try.prog 39 #[.int .i64 t] w fun e w' => e = .returned (.int .i64 (t % 4)) ∧ w' = w := by
  go_enter Try.func39, Try.ntmps39
  go_wp2
  go_ret
  rw [← and3 t]
  exact ⟨rfl, rfl⟩
theorem cutPlace (x : Int) (w : World) : Calls Try.prog 66 #[.int .i64 x] w fun e w' => e = .returned (.int .i64 (max (-1000000) (min x 1000000))) ∧ w' = w := by
  go_enter Try.func66, Try.ntmps66
  go_wp2
  all_goals
    go_ret
    refine ⟨?_, rfl⟩
    simp
    omega

theorem carry (s : SpotD) (x y : Int) (w : World) (ht0 : 0 ≤ s.2.2.1) (ht3 : s.2.2.1 ≤ 3) (hs : GoodS (s.1, s.2.1, 0, true)) (h1 : -1000000000 ≤ x) (h2 : x ≤ 1000000000) (h3 : -1000000000 ≤ y) (h4 : y ≤ 1000000000) :
    Calls Try.prog 40 #[sv s, .int .i64 x, .int .i64 y] w fun e w' => e = .returned (.tuple #[.int .i64 ((carryM s x y).1 + s.1), .int .i64 ((carryM s x y).2 + s.2.1)]) ∧ (∃ n, w' = (w.alloc (.cells (spotC s).toArray 24)).drewN n) := by
  obtain ⟨sx, sy, t, f⟩ := s
  obtain ⟨n, rfl⟩ : ∃ n : Nat, t = n := ⟨t.toNat, by simp at ht0; omega⟩
  obtain ⟨g1, g2, g3, g4, -, -⟩ := hs
  simp only at g1 g2 g3 g4 ht0 ht3
  cases f
  · go_enter Try.func40, Try.ntmps40
    go_wp2
    go_loopw [1, 2, 14] (fun a b i wr => ∃ k : Nat, k ≤ n ∧ i = .int .i64 k ∧ a = .int .i64 (rotN k (x, y)).1 ∧ b = .int .i64 (rotN k (x, y)).2 ∧ wr = w.alloc (.cells #[.int .i64 sx, .int .i64 sy, .int .i64 n, .bool false] 24)) (fun _ _ i _ => n - (intOf i).toNat)
    case atStart => exact ⟨0, by omega, rfl, rfl, rfl, rfl⟩
    case round =>
      obtain ⟨k, hk, rfl, rfl, rfl, rfl⟩ := hrel
      obtain ⟨b1, b2, b3, b4⟩ := rotN_le (x, y) 1000000000 (by simp; try omega) (by simp; try omega) h3 h4 k
      by_cases hlt : k < n
      · go_wp2
        exact ⟨⟨k + 1, hlt, by go_num, by first | rfl | trivial, by first | rfl | trivial, by first | rfl | trivial⟩, by simp [intOf]; omega⟩
      · have hke : k = n := by omega
        subst hke
        go_wp2
        go_quiet (fail)
        go_wp2
        refine bodyPost_ret (v := .tuple #[.int .i64 ((rotN k (x, y)).1 + sx), .int .i64 ((rotN k (x, y)).2 + sy)]) (by simp [results, Try.results40, go_sem]) rfl ?_
        exact ⟨rfl, ⟨_, rfl⟩⟩
  · go_enter Try.func40, Try.ntmps40
    go_wp2
    go_loopw [1, 2, 14] (fun a b i wr => ∃ k : Nat, k ≤ n ∧ i = .int .i64 k ∧ a = .int .i64 (rotN k (-x, y)).1 ∧ b = .int .i64 (rotN k (-x, y)).2 ∧ wr = w.alloc (.cells #[.int .i64 sx, .int .i64 sy, .int .i64 n, .bool true] 24)) (fun _ _ i _ => n - (intOf i).toNat)
    case atStart => exact ⟨0, by omega, rfl, rfl, rfl, rfl⟩
    case round =>
      obtain ⟨k, hk, rfl, rfl, rfl, rfl⟩ := hrel
      obtain ⟨b1, b2, b3, b4⟩ := rotN_le (-x, y) 1000000000 (by simp; try omega) (by simp; try omega) h3 h4 k
      by_cases hlt : k < n
      · go_wp2
        exact ⟨⟨k + 1, hlt, by go_num, by first | rfl | trivial, by first | rfl | trivial, by first | rfl | trivial⟩, by simp [intOf]; omega⟩
      · have hke : k = n := by omega
        subst hke
        go_wp2
        go_quiet (fail)
        go_wp2
        refine bodyPost_ret (v := .tuple #[.int .i64 ((rotN k (-x, y)).1 + sx), .int .i64 ((rotN k (-x, y)).2 + sy)]) (by simp [results, Try.results40, go_sem]) rfl ?_
        exact ⟨rfl, ⟨_, rfl⟩⟩

theorem l4Apply (s : SpotD) (x y : Int) (w : World) (ht0 : 0 ≤ s.2.2.1) (ht3 : s.2.2.1 ≤ 3) (hs : GoodS (s.1, s.2.1, 0, true)) (h1 : -1000000000 ≤ x) (h2 : x ≤ 1000000000) (h3 : -1000000000 ≤ y) (h4 : y ≤ 1000000000) :
    Calls Try.prog 67 #[sv s, .int .i64 x, .int .i64 y] w fun e w' => e = .returned (.tuple #[.int .i64 ((carryM s x y).1), .int .i64 ((carryM s x y).2)]) ∧ w' = w.alloc (.cells (spotC s).toArray 24) := by
  obtain ⟨sx, sy, t, f⟩ := s
  obtain ⟨n, rfl⟩ : ∃ n : Nat, t = n := ⟨t.toNat, by simp at ht0; omega⟩
  obtain ⟨g1, g2, g3, g4, -, -⟩ := hs
  simp only at g1 g2 g3 g4 ht0 ht3
  cases f
  · go_enter Try.func67, Try.ntmps67
    go_wp2
    go_loopw [1, 2, 8, 9] (fun a b i _t wr => ∃ k : Nat, k ≤ n ∧ i = .int .i64 k ∧ a = .int .i64 (rotN k (x, y)).1 ∧ b = .int .i64 (rotN k (x, y)).2 ∧ wr = w.alloc (.cells #[.int .i64 sx, .int .i64 sy, .int .i64 n, .bool false] 24)) (fun _ _ i _t _ => n - (intOf i).toNat)
    case atStart => exact ⟨0, by omega, rfl, rfl, rfl, rfl⟩
    case round =>
      obtain ⟨k, hk, rfl, rfl, rfl, rfl⟩ := hrel
      obtain ⟨b1, b2, b3, b4⟩ := rotN_le (x, y) 1000000000 (by simp; try omega) (by simp; try omega) h3 h4 k
      by_cases hlt : k < n
      · go_wp2
        exact ⟨⟨k + 1, hlt, by go_num, by first | rfl | trivial, by first | rfl | trivial, by first | rfl | trivial⟩, by simp [intOf]; omega⟩
      · have hke : k = n := by omega
        subst hke
        go_wp2
        refine bodyPost_ret (v := .tuple #[.int .i64 ((rotN k (x, y)).1), .int .i64 ((rotN k (x, y)).2)]) (by simp [results, Try.results67, go_sem]) rfl ?_
        exact ⟨rfl, rfl⟩
  · go_enter Try.func67, Try.ntmps67
    go_wp2
    go_loopw [1, 2, 8, 9] (fun a b i _t wr => ∃ k : Nat, k ≤ n ∧ i = .int .i64 k ∧ a = .int .i64 (rotN k (-x, y)).1 ∧ b = .int .i64 (rotN k (-x, y)).2 ∧ wr = w.alloc (.cells #[.int .i64 sx, .int .i64 sy, .int .i64 n, .bool true] 24)) (fun _ _ i _t _ => n - (intOf i).toNat)
    case atStart => exact ⟨0, by omega, rfl, rfl, rfl, rfl⟩
    case round =>
      obtain ⟨k, hk, rfl, rfl, rfl, rfl⟩ := hrel
      obtain ⟨b1, b2, b3, b4⟩ := rotN_le (-x, y) 1000000000 (by simp; try omega) (by simp; try omega) h3 h4 k
      by_cases hlt : k < n
      · go_wp2
        exact ⟨⟨k + 1, hlt, by go_num, by first | rfl | trivial, by first | rfl | trivial, by first | rfl | trivial⟩, by simp [intOf]; omega⟩
      · have hke : k = n := by omega
        subst hke
        go_wp2
        refine bodyPost_ret (v := .tuple #[.int .i64 ((rotN k (-x, y)).1), .int .i64 ((rotN k (-x, y)).2)]) (by simp [results, Try.results67, go_sem]) rfl ?_
        exact ⟨rfl, rfl⟩

def inB (n lo hi : Int) : Bool := decide (lo ≤ n) && decide (n ≤ hi)
theorem inB_true {n lo hi : Int} : inB n lo hi = true ↔ lo ≤ n ∧ n ≤ hi := by simp [inB]
theorem inB_false {n lo hi : Int} : inB n lo hi = false ↔ ¬ (lo ≤ n ∧ n ≤ hi) := by rw [← inB_true]; simp
theorem l1In (n lo hi : Int) (w : World) : Calls Try.prog 48 #[.int .i64 n, .int .i64 lo, .int .i64 hi] w fun e w' => e = .returned (.bool (inB n lo hi)) ∧ w' = w := by
  go_enter Try.func48, Try.ntmps48
  go_wp2
  all_goals
    go_ret
    exact ⟨ret_bool (by rw [Bool.eq_iff_iff]; simp [inB] <;> omega), rfl⟩
theorem st24 : Try.prog.stoodInHeld 24 = false := by kernel_rfl
theorem eg24 : Try.prog.eqGuardType Try.prog.depth 24 = false := by kernel_rfl
def spotEq (a b : SpotD) : Bool := a.1 == b.1 && a.2.1 == b.2.1 && a.2.2.1 == b.2.2.1 && a.2.2.2 == b.2.2.2
theorem guard24 (op : BinOp) (x y : Operand) (xs ys : Array Value) (w : World) : (eqGuard op 24 x y (.agg xs) (.agg ys)).run Try.prog w = .ok () w := run_eqGuard_agg w op 24 x y xs ys eg24
theorem eq24 (a b c a' b' c' : Int) (d d' : Bool) (w : World) : (binOp .eql 24 (.agg #[.int .i64 a, .int .i64 b, .int .i64 c, .bool d]) (.agg #[.int .i64 a', .int .i64 b', .int .i64 c', .bool d'])).run Try.prog w = .ok (.bool (spotEq (a, b, c, d) (a', b', c', d'))) w := by
  rw [run_eql_struct, run_equalIn_struct w 9999 24 _ _ (by kernel_rfl) st24]
  simp [go_sem]
  repeat' split
  all_goals simp_all [spotEq]
theorem implGoodSpot (s : SpotD) (w : World) : Calls Try.prog 38 #[sv s] w fun e w' => e = .returned (.bool (goodS s)) ∧ ∃ n, w' = (w.alloc (.cells (spotC s).toArray 24)).drewN n := by
  go_enter Try.func38, Try.ntmps38
  go_wp2_with fail
  refine wp_region_quiet_lit (by kernel_rfl) (by kernel_rfl) ?_
  repeat (go_big_quiet_step (first | (go_at_call 66; exact Calls.quiet_of_same (cutPlace _ _)) | (go_at_call 39; exact Calls.quiet_of_same (inOneRound _ _))))
  go_big_quiet_want
  refine quiet_val (.bool (spotEq s (max (-1000000) (min s.1 1000000), max (-1000000) (min s.2.1 1000000), s.2.2.1 % 4, s.2.2.2))) (fun w' _ => ?_) ?_
  · simp [execOp, Act.eval, guard24, eq24]
  go_simp
  go_big_quiet_on
  repeat (go_big_quiet_step (fail))
  refine wpQuiet_nil ?_
  rintro _ ⟨nq, rfl⟩
  go_wp2
  go_ret
  refine ⟨ret_bool ?_, _, rfl⟩
  rw [Bool.eq_iff_iff]
  simp [spotEq, goodS]
  omega
theorem l4Good (s : SpotD) (w : World) : Calls Try.prog 41 #[sv s] w fun e w' => e = .returned (.bool (goodS s)) ∧ w' = w.alloc (.cells (spotC s).toArray 24) := by
  go_enter Try.func41, Try.ntmps41
  go_wp2_with (go_at_call 48; refine (l1In _ _ _ _).mono ?_; rintro e w' ⟨rfl, rfl⟩)
  all_goals
    go_ret
    refine ⟨ret_bool ?_, rfl⟩
    rw [Bool.eq_iff_iff]
    simp_all [goodS, inB]
    try omega
end Go.Proofs.Ytcljppnakmeldaa
