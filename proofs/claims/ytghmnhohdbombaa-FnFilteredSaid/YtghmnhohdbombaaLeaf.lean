/-
  What the small functions on floats answer, in the program, in its specification and in the library's package math.
-/
import Derived.Test.YtghmnhohdbombaaFloat
import Derived.Test.YtghmnhohdbombaaChecked
import Derived.WalkKit
import Derived.ProofKit
import Derived.OpenShut
import Derived.Handy
import Derived.Laws.Externs
import Derived.Laws.BitsAllLaws
namespace Go.Proofs.Ytghmnhohdbombaa
open Go.ChangeShapes Go.WideShapes Go.ChangeAt Go.RowKit Ieee

@[go_sem] theorem call54 (x : Nat) (w : World) : (callFunc 77 #[.float .f64 x]).run Try.prog w = .ok (.value (.int .u64 (x : Int))) w := by
  rw [run_callFunc_extern (P := Try.prog) (f := 77) (fn := Try.f77) (e := Extern.MathFloatBits.float64bits) Try.func77 (by kernel_rfl) (by kernel_rfl) (by kernel_rfl) (by kernel_rfl)]
  rfl
@[go_sem] theorem call64 (n : Int) (w : World) : (callFunc 81 #[.int .u64 n]).run Try.prog w = .ok (.value (.float .f64 n.toNat)) w := by
  rw [run_callFunc_extern (P := Try.prog) (f := 81) (fn := Try.f81) (e := Extern.MathFloatBits.float64frombits) Try.func81 (by kernel_rfl) (by kernel_rfl) (by kernel_rfl) (by kernel_rfl)]
  rfl
@[go_sem] theorem call49 (x : Nat) (w : World) : (callFunc 80 #[.float .f32 x]).run Try.prog w = .ok (.value (.int .u32 (x : Int))) w := by
  rw [run_callFunc_extern (P := Try.prog) (f := 80) (fn := Try.f80) (e := Extern.MathFloatBits.float32bits) Try.func80 (by kernel_rfl) (by kernel_rfl) (by kernel_rfl) (by kernel_rfl)]
  rfl

@[go_sem] theorem order_ne (x : Nat) : (FloatKind.f64.format.order x x != some Ordering.eq) = nanB x := order_self x
@[go_sem] theorem order_nought (x : Nat) : (FloatKind.f64.format.order x 0 == some Ordering.eq) = zeroB x := order_zero x

theorem isNaN (x : Nat) (w : World) : Calls Try.prog 74 #[.float .f64 x] w fun e w' => e = .returned (.bool (nanB x)) ∧ w' = w := by
  go_enter Try.func74, Try.ntmps74
  go_wp2
  go_ret
  exact ⟨rfl, rfl⟩
theorem andNot_top (x : Nat) (h : x < 18446744073709551616) : (bits .andNot .u64 (x : Int) 9223372036854775808).toNat = x % 9223372036854775808 := by
  have := u64_andNot_nat x 9223372036854775808 h (by omega)
  have e : ((9223372036854775808 : Nat) : Int) = 9223372036854775808 := rfl
  rw [e] at this
  rw [this, Int.toNat_natCast]
  exact Nat.and_two_pow_sub_one_eq_mod x 63
theorem absF (x : Nat) (h : x < 18446744073709551616) (w : World) : Calls Try.prog 88 #[.float .f64 x] w fun e w' => e = .returned (.float .f64 (x % 9223372036854775808)) ∧ w' = w := by
  go_enter Try.func88, Try.ntmps88
  go_wp2
  go_ret
  exact ⟨by simp [andNot_top x h], rfl⟩
theorem isInf (x : Nat) (h : x < 18446744073709551616) (hn : nanB x = false) (w : World) : Calls Try.prog 75 #[.float .f64 x, .int .i64 0] w fun e w' => e = .returned (.bool (!fin x)) ∧ w' = w := by
  have key : (FloatKind.f64.format.order (x % 9223372036854775808) 9218868437227405311 == some .gt) = !fin x := by
    have h1 := order_max (x % 9223372036854775808) (Nat.mod_lt _ (by omega)) (by simpa [nanB] using hn)
    have h2 : fin (x % 9223372036854775808) = fin x := by simp [fin]
    rw [h2] at h1
    exact h1
  go_enter Try.func75, Try.ntmps75
  go_wp2_with (first | (go_at_call 88; refine (absF x h _).mono ?_; rintro e w' ⟨rfl, rfl⟩))
  go_ret
  exact ⟨rfl, rfl⟩
theorem signbit (x : Nat) (h : x < 18446744073709551616) (w : World) : Calls Try.prog 76 #[.float .f64 x] w fun e w' => e = .returned (.bool (decide (9223372036854775808 ≤ x))) ∧ w' = w := by
  have key : decide (wrap64 (x : Int) < 0) = decide (9223372036854775808 ≤ x) := by
    rw [decide_eq_decide]; simp only [wrap64]; omega
  go_enter Try.func76, Try.ntmps76
  go_wp2
  go_ret
  exact ⟨by simp, rfl⟩
theorem isFinite (x : Nat) (h : x < 18446744073709551616) (w : World) : Calls Try.prog 60 #[.float .f64 x] w fun e w' => e = .returned (.bool (fin x)) ∧ w' = w := by
  cases hn : nanB x with
  | true =>
    have hf : fin x = false := by simp [nanB, fin] at *; omega
    go_enter Try.func60, Try.ntmps60
    go_wp2_with (first | (go_at_call 74; refine (isNaN x _).mono ?_; rw [hn]; rintro e w' ⟨rfl, rfl⟩))
    go_ret
    exact ⟨by simp [hf], rfl⟩
  | false =>
    go_enter Try.func60, Try.ntmps60
    go_wp2_with (first | (go_at_call 74; refine (isNaN x _).mono ?_; rw [hn]; rintro e w' ⟨rfl, rfl⟩) | (go_at_call 75; refine (isInf x h hn _).mono ?_; rintro e w' ⟨rfl, rfl⟩))
    go_ret
    exact ⟨rfl, rfl⟩
theorem l2Finite (x : Nat) (h : x < 18446744073709551616) (w : World) : Calls Try.prog 50 #[.float .f64 x] w fun e w' => e = .returned (.bool (fin x)) ∧ w' = w := by
  cases hn : nanB x with
  | true =>
    have hf : fin x = false := by simp [nanB, fin] at *; omega
    go_enter Try.func50, Try.ntmps50
    go_wp2_with (first | (go_at_call 74; refine (isNaN x _).mono ?_; rw [hn]; rintro e w' ⟨rfl, rfl⟩))
    go_ret
    exact ⟨by simp [hf], rfl⟩
  | false =>
    go_enter Try.func50, Try.ntmps50
    go_wp2_with (first | (go_at_call 74; refine (isNaN x _).mono ?_; rw [hn]; rintro e w' ⟨rfl, rfl⟩) | (go_at_call 75; refine (isInf x h hn _).mono ?_; rintro e w' ⟨rfl, rfl⟩))
    go_ret
    exact ⟨rfl, rfl⟩
theorem l2Plain (x : Nat) (w : World) : Calls Try.prog 51 #[.float .f64 x] w fun e w' => e = .returned (.float .f64 (plain x)) ∧ w' = w := by
  cases hz : zeroB x with
  | true =>
    go_enter Try.func51, Try.ntmps51
    go_wp2
    go_ret
    exact ⟨by simp [plain, hz], rfl⟩
  | false =>
    go_enter Try.func51, Try.ntmps51
    go_wp2
    go_ret
    exact ⟨by simp [plain, hz], rfl⟩
theorem plainNought (x : Nat) (w : World) : Calls Try.prog 73 #[.float .f64 x] w fun e w' => e = .returned (.float .f64 (plain x)) ∧ w' = w := by
  cases hz : zeroB x with
  | true =>
    go_enter Try.func73, Try.ntmps73
    go_wp2
    go_ret
    exact ⟨by simp [plain, hz], rfl⟩
  | false =>
    go_enter Try.func73, Try.ntmps73
    go_wp2
    go_ret
    exact ⟨by simp [plain, hz], rfl⟩
theorem implGood (x : Nat) (h : x < 18446744073709551616) (w : World) : Calls Try.prog 52 #[.float .f64 x] w fun e w' => e = .returned (.bool (good x)) ∧ w' = w := by
  cases hf : fin x with
  | true =>
    have hg : ((x : Int) != 9223372036854775808) = good x := by
      simp only [good, hf, Bool.true_and]
      rw [Bool.eq_iff_iff]
      simp only [bne_iff_ne, ne_eq, decide_eq_true_eq]
      omega
    go_enter Try.func52, Try.ntmps52
    go_wp2_with (first | (go_at_call 60; refine (isFinite x h _).mono ?_; rw [hf]; rintro e w' ⟨rfl, rfl⟩))
    go_ret
    exact ⟨by simp, rfl⟩
  | false =>
    go_enter Try.func52, Try.ntmps52
    go_wp2_with (first | (go_at_call 60; refine (isFinite x h _).mono ?_; rw [hf]; rintro e w' ⟨rfl, rfl⟩))
    go_ret
    exact ⟨by simp [good, hf], rfl⟩
theorem specGood (x : Nat) (h : x < 18446744073709551616) (w : World) : Calls Try.prog 48 #[.float .f64 x] w fun e w' => e = .returned (.bool (good x)) ∧ w' = w := by
  cases hn : nanB x with
  | true =>
    have hf : fin x = false := by simp [nanB, fin] at *; omega
    go_enter Try.func48, Try.ntmps48
    go_wp2_with (first | (go_at_call 74; refine (isNaN x _).mono ?_; rw [hn]; rintro e w' ⟨rfl, rfl⟩))
    go_ret
    exact ⟨by simp [good, hf], rfl⟩
  | false =>
    cases hf : fin x with
    | false =>
      go_enter Try.func48, Try.ntmps48
      go_wp2_with (first | (go_at_call 74; refine (isNaN x _).mono ?_; rw [hn]; rintro e w' ⟨rfl, rfl⟩) | (go_at_call 75; refine (isInf x h hn _).mono ?_; rw [hf]; rintro e w' ⟨rfl, rfl⟩))
      go_ret
      exact ⟨by simp [good, hf], rfl⟩
    | true =>
      cases hz : zeroB x with
      | false =>
        have hg : good x = true := by simp [good, hf, zeroB] at *; omega
        go_enter Try.func48, Try.ntmps48
        go_wp2_with (first | (go_at_call 74; refine (isNaN x _).mono ?_; rw [hn]; rintro e w' ⟨rfl, rfl⟩) | (go_at_call 75; refine (isInf x h hn _).mono ?_; rw [hf]; rintro e w' ⟨rfl, rfl⟩))
        go_ret
        exact ⟨by simp [hg], rfl⟩
      | true =>
        have hg : good x = !decide (9223372036854775808 ≤ x) := by
          simp only [good, hf, zeroB, Bool.true_and, decide_eq_true_eq] at *
          rw [← decide_not, decide_eq_decide]; omega
        go_enter Try.func48, Try.ntmps48
        go_wp2_with (first | (go_at_call 74; refine (isNaN x _).mono ?_; rw [hn]; rintro e w' ⟨rfl, rfl⟩) | (go_at_call 75; refine (isInf x h hn _).mono ?_; rw [hf]; rintro e w' ⟨rfl, rfl⟩) | (go_at_call 76; refine (signbit x h _).mono ?_; rintro e w' ⟨rfl, rfl⟩))
        go_ret
        exact ⟨by simp [hg], rfl⟩
theorem quo_one_zero (x : Nat) (hz : zeroB x = true) : ∃ r, floatBits .quo .f64 4607182418800017408 x = some r := by
  have h1 : double.read 4607182418800017408 = .number false 4503599627370496 (-52) := by rw [read_double]; simp
  rcases read_cases x with ⟨m, e, h, hx, _, _, _, hm⟩ | ⟨h, hx⟩ | ⟨t, h, hx⟩
  · have hm0 : m = 0 := hm.2 (by simpa [zeroB] using hz)
    refine ⟨double.write (.infinity (false ^^ (x / 9223372036854775808 % 2 == 1))), ?_⟩
    show ((double.read 4607182418800017408).quotient 54 (double.read x)).map double.write = _
    rw [h1, h, hm0]
    rfl
  · simp [zeroB] at hz; omega
  · simp [zeroB] at hz; omega

/-- A float is the same as itself. -/
theorem sameFloat (x y : Nat) (hxy : nrm x = nrm y) (w : World) : Calls Try.prog 30 #[.float .f64 x, .float .f64 y] w fun e w' => e = .returned (.bool true) ∧ w' = w := by
  cases hn : nanB x with
  | true =>
    have hy : nanB y = true := by
      cases hy : nanB y with
      | true => rfl
      | false => simp [nrm, hn, hy] at hxy
    go_enter Try.func30, Try.ntmps30
    go_wp2
    go_ret
    exact ⟨rfl, rfl⟩
  | false =>
    have hy : nanB y = false := by
      cases hy : nanB y with
      | true => simp [nrm, hn, hy] at hxy
      | false => rfl
    have e : x = y := by simpa [nrm, hn, hy] using hxy
    subst e
    cases hz : zeroB x with
    | true =>
      obtain ⟨r, hr⟩ := quo_one_zero x hz
      have hq : ∀ t w, (binOp .quo t (.float .f64 4607182418800017408) (.float .f64 x)).run Try.prog w = .ok (.float .f64 r) w := fun t w => run_float_arith w .quo t .f64 _ x r hr
      go_enter Try.func30, Try.ntmps30
      go_wp2
      go_ret
      exact ⟨rfl, rfl⟩
    | false =>
      have ho : (FloatKind.f64.format.order x x == some Ordering.eq) = true := by
        have := order_ne x
        rw [hn] at this
        simpa using this
      go_enter Try.func30, Try.ntmps30
      go_wp2
      go_ret
      exact ⟨rfl, rfl⟩
end Go.Proofs.Ytghmnhohdbombaa
