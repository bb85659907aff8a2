/-
  What Blend answers, in the program and in its specification: the same at every argument.
-/
import Derived.Test.YthbhoppmdcfgeaaDivSpec
namespace Go.Proofs.Ythbhoppmdcfgeaa
open Go.ChangeShapes Go.WideShapes Go.ChangeAt Go.RowKit Ieee

/-- What an answer of a float and a bool is. -/
abbrev fbV (t : Nat × Bool) : Value := .tuple #[.float .f64 t.1, .bool t.2]

def below (p : Nat) : Bool := FloatKind.f64.format.order p 0 == some .lt
def above (p : Nat) : Bool := FloatKind.f64.format.order p 4607182418800017408 == some .gt
@[go_sem] theorem below_eq (p : Nat) : (FloatKind.f64.format.order p 0 == some .lt) = below p := rfl
@[go_sem] theorem above_eq (p : Nat) : (FloatKind.f64.format.order p 4607182418800017408 == some .gt) = above p := rfl

def plainO (o : Option Nat) : Nat := match o with
  | some x => plain x
  | none => 0
def blendX (a b p : Nat) : Option Nat := opN .add (nrm a) (opN .mul (opN .sub (nrm b) (nrm a)) (nrm p))
def blendM (a b p : Nat) : Nat × Bool :=
  if good a && good b && good p && !below p && !above p && finO (blendX a b p) then (plainO (blendX a b p), true) else (0, false)

theorem isFiniteC (x : Nat) (h : x < 18446744073709551616) (w : World) : Calls Try.prog 40 #[.float .f64 x] w fun e w' => (e = .returned (.bool true) ∧ finO (nrm x) = true ∧ w' = w) ∨ (e = .returned (.bool false) ∧ finO (nrm x) = false ∧ w' = w) := by
  refine (isFinite x h w).mono ?_
  rintro e w1 ⟨rfl, rfl⟩
  rw [finO_nrm]
  cases hf : fin x <;> simp

/-- A nought that a sum with a float without a nought's sign gives has no sign. -/
theorem sum_plain {a : Nat} {o : Option Nat} {r : Nat} (ha : a < 18446744073709551616) (hg : good a = true) (h : nrm r = opN .add (nrm a) o) (hf : fin r = true) : plainO (opN .add (nrm a) o) = r := by
  have hr := nrm_fin hf
  rw [← h, hr]
  rw [hr, nrm_fin (good_fin hg)] at h
  cases o with
  | none => simp [opN] at h
  | some y =>
    have h2 : floatBits .add .f64 a y = some r := h.symm
    have hne := add_plain ha (good_ne hg) h2
    have hlt := (floatBits_nan h2).2.2.2
    show plain r = r
    unfold plain
    cases hz : zeroB r
    · rfl
    · simp only [zeroB, decide_eq_true_eq] at hz
      simp only [if_true]
      omega
theorem fin_inf (s : Bool) : fin (double.write (.infinity s)) = false := by
  have e : double.write (.infinity s) = double.word s 9218868437227405312 := rfl
  rw [e, fin, (word_read s 9218868437227405312 (by omega)).1]
  rfl
theorem add_inf (a y : Nat) (hy : fin y = false) (ha : fin a = true) : finO (floatBits .add .f64 a y) = false := by
  have e : floatBits .add .f64 a y = ((double.read a).sum (double.read y)).map double.write := rfl
  rw [e]
  rcases read_cases y with ⟨n, f, hq, hy1, _⟩ | ⟨hq, hq2⟩ | ⟨t, hq, hq2⟩
  · simp [fin] at hy; omega
  · rcases read_cases a with ⟨m, e, hp, hp2, _⟩ | ⟨hp, hp2⟩ | ⟨t, hp, hp2⟩
    · rw [hp, hq]; exact fin_inf _
    · simp [fin] at ha; omega
    · simp [fin] at ha; omega
  · rw [hq]; cases double.read a <;> rfl
theorem mul_inf (x p : Nat) (hx : fin x = false) (hp : fin p = true) : finO (floatBits .mul .f64 x p) = false := by
  have e : floatBits .mul .f64 x p = ((double.read x).product (double.read p)).map double.write := rfl
  rw [e]
  rcases read_cases x with ⟨n, f, hq, hy1, _⟩ | ⟨hq, hq2⟩ | ⟨t, hq, hq2⟩
  · simp [fin] at hx; omega
  · rcases read_cases p with ⟨m, e, hr, hp2, _⟩ | ⟨hr, hp2⟩ | ⟨t, hr, hp2⟩
    · rw [hr, hq]
      simp only [Datum.product]
      split
      · rfl
      · exact fin_inf _
    · simp [fin] at hp; omega
    · simp [fin] at hp; omega
  · rw [hq]; rfl
/-- What is infinite stays so. -/
theorem blend_inf (a b p : Nat) (ha : good a = true) (hp : good p = true) (hd : finO (opN .sub (nrm b) (nrm a)) = false) : finO (blendX a b p) = false := by
  unfold blendX
  rw [nrm_fin (good_fin ha), nrm_fin (good_fin hp)] at *
  cases h : opN .sub (nrm b) (some a) with
  | none => rfl
  | some d =>
    rw [h] at hd
    show finO (opN .add (some a) (floatBits .mul .f64 d p)) = false
    have h2 := mul_inf d p hd (good_fin hp)
    cases h3 : floatBits .mul .f64 d p with
    | none => rfl
    | some y =>
      rw [h3] at h2
      exact add_inf a y h2 (good_fin ha)

set_option maxHeartbeats 1000000 in
theorem implBlend (a b p : Nat) (ha : a < 18446744073709551616) (hb : b < 18446744073709551616) (hp : p < 18446744073709551616) (w : World) :
    Calls Try.prog 34 #[.float .f64 a, .float .f64 b, .float .f64 p] w fun e w' => e = .returned (fbV (blendM a b p)) ∧ Grown w w' := by
  cases h1 : good a
  · go_enter Try.func34, Try.ntmps34
    go_wp2_with (go_at_call 22; refine (implGood _ (by assumption) _).mono ?_; (first | rw [h1]); rintro e w' ⟨rfl, rfl⟩)
    go_returns
    exact ⟨by simp [blendM, h1], by go_grown⟩
  cases h2 : good b
  · go_enter Try.func34, Try.ntmps34
    go_wp2_with (go_at_call 22; refine (implGood _ (by assumption) _).mono ?_; (first | rw [h1] | rw [h2]); rintro e w' ⟨rfl, rfl⟩)
    go_returns
    exact ⟨by simp [blendM, h2], by go_grown⟩
  cases h3 : good p
  · go_enter Try.func34, Try.ntmps34
    go_wp2_with (go_at_call 22; refine (implGood _ (by assumption) _).mono ?_; (first | rw [h1] | rw [h2] | rw [h3]); rintro e w' ⟨rfl, rfl⟩)
    go_returns
    exact ⟨by simp [blendM, h3], by go_grown⟩
  cases h4 : below p
  · cases h5 : above p
    · go_enter Try.func34, Try.ntmps34
      go_wp2_with (first
        | (go_at_call 22; refine (implGood _ (by assumption) _).mono ?_; (first | rw [h1] | rw [h2] | rw [h3]); rintro e w' ⟨rfl, rfl⟩)
        | fail)
      go_at_call 40; refine (isFiniteC _ (fop_lt _ _ _ _) _).mono ?_; rintro e w1 (⟨rfl, hX, rfl⟩ | ⟨rfl, hX, rfl⟩)
      · go_wp2
        go_returns
        refine ⟨?_, by repeat (first | with_reducible exact Grown.refl _ | with_reducible apply drewN_grown)⟩
        have e1 := hX
        simp only [nrm_fop] at e1
        have e2 : finO (blendX a b p) = true := e1
        rw [finO_nrm] at hX
        have e3 := sum_plain ha h1 (nrm_fop _ _ _ _) hX
        simp only [nrm_fop] at e3
        have e4 : plainO (blendX a b p) = _ := e3
        simp [blendM, h1, h2, h3, h4, h5, e2, e4]
      · go_wp2
        go_returns
        refine ⟨?_, by repeat (first | with_reducible exact Grown.refl _ | with_reducible apply drewN_grown)⟩
        simp only [nrm_fop] at hX
        have e2 : finO (blendX a b p) = false := hX
        simp [blendM, e2]
    · go_enter Try.func34, Try.ntmps34
      go_wp2_with (go_at_call 22; refine (implGood _ (by assumption) _).mono ?_; (first | rw [h1] | rw [h2] | rw [h3]); rintro e w' ⟨rfl, rfl⟩)
      go_returns
      exact ⟨by simp [blendM, h5], by go_grown⟩
  · go_enter Try.func34, Try.ntmps34
    go_wp2_with (go_at_call 22; refine (implGood _ (by assumption) _).mono ?_; (first | rw [h1] | rw [h2] | rw [h3]); rintro e w' ⟨rfl, rfl⟩)
    go_returns
    exact ⟨by simp [blendM, h4], by go_grown⟩
set_option maxHeartbeats 1000000 in
theorem specBlend (a b p : Nat) (ha : a < 18446744073709551616) (hb : b < 18446744073709551616) (hp : p < 18446744073709551616) (w : World) :
    Calls Try.prog 33 #[.float .f64 a, .float .f64 b, .float .f64 p] w fun e w' => e = .returned (fbV (blendM a b p)) ∧ Grown w w' := by
  cases h1 : good a
  · go_enter Try.func33, Try.ntmps33
    go_wp2_with (go_at_call 21; refine (specGood _ (by assumption) _).mono ?_; (first | rw [h1]); rintro e w' ⟨rfl, rfl⟩)
    go_returns
    exact ⟨by simp [blendM, h1], by go_grown⟩
  cases h2 : good b
  · go_enter Try.func33, Try.ntmps33
    go_wp2_with (go_at_call 21; refine (specGood _ (by assumption) _).mono ?_; (first | rw [h1] | rw [h2]); rintro e w' ⟨rfl, rfl⟩)
    go_returns
    exact ⟨by simp [blendM, h2], by go_grown⟩
  cases h3 : good p
  · go_enter Try.func33, Try.ntmps33
    go_wp2_with (go_at_call 21; refine (specGood _ (by assumption) _).mono ?_; (first | rw [h1] | rw [h2] | rw [h3]); rintro e w' ⟨rfl, rfl⟩)
    go_returns
    exact ⟨by simp [blendM, h3], by go_grown⟩
  cases h4 : below p
  · cases h5 : above p
    · go_enter Try.func33, Try.ntmps33
      go_wp2_with (first
        | (go_at_call 21; refine (specGood _ (by assumption) _).mono ?_; (first | rw [h1] | rw [h2] | rw [h3]); rintro e w' ⟨rfl, rfl⟩)
        | fail)
      go_at_call 41; refine (l2FiniteC _ (fop_lt _ _ _ _) _).mono ?_; rintro e w1 (⟨rfl, hD, rfl⟩ | ⟨rfl, hD, rfl⟩)
      · go_wp2_with fail
        go_at_call 41; refine (l2FiniteC _ (fop_lt _ _ _ _) _).mono ?_; rintro e w1 (⟨rfl, hX, rfl⟩ | ⟨rfl, hX, rfl⟩)
        · go_wp2_with (go_at_call 42; refine (l2Plain _ _).mono ?_; rintro e w' ⟨rfl, rfl⟩)
          go_returns
          refine ⟨?_, by repeat (first | with_reducible exact Grown.refl _ | with_reducible apply drewN_grown)⟩
          have e1 := hX
          simp only [nrm_fop] at e1
          have e2 : finO (blendX a b p) = true := e1
          rw [finO_nrm] at hX
          have e3 := nrm_fin hX
          simp only [nrm_fop] at e3
          have e4 : blendX a b p = _ := e3
          rw [e4] at e2
          simp only [blendM, h1, h2, h3, h4, h5, e4, e2, plainO, Bool.and_self, Bool.not_false, if_true]
          rfl
        · go_wp2
          go_returns
          refine ⟨?_, by repeat (first | with_reducible exact Grown.refl _ | with_reducible apply drewN_grown)⟩
          simp only [nrm_fop] at hX
          have e2 : finO (blendX a b p) = false := hX
          simp [blendM, e2]
      · go_wp2
        go_returns
        refine ⟨?_, by repeat (first | with_reducible exact Grown.refl _ | with_reducible apply drewN_grown)⟩
        simp only [nrm_fop] at hD
        have e2 := blend_inf a b p h1 h3 hD
        simp [blendM, e2]
    · go_enter Try.func33, Try.ntmps33
      go_wp2_with (go_at_call 21; refine (specGood _ (by assumption) _).mono ?_; (first | rw [h1] | rw [h2] | rw [h3]); rintro e w' ⟨rfl, rfl⟩)
      go_returns
      exact ⟨by simp [blendM, h5], by go_grown⟩
  · go_enter Try.func33, Try.ntmps33
    go_wp2_with (go_at_call 21; refine (specGood _ (by assumption) _).mono ?_; (first | rw [h1] | rw [h2] | rw [h3]); rintro e w' ⟨rfl, rfl⟩)
    go_returns
    exact ⟨by simp [blendM, h4], by go_grown⟩
end Go.Proofs.Ythbhoppmdcfgeaa
