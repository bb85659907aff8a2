/-
  What OfShort answers, in the program and in its specification: the same at every 32 bits; what a conversion between floats of 32 and of 64 bits gives.
-/
import Derived.Test.YthbhoppmdcfgeaaLeaf
namespace Go.Proofs.Ythbhoppmdcfgeaa
open Go.ChangeShapes Go.WideShapes Go.ChangeAt Go.RowKit Ieee

theorem read_single (x : Nat) : single.read x =
    (if x % 2147483648 < 8388608 then .number (x / 2147483648 % 2 == 1) (x % 2147483648) (-149)
    else if x % 2147483648 < 2139095040 then
      .number (x / 2147483648 % 2 == 1) (8388608 + x % 2147483648 % 8388608) (-149 + (x % 2147483648 / 8388608 - 1 : Nat))
    else if x % 2147483648 = 2139095040 then .infinity (x / 2147483648 % 2 == 1)
    else .nan (x / 2147483648 % 2 == 1) (x % 2147483648 - 2139095040)) := rfl
theorem single_cases (x : Nat) :
    (∃ m e, single.read x = .number (x / 2147483648 % 2 == 1) m e ∧ x % 2147483648 < 2139095040 ∧ -149 ≤ e ∧ e ≤ 104 ∧ m < 16777216) ∨
    (single.read x = .infinity (x / 2147483648 % 2 == 1) ∧ x % 2147483648 = 2139095040) ∨
    (∃ t, single.read x = .nan (x / 2147483648 % 2 == 1) t ∧ 2139095040 < x % 2147483648) := by
  rw [read_single]
  split
  · left; exact ⟨_, _, rfl, by omega, by omega, by omega, by omega⟩
  · split
    · left; exact ⟨_, _, rfl, by omega, by omega, by omega, by omega⟩
    · split
      · right; left; exact ⟨rfl, by omega⟩
      · right; right; exact ⟨_, rfl, by omega⟩

theorem nearest_small (s : Bool) (m : Nat) (e : Int) (hm : m < 16777216) (he : -1074 ≤ e) (he2 : e ≤ 104) : ∃ r, double.nearest s m e = double.word s r ∧ r < 9218868437227405312 := by
  have hl : double.leastPlace = -1074 := rfl
  have hb : double.binade = 4503599627370496 := rfl
  have hi : double.infRung = 9218868437227405312 := rfl
  have hfb : (double.fractionBits : Int) = 52 := rfl
  by_cases h0 : m = 0
  · subst h0; exact ⟨0, rfl, by omega⟩
  · unfold Format.nearest
    rw [if_neg h0, hl, hb, hi, hfb]
    dsimp only
    refine ⟨_, rfl, ?_⟩
    have hlog : m.log2 ≤ 23 := by
      have := (Nat.log2_lt h0 (k := 24)).2 hm
      omega
    have hlt : m < 2 ^ (m.log2 + 1) := Nat.lt_log2_self
    generalize hL : max (e + (m.log2 : Int) - 52) (-1074) = last
    have h1 : last ≤ e := by omega
    have h2 : last ≤ 75 := by omega
    have h3 : e - last ≤ 52 - m.log2 := by omega
    have e0 : (last - e).toNat = 0 := by omega
    rw [e0, cut_zero]
    have hk : m <<< (e - last).toNat < 9007199254740992 := by
      rw [Nat.shiftLeft_eq]
      have h4 : (e - last).toNat ≤ 52 - m.log2 := by omega
      have h5 : 2 ^ (e - last).toNat ≤ 2 ^ (52 - m.log2) := Nat.pow_le_pow_right (by omega) h4
      calc m * 2 ^ (e - last).toNat ≤ m * 2 ^ (52 - m.log2) := Nat.mul_le_mul_left _ h5
        _ < 2 ^ (m.log2 + 1) * 2 ^ (52 - m.log2) := Nat.mul_lt_mul_of_pos_right hlt (Nat.two_pow_pos _)
        _ = 2 ^ 53 := by rw [← Nat.pow_add]; congr 1; omega
        _ = 9007199254740992 := rfl
    generalize m <<< (e - last).toNat = K at hk ⊢
    have h6 : (last - -1074).toNat ≤ 1149 := by clear hlt hL hk; omega
    generalize (last - -1074).toNat = T at h6 ⊢
    clear hlt hL h1 h2 h3 e0 hlog hm he he2 h0
    refine Nat.lt_of_le_of_lt (Nat.min_le_left _ _) ?_
    omega

/-- The float of 64 bits that is the one of 32 bits. -/
def wideO (b : Nat) : Option Nat := floatToFloatBits .f32 b .f64
theorem wide_none (b : Nat) (h : wideO b = none) : ∃ s t, FloatKind.f32.decode b = .nan s t := by
  have hd : FloatKind.f32.decode b = single.read b := rfl
  rw [hd]
  rcases single_cases b with ⟨m, e, hr, _, he, he2, hm⟩ | ⟨hr, _⟩ | ⟨t, hr, _⟩
  · exfalso
    obtain ⟨r, hn, hlt⟩ := nearest_small (b / 2147483648 % 2 == 1) m e hm (by omega) he2
    have hi : (double.read (double.nearest (b / 2147483648 % 2 == 1) m e)).isInfinity = false := by
      rw [hn]
      have := (word_read (b / 2147483648 % 2 == 1) r (by omega)).1
      rcases read_cases (double.word (b / 2147483648 % 2 == 1) r) with ⟨m, e, h, _⟩ | ⟨h, hx⟩ | ⟨t, h, hx⟩
      · rw [h]; rfl
      · omega
      · omega
    have : wideO b = some (double.nearest (b / 2147483648 % 2 == 1) m e) := by
      have h2 : wideO b = match single.read b with
        | .nan _ _ => none
        | .infinity s => some (double.write (.infinity s))
        | .number s m e => if (double.read (double.write (.number s m e))).isInfinity then none else some (double.write (.number s m e)) := rfl
      rw [h2, hr]
      simp only [Format.write, hi]
      rfl
    rw [this] at h
    cases h
  · have : wideO b = some (double.write (.infinity (b / 2147483648 % 2 == 1))) := by
      have h2 : wideO b = match single.read b with
        | .nan _ _ => none
        | .infinity s => some (double.write (.infinity s))
        | .number s m e => if (double.read (double.write (.number s m e))).isInfinity then none else some (double.write (.number s m e)) := rfl
      rw [h2, hr]
    rw [this] at h
    cases h
  · exact ⟨_, _, hr⟩

def wide (k : Tok) (b : Nat) : Nat := match wideO b with
  | some r => r
  | none => Question.cut (.nanConv .f64 b) (k.tape k.drawn (.nanConv .f64 b))
def wideN (b : Nat) : Nat := if (wideO b).isSome then 0 else 1
@[go_sem] theorem run_wide (b : Nat) (w : World) : (convert 66 25 (.float .f32 b)).run Try.prog w = .ok (.float .f64 (wide (tok w) b)) (w.drewN (wideN b)) := by
  cases h : wideO b with
  | some r =>
    have h2 : floatToFloatBits .f32 b .f64 = some r := h
    rw [run_convert_float_float w 66 25 .f32 .f64 b r (by rw [Try.underlying66]; rfl) Try.underlying25 h2]
    simp [wide, wideN, h, World.drewN_zero]
  | none =>
    obtain ⟨s, t, hd⟩ := wide_none b h
    have e1 : wide (tok w) b = Question.cut (.nanConv .f64 b) (w.tape w.drawn (.nanConv .f64 b)) := by simp [wide, h, tok]
    have e2 : w.drewN (wideN b) = w.drew := by simp [wideN, h, World.drew_is_drewN]
    rw [e1, e2]
    simp [convert, run_underlying Try.underlying66, run_underlying Try.underlying25, Conv.floatToFloat, hd, Question.forced]
theorem cut_conv (x t : Nat) : nanB (Question.cut (.nanConv .f64 x) t) = true ∧ Question.cut (.nanConv .f64 x) t < 18446744073709551616 := cut_nan x x t
theorem wide_lt (k : Tok) (b : Nat) (hb : b < 4294967296) : wide k b < 18446744073709551616 := by
  unfold wide
  cases h : wideO b with
  | none => exact (cut_conv _ _).2
  | some r =>
    have := floatToFloatBits_wf (src := .f32) (bits := b) (dst := .f64) (r := r) (by simp [Lit.wf, hb]) h
    simpa [Lit.wf] using this
def goodO (o : Option Nat) : Bool := match o with
  | some x => good x
  | none => false
theorem good_wide (k : Tok) (b : Nat) : good (wide k b) = goodO (wideO b) := by
  unfold wide
  cases h : wideO b with
  | some r => rfl
  | none =>
    have := (cut_conv b (k.tape k.drawn (.nanConv .f64 b))).1
    simp only [goodO]
    cases hg : good (Question.cut (.nanConv .f64 b) (k.tape k.drawn (.nanConv .f64 b)))
    · rfl
    · rw [fin_nan (good_fin hg)] at this; cases this
theorem wide_of (k : Tok) (b : Nat) (h : goodO (wideO b) = true) : wide k b = (wideO b).getD 0 := by
  unfold wide
  cases h2 : wideO b with
  | some r => rfl
  | none => rw [h2] at h; cases h

def ofShortM (b : Nat) : Nat × Bool := if goodO (wideO b) then ((wideO b).getD 0, true) else (0, false)
theorem specOf (b : Int) (h : 0 ≤ b) (h' : b < 4294967296) (w : World) : Calls Try.prog 36 #[.int .u32 b] w fun e w' => e = .returned (.tuple #[.float .f64 (ofShortM b.toNat).1, .bool (ofShortM b.toNat).2]) ∧ Grown w w' := by
  have hb : b.toNat < 4294967296 := by omega
  cases hg : goodO (wideO b.toNat)
  all_goals
    go_enter Try.func36, Try.ntmps36
    go_wp2_with (go_at_call 21; refine (specGood _ (wide_lt _ _ hb) _).mono ?_; rw [good_wide, hg]; rintro e w' ⟨rfl, rfl⟩)
    go_returns
    exact ⟨by simp [ofShortM, hg, wide_of], by exact (Grown.refl w)⟩
theorem implOf (b : Int) (h : 0 ≤ b) (h' : b < 4294967296) (w : World) : Calls Try.prog 20 #[.int .u32 b] w fun e w' => e = .returned (.tuple #[.float .f64 (ofShortM b.toNat).1, .bool (ofShortM b.toNat).2]) ∧ Grown w w' := by
  have hb : b.toNat < 4294967296 := by omega
  cases hg : goodO (wideO b.toNat)
  all_goals
    go_enter Try.func20, Try.ntmps20
    go_wp2_with (go_at_call 22; refine (implGood _ (wide_lt _ _ hb) _).mono ?_; rw [good_wide, hg]; rintro e w' ⟨rfl, rfl⟩)
    go_returns
    exact ⟨by simp [ofShortM, hg, wide_of], by exact (Grown.refl w)⟩
end Go.Proofs.Ythbhoppmdcfgeaa
