/-
  What the program's ToShort answers; that a short float that it answers comes back.
-/
import Derived.Test.YthbhoppmdcfgeaaRound
namespace Go.Proofs.Ythbhoppmdcfgeaa
open Go.ChangeShapes Go.WideShapes Go.ChangeAt Go.RowKit Ieee

def fin32 (b : Nat) : Bool := decide (b % 2147483648 < 2139095040)
def zero32 (b : Nat) : Bool := decide (b % 2147483648 = 0)
theorem single_zero (x : Nat) (s : Bool) (m : Nat) (e : Int) (h : single.read x = .number s m e) : (m = 0 ↔ x % 2147483648 = 0) ∧ s = (x / 2147483648 % 2 == 1) := by
  rw [read_single] at h
  split at h
  · injection h with h1 h2 h3
    exact ⟨by omega, h1.symm⟩
  · split at h
    · injection h with h1 h2 h3
      exact ⟨by omega, h1.symm⟩
    · split at h <;> cases h
@[go_sem] theorem order_zero32 (x : Nat) : (FloatKind.f32.format.order x 0 == some Ordering.eq) = zero32 x := by
  have e : FloatKind.f32.format.order x 0 = (single.read x).order (single.read 0) := rfl
  have h0 : single.read 0 = .number false 0 (-149) := rfl
  rw [e, h0]
  unfold zero32
  rcases single_cases x with ⟨m, e, h, hx, he, _, _⟩ | ⟨h, hx⟩ | ⟨t, h, hx⟩
  · have hm := (single_zero x _ m e h).1
    rw [h]
    simp only [Datum.order]
    rw [(signed_zero false 0 _).2 rfl, cmp_eq]
    by_cases hz : m = 0
    · have := hm.1 hz
      subst hz
      rw [(signed_zero _ 0 _).2 rfl]
      simp [this]
    · have h1 : signed (x / 2147483648 % 2 == 1) m (e - min e (-149)).toNat ≠ 0 := fun h => hz ((signed_zero _ _ _).1 h)
      have h2 : x % 2147483648 ≠ 0 := fun h => hz (hm.2 h)
      simp [h1, h2]
  · rw [h]; simp only [Datum.order]; cases (x / 2147483648 % 2 == 1) <;> simp <;> omega
  · rw [h]; simp [Datum.order]; omega

theorem wide_read (s : Bool) (m : Nat) (e : Int) (hm0 : m ≠ 0) (hm : m < 16777216) (he : -149 ≤ e) (he2 : e ≤ 104) :
    double.nearest s m e < 18446744073709551616 ∧ double.read (double.nearest s m e) = .number s (m <<< (52 - m.log2)) (e - (52 - m.log2 : Nat)) := by
  have hl : double.leastPlace = -1074 := rfl
  have hb : double.binade = 4503599627370496 := rfl
  have hi : double.infRung = 9218868437227405312 := rfl
  have hfb : (double.fractionBits : Int) = 52 := rfl
  have hlog : m.log2 ≤ 23 := by
    have := (Nat.log2_lt hm0 (k := 24)).2 hm
    omega
  have hK2 : (m <<< (52 - m.log2)).log2 = 52 := by rw [log2_shl _ _ hm0]; omega
  have hK0 : m <<< (52 - m.log2) ≠ 0 := by
    rw [Nat.shiftLeft_eq]
    exact Nat.mul_ne_zero hm0 (by have := Nat.two_pow_pos (52 - m.log2); omega)
  have hKlo : 4503599627370496 ≤ m <<< (52 - m.log2) := (Nat.le_log2 hK0 (k := 52)).1 (by omega)
  have hKhi : m <<< (52 - m.log2) < 9007199254740992 := (Nat.log2_lt hK0 (k := 53)).1 (by omega)
  have hlast : max (e + (m.log2 : Int) - 52) (-1074) = e - (52 - m.log2 : Nat) := by omega
  have e0 : (e - (52 - m.log2 : Nat) - e).toNat = 0 := by omega
  have e1 : (e - (e - (52 - m.log2 : Nat))).toNat = 52 - m.log2 := by omega
  have hn : double.nearest s m e = double.word s (min ((e - (52 - m.log2 : Nat) - (-1074)).toNat * 4503599627370496 + m <<< (52 - m.log2)) 9218868437227405312) := by
    unfold Format.nearest
    rw [if_neg hm0, hl, hb, hi, hfb]
    dsimp only
    rw [hlast, e0, e1, cut_zero]
  have hT : (e - (52 - m.log2 : Nat) - (-1074)).toNat ≤ 1149 := by omega
  have hTe : (((e - (52 - m.log2 : Nat) - (-1074)).toNat : Nat) : Int) = e - (52 - m.log2 : Nat) + 1074 := by omega
  generalize hP : (e - (52 - m.log2 : Nat) : Int) = P at hn hT hTe ⊢
  generalize (P - (-1074)).toNat = T at hn hT hTe
  generalize m <<< (52 - m.log2) = K at hn hKlo hKhi ⊢
  clear hK2 hK0 hlast e0 e1 hP hlog hm hm0 he he2 hl hb hi hfb
  rw [Nat.min_eq_left (by omega)] at hn
  rw [hn]
  obtain ⟨r1, r2, r3⟩ := word_read s (T * 4503599627370496 + K) (by omega)
  refine ⟨r3, ?_⟩
  rw [read_double, r1, r2, if_neg (by omega), if_pos (by omega)]
  have h1 : (T * 4503599627370496 + K) % 4503599627370496 = K - 4503599627370496 := by omega
  have h2 : (T * 4503599627370496 + K) / 4503599627370496 = T + 1 := by omega
  have h3 : 4503599627370496 + (K - 4503599627370496) = K := by omega
  have h4 : (-1074 : Int) + ((T + 1 - 1 : Nat) : Int) = P := by omega
  rw [h1, h2, h3, h4]

theorem wideO_number (b : Nat) (s : Bool) (m : Nat) (e : Int) (hr : single.read b = .number s m e) (hi : (double.read (double.nearest s m e)).isInfinity = false) : wideO b = some (double.nearest s m e) := by
  have h2 : wideO b = match single.read b with
    | .nan _ _ => none
    | .infinity s => some (double.write (.infinity s))
    | .number s m e => if (double.read (double.write (.number s m e))).isInfinity then none else some (double.write (.number s m e)) := rfl
  rw [h2, hr]
  simp only [Format.write, hi]
  rfl

/-- What a conversion to 32 bits gives, where the language fixes it. -/
def narO (x : Nat) : Option Nat := floatToFloatBits .f64 x .f32
/-- Of a finite short float that is no nought with a sign: made wide it is good, and made short again it is itself. -/
theorem short_back (b : Nat) (hb : b < 4294967296) (hf : fin32 b = true) (hz : b ≠ 2147483648) :
    ∃ y, wideO b = some y ∧ y < 18446744073709551616 ∧ good y = true ∧ narO y = some b := by
  rcases single_cases b with ⟨m, e, hr, hx, he, he2, hm⟩ | ⟨hr, hx⟩ | ⟨t, hr, hx⟩
  · have hs := (single_zero b _ m e hr).1
    by_cases hm0 : m = 0
    · have hb0 : b = 0 := by have := hs.1 hm0; omega
      subst hb0
      exact ⟨0, by decide +kernel, by omega, by decide, by decide +kernel⟩
    · obtain ⟨hlt, hrd⟩ := wide_read (b / 2147483648 % 2 == 1) m e hm0 hm he he2
      have hw := wideO_number b _ m e hr (by rw [hrd]; rfl)
      refine ⟨_, hw, hlt, ?_, ?_⟩
      · generalize double.nearest (b / 2147483648 % 2 == 1) m e = y at hlt hrd
        have hK0 : m <<< (52 - m.log2) ≠ 0 := by
          rw [Nat.shiftLeft_eq]
          exact Nat.mul_ne_zero hm0 (by have := Nat.two_pow_pos (52 - m.log2); omega)
        rcases read_cases y with ⟨m', e', h, hy, _, _, _, hz'⟩ | ⟨h, hy⟩ | ⟨t, h, hy⟩
        · rw [h] at hrd
          injection hrd with _ h2 _
          have : ¬ y % 9223372036854775808 = 0 := fun h => hK0 (h2 ▸ hz'.2 h)
          simp [good, fin, hy]
          omega
        · rw [h] at hrd; cases hrd
        · rw [h] at hrd; cases hrd
      · have h2 : narO (double.nearest (b / 2147483648 % 2 == 1) m e) = match double.read (double.nearest (b / 2147483648 % 2 == 1) m e) with
          | .nan _ _ => none
          | .infinity s => some (single.write (.infinity s))
          | .number s m e => if (single.read (single.write (.number s m e))).isInfinity then none else some (single.write (.number s m e)) := rfl
        rw [h2, hrd]
        have ha := again32 b hb _ m e hr hm0 (52 - m.log2)
        simp only [Format.write, ha, hr]
        rfl
  · simp [fin32] at hf; omega
  · simp [fin32] at hf; omega
theorem fin_wide (k : Tok) (b : Nat) : fin (wide k b) = fin32 b := by
  unfold wide
  rcases single_cases b with ⟨m, e, hr, hx, he, he2, hm⟩ | ⟨hr, hx⟩ | ⟨t, hr, hx⟩
  · have hf : fin32 b = true := by simp [fin32, hx]
    obtain ⟨r, hn, hlt⟩ := nearest_small (b / 2147483648 % 2 == 1) m e hm (by omega) he2
    have h1 := (word_read (b / 2147483648 % 2 == 1) r (by omega)).1
    have hi : (double.read (double.nearest (b / 2147483648 % 2 == 1) m e)).isInfinity = false := by
      rw [hn]
      rcases read_cases (double.word (b / 2147483648 % 2 == 1) r) with ⟨m, e, h, _⟩ | ⟨h, hx⟩ | ⟨t, h, hx⟩
      · rw [h]; rfl
      · omega
      · omega
    rw [wideO_number b _ m e hr hi, hf, hn]
    simp [fin, h1, hlt]
  · have hf : fin32 b = false := by simp [fin32]; omega
    have h2 : wideO b = some (double.write (.infinity (b / 2147483648 % 2 == 1))) := by
      have h2 : wideO b = match single.read b with
        | .nan _ _ => none
        | .infinity s => some (double.write (.infinity s))
        | .number s m e => if (double.read (double.write (.number s m e))).isInfinity then none else some (double.write (.number s m e)) := rfl
      rw [h2, hr]
    rw [h2, hf]
    exact fin_inf _
  · have hf : fin32 b = false := by simp [fin32]; omega
    have h2 : wideO b = none := by
      have h2 : wideO b = match single.read b with
        | .nan _ _ => none
        | .infinity s => some (double.write (.infinity s))
        | .number s m e => if (double.read (double.write (.number s m e))).isInfinity then none else some (double.write (.number s m e)) := rfl
      rw [h2, hr]
    rw [h2, hf]
    have := (cut_conv b (k.tape k.drawn (.nanConv .f64 b))).1
    cases hc : fin (Question.cut (.nanConv .f64 b) (k.tape k.drawn (.nanConv .f64 b)))
    · rfl
    · rw [fin_nan hc] at this; cases this

/-- What a conversion to 32 bits gives in a world. -/
def nar (k : Tok) (x : Nat) : Nat := match narO x with
  | some r => r
  | none => match FloatKind.f64.decode x with
    | .nan _ _ => Question.cut (.nanConv .f32 x) (k.tape k.drawn (.nanConv .f32 x))
    | _ => Question.cut (.floatToFloat x) (k.tape k.drawn (.floatToFloat x))
def narN (x : Nat) : Nat := if (narO x).isSome then 0 else 1
@[go_sem] theorem run_nar (x : Nat) (w : World) : (convert 25 66 (.float .f64 x)).run Try.prog w = .ok (.float .f32 (nar (tok w) x)) (w.drewN (narN x)) := by
  cases h : narO x with
  | some r =>
    have h2 : floatToFloatBits .f64 x .f32 = some r := h
    rw [run_convert_float_float w 25 66 .f64 .f32 x r (by rw [Try.underlying25]; rfl) Try.underlying66 h2]
    simp [nar, narN, h, World.drewN_zero]
  | none =>
    have e2 : w.drewN (narN x) = w.drew := by simp [narN, h, World.drew_is_drewN]
    rw [e2]
    have h2 : floatToFloatBits .f64 x .f32 = none := h
    unfold floatToFloatBits at h2
    rw [if_neg (by decide)] at h2
    cases hd : FloatKind.f64.decode x with
    | nan s t =>
      have e1 : nar (tok w) x = Question.cut (.nanConv .f32 x) (w.tape w.drawn (.nanConv .f32 x)) := by simp [nar, h, hd, tok]
      rw [e1]
      simp [convert, run_underlying Try.underlying66, run_underlying Try.underlying25, Conv.floatToFloat, hd, Question.forced]
    | infinity s => rw [hd] at h2; cases h2
    | number s m e =>
      rw [hd] at h2
      simp only at h2
      have e1 : nar (tok w) x = Question.cut (.floatToFloat x) (w.tape w.drawn (.floatToFloat x)) := by simp [nar, h, hd, tok]
      rw [e1]
      have hi : (FloatKind.f32.decode (FloatKind.f32.encode (.number s m e))).isInfinity = true := by
        cases hi : (FloatKind.f32.decode (FloatKind.f32.encode (.number s m e))).isInfinity
        · rw [hi] at h2; simp at h2
        · rfl
      simp [convert, run_underlying Try.underlying66, run_underlying Try.underlying25, Conv.floatToFloat, hd, hi, Question.forced]
theorem nar_lt (k : Tok) (x : Nat) : nar k x < 4294967296 := by
  unfold nar
  cases h : narO x with
  | some r =>
    have h2 : floatToFloatBits .f64 x .f32 = some r := h
    unfold floatToFloatBits at h2
    rw [if_neg (by decide)] at h2
    have hw : ∀ d, FloatKind.f32.encode d < 4294967296 := fun d => single.write_lt d
    split at h2
    · cases h2
    · cases h2; exact hw _
    · split at h2
      · cases h2
      · cases h2; exact hw _
  | none =>
    simp only
    split
    · have e : Question.cut (.nanConv .f32 x) (k.tape k.drawn (.nanConv .f32 x)) = (k.tape k.drawn (.nanConv .f32 x) % 2) * 2 ^ 31 + 0x7f800000 + 1 + (k.tape k.drawn (.nanConv .f32 x) / 2) % (2 ^ 23 - 1) := rfl
      rw [e]
      have h1 : (k.tape k.drawn (.nanConv .f32 x) / 2) % (2 ^ 23 - 1) < 2 ^ 23 - 1 := Nat.mod_lt _ (by decide)
      have h2 : k.tape k.drawn (.nanConv .f32 x) % 2 < 2 := Nat.mod_lt _ (by decide)
      omega
    · exact Nat.mod_lt _ (by decide)

def toM (x b : Nat) : Nat × Bool := if good x && fin32 b then (if zero32 b then 0 else b, true) else (0, false)
/-- What ToShort answers: by the short float b that its conversion gave. -/
def ToAns (x : Nat) (e : Ending) : Prop := ∃ b, b < 4294967296 ∧ (∀ r, narO x = some r → b = r) ∧ e = .returned (.tuple #[.int .u32 ((toM x b).1 : Int), .bool (toM x b).2])
theorem nar_some (k : Tok) (x r : Nat) (h : narO x = some r) : nar k x = r := by simp [nar, h]
set_option maxHeartbeats 1000000 in
theorem implTo (x : Nat) (hx : x < 18446744073709551616) (w : World) : Calls Try.prog 19 #[.float .f64 x] w fun e w' => ToAns x e ∧ ∃ n, w' = w.drewN n := by
  cases hg : good x
  · go_enter Try.func19, Try.ntmps19
    go_wp2_with (go_at_call 22; refine (implGood x hx _).mono ?_; rw [hg]; rintro e w' ⟨rfl, rfl⟩)
    go_returns
    exact ⟨⟨nar (tok w) x, nar_lt _ _, fun r h => nar_some _ _ _ h, by simp [toM, hg]⟩, _, rfl⟩
  · have hb := nar_lt (tok w) x
    cases hf : fin32 (nar (tok w) x)
    · go_enter Try.func19, Try.ntmps19
      go_wp2_with (first | (go_at_call 22; refine (implGood x hx _).mono ?_; rw [hg]; rintro e w' ⟨rfl, rfl⟩) | (go_at_call 40; refine (isFinite _ (wide_lt _ _ hb) _).mono ?_; rw [fin_wide, hf]; rintro e w' ⟨rfl, rfl⟩))
      go_returns
      exact ⟨⟨nar (tok w) x, hb, fun r h => nar_some _ _ _ h, by simp [toM, hf]⟩, _, rfl⟩
    · cases hz : zero32 (nar (tok w) x)
      all_goals
        go_enter Try.func19, Try.ntmps19
        go_wp2_with (first | (go_at_call 22; refine (implGood x hx _).mono ?_; rw [hg]; rintro e w' ⟨rfl, rfl⟩) | (go_at_call 40; refine (isFinite _ (wide_lt _ _ hb) _).mono ?_; rw [fin_wide, hf]; rintro e w' ⟨rfl, rfl⟩))
        go_returns
        exact ⟨⟨nar (tok w) x, hb, fun r h => nar_some _ _ _ h, by simp [toM, hg, hf, hz]⟩, _, rfl⟩
end Go.Proofs.Ythbhoppmdcfgeaa
