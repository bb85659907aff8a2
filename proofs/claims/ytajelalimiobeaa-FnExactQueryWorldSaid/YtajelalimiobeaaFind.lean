/-
  What findEntity and l3At answer: the place of an entity.
-/
import Derived.Test.YtajelalimiobeaaGoodS
namespace Go.Proofs.Ytajelalimiobeaa
open Go.ChangeShapes Go.WideShapes Go.ChangeAt Go.RowKit

def cmpI (a b : Int) : Int := if a < b then -1 else if b < a then 1 else 0
theorem isNaNI (a : Int) (w : World) : Calls Try.prog 123 #[.int .i64 a] w fun e w' => e = .returned (.bool false) ∧ w' = w := by
  go_enter Try.func123, Try.ntmps123
  go_wp2
  go_ret
  exact ⟨rfl, rfl⟩
theorem compareI (a b : Int) (w : World) : Calls Try.prog 107 #[.int .i64 a, .int .i64 b] w fun e w' => e = .returned (.int .i64 (cmpI a b)) ∧ w' = w := by
  by_cases h1 : a < b
  · go_enter Try.func107, Try.ntmps107
    go_wp2_with (go_at_call 123; refine (isNaNI _ _).mono ?_; rintro e w' ⟨rfl, rfl⟩)
    go_ret
    exact ⟨by rw [cmpI, if_pos h1]; rfl, rfl⟩
  · have h1' : decide (a < b) = false := by simpa using h1
    by_cases h2 : b < a
    · go_enter Try.func107, Try.ntmps107
      go_wp2_with (go_at_call 123; refine (isNaNI _ _).mono ?_; rintro e w' ⟨rfl, rfl⟩)
      go_ret
      exact ⟨by rw [cmpI, if_neg (by omega), if_pos h2]; rfl, rfl⟩
    · have h2' : decide (b < a) = false := by simpa using h2
      go_enter Try.func107, Try.ntmps107
      go_wp2_with (go_at_call 123; refine (isNaNI _ _).mono ?_; rintro e w' ⟨rfl, rfl⟩)
      go_ret
      exact ⟨by rw [cmpI, if_neg (by omega), if_neg (by omega)]; rfl, rfl⟩
theorem closeE (a id : Int) (ao : Option Addr) (n cap : Nat) (w : World) : Calls Try.prog 106 #[.agg #[.int .i64 a, .slice ao n cap], .int .i64 id] w fun e w' => e = .returned (.int .i64 (cmpI a id)) ∧ Kept w w' := by
  go_enter Try.func106, Try.ntmps106
  go_wp2_with (go_at_call 107; refine (compareI _ _ _).mono ?_; rintro e w' ⟨rfl, rfl⟩)
  go_ret
  exact ⟨rfl, (But.refl _ _ _).alloc _⟩

/-- The Ids rise. -/
def Rise (zs : List PE) : Prop := ∀ (i j : Nat) (x y : PE), i < j → zs[i]? = some x → zs[j]? = some y → x.1 < y.1
/-- How far a search has come. -/
def Cutting (zs : List PE) (id : Int) (lo hi : Nat) : Prop := (∀ (t : Nat) (x : PE), t < lo → zs[t]? = some x → x.1 < id) ∧ (∀ (t : Nat) (x : PE), hi ≤ t → zs[t]? = some x → id ≤ x.1)

set_option maxHeartbeats 2000000 in
theorem searchE (zs : List PE) (id : Int) (v : Value) (w : World) (hv : EntsAt w v zs) (hr : Rise zs) (hn : zs.length ≤ 1048576) :
    Calls Try.prog 105 #[v, .int .i64 id, .func (.func 106) #[] #[]] w fun e w' => (∃ (k : Nat) (b : Bool), e = .returned (.tuple #[.int .i64 k, .bool b]) ∧ Cutting zs id k k ∧ k ≤ zs.length ∧ (b = true ↔ ∃ x, zs[k]? = some x ∧ x.1 = id)) ∧ Kept w w' := by
  obtain ⟨ao, cap, hsl⟩ := row_nil hv.1
  subst hsl
  go_enter Try.func105, Try.ntmps105
  go_wp2
  go_loopw [9, 10] (fun a b wr => ∃ lo hi : Nat, a = .int .i64 lo ∧ b = .int .i64 hi ∧ lo ≤ hi ∧ hi ≤ zs.length ∧ Cutting zs id lo hi ∧ Kept w wr) (fun a b _ => (intOf b).toNat - (intOf a).toNat)
  case atStart => exact ⟨0, zs.length, rfl, rfl, by omega, by omega, ⟨fun t x h => by omega, fun t x h hx => by have := (List.getElem?_eq_some_iff.1 hx).1; omega⟩, But.refl _ _ _⟩
  case round =>
    obtain ⟨lo, hi, rfl, rfl, hlh, hhn, hcut, hkp⟩ := hrel
    have HC : Hid _ := hcut
    clear hcut
    by_cases hlt : lo < hi
    · obtain ⟨z, hz⟩ : ∃ z, zs[(lo + hi) / 2]? = some z := ⟨_, List.getElem?_eq_getElem (by omega)⟩
      obtain ⟨b, o, cap1, ao1, n1, cap2, e, ez, c0, c1, en, hpa⟩ := ents_get (hv.kept hkp) hz
      cases e
      subst en
      have HR : Hid _ := hr
      clear hr
      by_cases hyx : z.1 < id
      · have hc : cmpI z.1 id = -1 := by rw [cmpI, if_pos hyx]
        go_wp2_with (go_at_call 106; refine (closeE _ _ _ _ _ _).mono ?_; rintro e w' ⟨rfl, hk2⟩; rw [hc])
        refine ⟨⟨(lo + hi) / 2 + 1, hi, by go_num, rfl, by omega, hhn, ⟨fun t x ht hx => ?_, HC.out.2⟩, hkp.trans hk2⟩, by simp [intOf]; omega⟩
        by_cases e : t = (lo + hi) / 2
        · subst e; rw [hz] at hx; cases hx; exact hyx
        · have := HR.out t _ x z (by omega : t < (lo + hi) / 2) hx hz; omega
      · have hc0 : cmpI z.1 id = 0 ∨ cmpI z.1 id = 1 := by
          unfold cmpI
          rw [if_neg hyx]
          by_cases h2 : id < z.1
          · right; rw [if_pos h2]
          · left; rw [if_neg h2]
        have hc : decide (cmpI z.1 id < 0) = false := by rcases hc0 with h | h <;> rw [h] <;> rfl
        clear hc0
        go_wp2_with (go_at_call 106; refine (closeE _ _ _ _ _ _).mono ?_; rintro e w' ⟨rfl, hk2⟩)
        refine ⟨⟨lo, (lo + hi) / 2, rfl, by go_num, by omega, by omega, ⟨HC.out.1, fun t x ht hx => ?_⟩, hkp.trans hk2⟩, by simp [intOf]; omega⟩
        by_cases e : t = (lo + hi) / 2
        · subst e; rw [hz] at hx; cases hx; omega
        · have := HR.out _ t z x (by omega : (lo + hi) / 2 < t) hz hx; omega
    · obtain rfl : hi = lo := by omega
      by_cases hln : hi < zs.length
      · obtain ⟨z, hz⟩ : ∃ z, zs[hi]? = some z := ⟨_, List.getElem?_eq_getElem hln⟩
        obtain ⟨b, o, cap1, ao1, n1, cap2, e, ez, c0, c1, en, hpa⟩ := ents_get (hv.kept hkp) hz
        cases e
        subst en
        have hge := HC.out.2 hi z (Nat.le_refl _) hz
        by_cases hye : z.1 = id
        · have hc : cmpI z.1 id = 0 := by rw [cmpI, if_neg (by omega), if_neg (by omega)]
          have HE : Hid _ := hye
          clear hye hge
          go_wp2_with (go_at_call 106; refine (closeE _ _ _ _ _ _).mono ?_; rintro e w' ⟨rfl, hk2⟩; rw [hc])
          go_ret2
          exact ⟨⟨hi, true, rfl, HC.out, hhn, by simp [hz, HE.out]⟩, hkp.trans hk2⟩
        · have hc : cmpI z.1 id = 1 := by rw [cmpI, if_neg (by omega), if_pos (by omega)]
          have HE : Hid _ := hye
          clear hye hge
          go_wp2_with (go_at_call 106; refine (closeE _ _ _ _ _ _).mono ?_; rintro e w' ⟨rfl, hk2⟩; rw [hc])
          go_ret2
          exact ⟨⟨hi, false, rfl, HC.out, hhn, by simp [hz]; exact HE.out⟩, hkp.trans hk2⟩
      · have hd : decide ((hi : Int) < (zs.length : Int)) = false := by simp; omega
        go_wp2
        go_ret2
        refine ⟨⟨hi, false, rfl, HC.out, hhn, ?_⟩, hkp⟩
        simp only [Bool.false_eq_true, false_iff]
        rintro ⟨x, hx, _⟩
        exact hln (List.getElem?_eq_some_iff.1 hx).1

theorem findE (zs : List PE) (id : Int) (v : Value) (w : World) (hv : EntsAt w v zs) (hr : Rise zs) (hn : zs.length ≤ 1048576) :
    Calls Try.prog 75 #[v, .int .i64 id] w fun e w' => (∃ (k : Nat) (b : Bool), e = .returned (.tuple #[.int .i64 k, .bool b]) ∧ Cutting zs id k k ∧ k ≤ zs.length ∧ (b = true ↔ ∃ x, zs[k]? = some x ∧ x.1 = id)) ∧ Kept w w' := by
  obtain ⟨ao, cap, hsl⟩ := row_nil hv.1
  subst hsl
  go_enter Try.func75, Try.ntmps75
  go_wp2_with (go_at_call 105; refine (searchE zs id _ _ hv hr hn).mono ?_; rintro e w' ⟨⟨k, b, rfl, h1, h2, h3⟩, hk2⟩)
  go_ret2
  exact ⟨⟨k, b, rfl, h1, h2, h3⟩, hk2⟩
theorem find_yes (zs : List PE) (id : Int) (k : Nat) (z : PE) (hz : zs[k]? = some z) (he : z.1 = id) (v : Value) (w : World) (hv : EntsAt w v zs) (hr : Rise zs) (hn : zs.length ≤ 1048576) :
    Calls Try.prog 75 #[v, .int .i64 id] w fun e w' => e = .returned (.tuple #[.int .i64 k, .bool true]) ∧ Kept w w' := by
  refine (findE zs id v w hv hr hn).mono ?_
  rintro e w' ⟨⟨k', b, rfl, h1, h2, h3⟩, hk⟩
  obtain rfl : k' = k := by
    rcases Nat.lt_trichotomy k' k with h | h | h
    · have hx : k' < zs.length := by have := (List.getElem?_eq_some_iff.1 hz).1; omega
      have h4 := h1.2 k' _ (Nat.le_refl _) (List.getElem?_eq_getElem hx)
      have h5 := hr k' k _ z h (List.getElem?_eq_getElem hx) hz
      omega
    · exact h
    · have := h1.1 k z h hz
      omega
  have : b = true := h3.2 ⟨z, hz, he⟩
  subst this
  exact ⟨rfl, hk⟩
theorem find_no (zs : List PE) (id : Int) (hno : ∀ z ∈ zs, z.1 ≠ id) (v : Value) (w : World) (hv : EntsAt w v zs) (hr : Rise zs) (hn : zs.length ≤ 1048576) :
    Calls Try.prog 75 #[v, .int .i64 id] w fun e w' => (∃ k : Nat, e = .returned (.tuple #[.int .i64 k, .bool false])) ∧ Kept w w' := by
  refine (findE zs id v w hv hr hn).mono ?_
  rintro e w' ⟨⟨k', b, rfl, h1, h2, h3⟩, hk⟩
  cases b with
  | false => exact ⟨⟨k', rfl⟩, hk⟩
  | true =>
    obtain ⟨x, hx, he⟩ := h3.1 rfl
    exact absurd he (hno x (List.mem_of_getElem? hx))

set_option maxHeartbeats 2000000 in
/-- The first entity of that Id, or -1. -/
theorem l3At (id : Int) (zs : List PE) (a b : Int) (v : Value) (w : World) (hv : EntsAt w v zs) (hn : zs.length ≤ 1048576) (r : Int) (hr : (∃ k z, zs[k]? = some z ∧ z.1 = id ∧ (∀ j y, j < k → zs[j]? = some y → y.1 ≠ id) ∧ r = (k : Nat)) ∨ ((∀ z ∈ zs, z.1 ≠ id) ∧ r = -1)) :
    Calls Try.prog 74 #[.agg #[.int .i64 a, .int .i64 b, v], .int .i64 id] w fun e w' => e = .returned (.int .i64 r) ∧ Kept w w' := by
  obtain ⟨ao, cap, hsl⟩ := row_nil hv.1
  subst hsl
  have HR : Hid _ := hr
  clear hr
  go_enter Try.func74, Try.ntmps74
  go_wp2
  go_loopw [10] (fun i wr => ∃ k : Nat, k ≤ zs.length ∧ i = .int .i64 k ∧ (∀ j y, j < k → zs[j]? = some y → y.1 ≠ id) ∧ Kept w wr) (fun i _ => zs.length - (intOf i).toNat)
  case atStart => exact ⟨0, by omega, rfl, fun j y h => by omega, (But.refl _ _ _).alloc _⟩
  case round =>
    obtain ⟨k, hk, rfl, hno, hkp⟩ := hrel
    have HN : Hid (∀ j y, j < k → zs[j]? = some y → y.1 ≠ id) := hno
    clear hno
    by_cases hlt : k < zs.length
    · obtain ⟨z, hz⟩ : ∃ z, zs[k]? = some z := ⟨_, List.getElem?_eq_getElem hlt⟩
      obtain ⟨b', o, cap1, ao1, n1, cap2, e, ez, c0, c1, en, hpa⟩ := ents_get (hv.kept hkp) hz
      cases e
      subst en
      cases he : (z.1 == id) with
      | true =>
        go_wp2
        go_ret
        refine ⟨?_, hkp.alloc _⟩
        have he' : z.1 = id := by simpa using he
        rcases HR.out with ⟨k', z', hz', hid', hfirst, rfl⟩ | ⟨hall, _⟩
        · obtain rfl : k' = k := by
            rcases Nat.lt_trichotomy k' k with h | h | h
            · exact absurd hid' (HN.out k' z' h hz')
            · exact h
            · exact absurd he' (hfirst k z h hz)
          rfl
        · exact absurd he' (hall z (List.mem_of_getElem? hz))
      | false =>
        go_wp2
        refine ⟨⟨k + 1, hlt, by go_num, fun j y hj hy => ?_, hkp.alloc _⟩, by simp [intOf]; omega⟩
        by_cases e : j = k
        · subst e; rw [hz] at hy; cases hy; simpa using he
        · exact HN.out j y (by omega) hy
    · have hke : k = zs.length := by omega
      subst hke
      go_wp2
      go_ret
      refine ⟨?_, hkp⟩
      rcases HR.out with ⟨k', z', hz', hid', hfirst, rfl⟩ | ⟨hall, rfl⟩
      · exact absurd hid' (HN.out k' z' (List.getElem?_eq_some_iff.1 hz').1 hz')
      · rfl
end Go.Proofs.Ytajelalimiobeaa
