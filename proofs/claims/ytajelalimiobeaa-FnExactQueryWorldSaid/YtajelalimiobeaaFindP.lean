/-
  What findPart and l3Part answer: the place of a part.
-/
import Derived.Test.YtajelalimiobeaaFind
import Derived.Lib.Bytealg
import Derived.Laws.Externs
namespace Go.Proofs.Ytajelalimiobeaa
open Go.ChangeShapes Go.WideShapes Go.ChangeAt Go.RowKit

def cmpS (a b : ByteArray) : Int := Lib.compareBytes a.data.toList b.data.toList
theorem cmpL_lt : ∀ x y : List UInt8, Lib.compareBytes x y < 0 ↔ Op.bytesLess x y = true
  | [], [] => by simp [Lib.compareBytes, Op.bytesLess]
  | [], _ :: _ => by simp [Lib.compareBytes, Op.bytesLess]
  | _ :: _, [] => by simp [Lib.compareBytes, Op.bytesLess]
  | a :: x, b :: y => by
    have ih := cmpL_lt x y
    simp only [Lib.compareBytes, Op.bytesLess, Bool.or_eq_true, decide_eq_true_eq, Bool.and_eq_true, beq_iff_eq]
    by_cases h1 : a < b
    · simp [h1]
    · by_cases h2 : b < a
      · have : a ≠ b := fun e => h1 (by subst e; exact h2)
        simp [h1, h2, this]
      · have e : a = b := by
          apply UInt8.toNat_inj.1
          rw [UInt8.lt_iff_toNat_lt] at h1 h2
          omega
        simp [e, ih]
theorem cmpL_eq : ∀ x y : List UInt8, Lib.compareBytes x y = 0 ↔ x = y
  | [], [] => by simp [Lib.compareBytes]
  | [], _ :: _ => by simp [Lib.compareBytes]
  | _ :: _, [] => by simp [Lib.compareBytes]
  | a :: x, b :: y => by
    have ih := cmpL_eq x y
    simp only [Lib.compareBytes, List.cons.injEq]
    by_cases h1 : a < b
    · have : a ≠ b := fun e => by subst e; rw [UInt8.lt_iff_toNat_lt] at h1; omega
      simp [h1, this]
    · by_cases h2 : b < a
      · have : a ≠ b := fun e => h1 (by subst e; exact h2)
        simp [h1, h2, this]
      · have e : a = b := by
          apply UInt8.toNat_inj.1
          rw [UInt8.lt_iff_toNat_lt] at h1 h2
          omega
        simp [e, ih]
theorem cmpS_lt (a b : ByteArray) : cmpS a b < 0 ↔ less a b = true := by rw [cmpS, less, ByteArray.toList_eq, ByteArray.toList_eq]; exact cmpL_lt _ _
theorem cmpS_eq (a b : ByteArray) : cmpS a b = 0 ↔ a = b := by
  rw [cmpS, cmpL_eq]
  exact ⟨fun h => toList_inj (by rw [ByteArray.toList_eq, ByteArray.toList_eq]; exact h), fun h => by rw [h]⟩

set_option maxHeartbeats 1000000 in
set_option maxRecDepth 100000 in
theorem compareString (a b : ByteArray) (w : World) : Calls Try.prog 124 #[.string a, .string b] w fun e w' => e = .returned (.int .i64 (cmpS a b)) ∧ w' = w := by
  go_enter Try.func124, Try.ntmps124
  go_wp2
  rw [run_callFunc_extern Try.func140 (by kernel_rfl) (by kernel_rfl) (by kernel_rfl) (e := Extern.BytealgCompare.compare) (by kernel_rfl), Lib.run_compareString]
  simp only [Result.andThen]
  rw [Oper.upon_value]
  go_wp2
  go_ret
  exact ⟨rfl, rfl⟩
theorem stringsCompare (a b : ByteArray) (w : World) : Calls Try.prog 110 #[.string a, .string b] w fun e w' => e = .returned (.int .i64 (cmpS a b)) ∧ w' = w := by
  go_enter Try.func110, Try.ntmps110
  go_wp2_with (go_at_call 124; refine (compareString _ _ _).mono ?_; rintro e w' ⟨rfl, rfl⟩)
  go_ret
  exact ⟨rfl, rfl⟩
theorem closeP (s nm : ByteArray) (a b : Int) (w : World) : Calls Try.prog 109 #[.agg #[.string s, .int .i64 a, .int .i64 b], .string nm] w fun e w' => e = .returned (.int .i64 (cmpS s nm)) ∧ Kept w w' := by
  go_enter Try.func109, Try.ntmps109
  go_wp2_with (go_at_call 110; refine (stringsCompare _ _ _).mono ?_; rintro e w' ⟨rfl, rfl⟩)
  go_ret
  exact ⟨rfl, (But.refl _ _ _).alloc _⟩

/-- The names rise. -/
def RiseP (ps : List PD) : Prop := ∀ (i j : Nat) (x y : PD), i < j → ps[i]? = some x → ps[j]? = some y → less x.1 y.1 = true
/-- How far a search has come. -/
def CuttingP (ps : List PD) (nm : ByteArray) (lo hi : Nat) : Prop := (∀ (t : Nat) (x : PD), t < lo → ps[t]? = some x → less x.1 nm = true) ∧ (∀ (t : Nat) (x : PD), hi ≤ t → ps[t]? = some x → less x.1 nm = false)

set_option maxHeartbeats 2000000 in
theorem searchP (ps : List PD) (nm : ByteArray) (v : Value) (w : World) (hv : PartsAt w v ps) (hr : RiseP ps) (hn : ps.length ≤ 1048576) :
    Calls Try.prog 108 #[v, .string nm, .func (.func 109) #[] #[]] w fun e w' => (∃ (k : Nat) (b : Bool), e = .returned (.tuple #[.int .i64 k, .bool b]) ∧ CuttingP ps nm k k ∧ k ≤ ps.length ∧ (b = true ↔ ∃ x, ps[k]? = some x ∧ x.1 = nm)) ∧ Kept w w' := by
  obtain ⟨ao, cap, hsl⟩ := row_nil hv
  subst hsl
  go_enter Try.func108, Try.ntmps108
  go_wp2
  go_loopw [9, 10] (fun a b wr => ∃ lo hi : Nat, a = .int .i64 lo ∧ b = .int .i64 hi ∧ lo ≤ hi ∧ hi ≤ ps.length ∧ CuttingP ps nm lo hi ∧ Kept w wr) (fun a b _ => (intOf b).toNat - (intOf a).toNat)
  case atStart => exact ⟨0, ps.length, rfl, rfl, by omega, by omega, ⟨fun t x h => by omega, fun t x h hx => by have := (List.getElem?_eq_some_iff.1 hx).1; omega⟩, But.refl _ _ _⟩
  case round =>
    obtain ⟨lo, hi, rfl, rfl, hlh, hhn, hcut, hkp⟩ := hrel
    have HC : Hid _ := hcut
    clear hcut
    by_cases hlt : lo < hi
    · obtain ⟨z, hz⟩ : ∃ z, ps[(lo + hi) / 2]? = some z := ⟨_, List.getElem?_eq_getElem (by omega)⟩
      obtain ⟨b, o, cap1, e, c0, c1, c2⟩ := parts_get (hv.kept hkp) hz
      cases e
      have HR : Hid _ := hr
      clear hr
      by_cases hyx : less z.1 nm = true
      · have hc : cmpS z.1 nm < 0 := (cmpS_lt _ _).2 hyx
        have HY : Hid _ := hyx
        clear hyx
        go_wp2_with (go_at_call 109; refine (closeP _ _ _ _ _).mono ?_; rintro e w' ⟨rfl, hk2⟩)
        refine ⟨⟨(lo + hi) / 2 + 1, hi, by go_num, rfl, by omega, hhn, ⟨fun t x ht hx => ?_, HC.out.2⟩, hkp.trans hk2⟩, by simp [intOf]; omega⟩
        by_cases e : t = (lo + hi) / 2
        · subst e; rw [hz] at hx; cases hx; exact HY.out
        · exact less_trans (HR.out t _ x z (by omega : t < (lo + hi) / 2) hx hz) HY.out
      · have hc : decide (cmpS z.1 nm < 0) = false := by rw [decide_eq_false_iff_not, cmpS_lt]; exact hyx
        have hyf : less z.1 nm = false := by simpa using hyx
        have HY : Hid (less z.1 nm = false) := hyf
        clear hyf
        clear hyx
        go_wp2_with (go_at_call 109; refine (closeP _ _ _ _ _).mono ?_; rintro e w' ⟨rfl, hk2⟩)
        refine ⟨⟨lo, (lo + hi) / 2, rfl, by go_num, by omega, by omega, ⟨HC.out.1, fun t x ht hx => ?_⟩, hkp.trans hk2⟩, by simp [intOf]; omega⟩
        by_cases e : t = (lo + hi) / 2
        · subst e; rw [hz] at hx; cases hx; exact HY.out
        · have h1 := HR.out _ t z x (by omega : (lo + hi) / 2 < t) hz hx
          cases h2 : less x.1 nm with
          | false => rfl
          | true => exact absurd (less_trans h1 h2) (by rw [HY.out]; simp)
    · obtain rfl : hi = lo := by omega
      by_cases hln : hi < ps.length
      · obtain ⟨z, hz⟩ : ∃ z, ps[hi]? = some z := ⟨_, List.getElem?_eq_getElem hln⟩
        obtain ⟨b, o, cap1, e, c0, c1, c2⟩ := parts_get (hv.kept hkp) hz
        cases e
        by_cases hye : z.1 = nm
        · have hc : (cmpS z.1 nm == 0) = true := by rw [beq_iff_eq, cmpS_eq]; exact hye
          have HE : Hid _ := hye
          clear hye
          go_wp2_with (go_at_call 109; refine (closeP _ _ _ _ _).mono ?_; rintro e w' ⟨rfl, hk2⟩)
          go_ret2
          exact ⟨⟨hi, true, by rw [← hc]; rfl, HC.out, hhn, by simp [hz, HE.out]⟩, hkp.trans hk2⟩
        · have hc : (cmpS z.1 nm == 0) = false := by rw [beq_eq_false_iff_ne, Ne, cmpS_eq]; exact hye
          have HE : Hid _ := hye
          clear hye
          go_wp2_with (go_at_call 109; refine (closeP _ _ _ _ _).mono ?_; rintro e w' ⟨rfl, hk2⟩)
          go_ret2
          exact ⟨⟨hi, false, by rw [← hc]; rfl, HC.out, hhn, by simp [hz]; exact HE.out⟩, hkp.trans hk2⟩
      · have hd : decide ((hi : Int) < (ps.length : Int)) = false := by simp; omega
        go_wp2
        go_ret2
        refine ⟨⟨hi, false, rfl, HC.out, hhn, ?_⟩, hkp⟩
        simp only [Bool.false_eq_true, false_iff]
        rintro ⟨x, hx, _⟩
        exact hln (List.getElem?_eq_some_iff.1 hx).1

theorem findP (ps : List PD) (nm : ByteArray) (v : Value) (w : World) (hv : PartsAt w v ps) (hr : RiseP ps) (hn : ps.length ≤ 1048576) :
    Calls Try.prog 78 #[v, .string nm] w fun e w' => (∃ (k : Nat) (b : Bool), e = .returned (.tuple #[.int .i64 k, .bool b]) ∧ CuttingP ps nm k k ∧ k ≤ ps.length ∧ (b = true ↔ ∃ x, ps[k]? = some x ∧ x.1 = nm)) ∧ Kept w w' := by
  obtain ⟨ao, cap, hsl⟩ := row_nil hv
  subst hsl
  go_enter Try.func78, Try.ntmps78
  go_wp2_with (go_at_call 108; refine (searchP ps nm _ _ hv hr hn).mono ?_; rintro e w' ⟨⟨k, b, rfl, h1, h2, h3⟩, hk2⟩)
  go_ret2
  exact ⟨⟨k, b, rfl, h1, h2, h3⟩, hk2⟩
theorem findP_yes (ps : List PD) (nm : ByteArray) (k : Nat) (z : PD) (hz : ps[k]? = some z) (he : z.1 = nm) (v : Value) (w : World) (hv : PartsAt w v ps) (hr : RiseP ps) (hn : ps.length ≤ 1048576) :
    Calls Try.prog 78 #[v, .string nm] w fun e w' => e = .returned (.tuple #[.int .i64 k, .bool true]) ∧ Kept w w' := by
  refine (findP ps nm v w hv hr hn).mono ?_
  rintro e w' ⟨⟨k', b, rfl, h1, h2, h3⟩, hk⟩
  obtain rfl : k' = k := by
    rcases Nat.lt_trichotomy k' k with h | h | h
    · have hx : k' < ps.length := by have := (List.getElem?_eq_some_iff.1 hz).1; omega
      have h4 := h1.2 k' _ (Nat.le_refl _) (List.getElem?_eq_getElem hx)
      have h5 := hr k' k _ z h (List.getElem?_eq_getElem hx) hz
      rw [he, h4] at h5
      cases h5
    · exact h
    · have := h1.1 k z h hz
      rw [he, less_irr] at this
      cases this
  have : b = true := h3.2 ⟨z, hz, he⟩
  subst this
  exact ⟨rfl, hk⟩
theorem findP_no (ps : List PD) (nm : ByteArray) (hno : ∀ z ∈ ps, z.1 ≠ nm) (v : Value) (w : World) (hv : PartsAt w v ps) (hr : RiseP ps) (hn : ps.length ≤ 1048576) :
    Calls Try.prog 78 #[v, .string nm] w fun e w' => (∃ k : Nat, e = .returned (.tuple #[.int .i64 k, .bool false]) ∧ CuttingP ps nm k k ∧ k ≤ ps.length) ∧ Kept w w' := by
  refine (findP ps nm v w hv hr hn).mono ?_
  rintro e w' ⟨⟨k', b, rfl, h1, h2, h3⟩, hk⟩
  cases b with
  | false => exact ⟨⟨k', rfl, h1, h2⟩, hk⟩
  | true =>
    obtain ⟨x, hx, he⟩ := h3.1 rfl
    exact absurd he (hno x (List.mem_of_getElem? hx))

set_option maxHeartbeats 2000000 in
/-- The first part of that name, or -1. -/
theorem l3Part (nm : ByteArray) (ps : List PD) (a : Int) (v : Value) (w : World) (hv : PartsAt w v ps) (hn : ps.length ≤ 1048576) (r : Int) (hr : (∃ (k : Nat) (z : PD), ps[k]? = some z ∧ z.1 = nm ∧ (∀ (j : Nat) (y : PD), j < k → ps[j]? = some y → y.1 ≠ nm) ∧ r = (k : Nat)) ∨ ((∀ z ∈ ps, z.1 ≠ nm) ∧ r = -1)) :
    Calls Try.prog 58 #[.agg #[.int .i64 a, v], .string nm] w fun e w' => e = .returned (.int .i64 r) ∧ Kept w w' := by
  obtain ⟨ao, cap, hsl⟩ := row_nil hv
  subst hsl
  have HR : Hid _ := hr
  clear hr
  go_enter Try.func58, Try.ntmps58
  go_wp2
  go_loopw [10] (fun i wr => ∃ k : Nat, k ≤ ps.length ∧ i = .int .i64 k ∧ (∀ (j : Nat) (y : PD), j < k → ps[j]? = some y → y.1 ≠ nm) ∧ Kept w wr) (fun i _ => ps.length - (intOf i).toNat)
  case atStart => exact ⟨0, by omega, rfl, fun j y h => by omega, (But.refl _ _ _).alloc _⟩
  case round =>
    obtain ⟨k, hk, rfl, hno, hkp⟩ := hrel
    have HN : Hid (∀ (j : Nat) (y : PD), j < k → ps[j]? = some y → y.1 ≠ nm) := hno
    clear hno
    by_cases hlt : k < ps.length
    · obtain ⟨z, hz⟩ : ∃ z, ps[k]? = some z := ⟨_, List.getElem?_eq_getElem hlt⟩
      obtain ⟨b', o, cap1, e, c0, c1, c2⟩ := parts_get (hv.kept hkp) hz
      cases e
      cases he : (z.1.toList == nm.toList) with
      | true =>
        go_wp2
        go_ret
        refine ⟨?_, hkp.alloc _⟩
        have he' : z.1 = nm := toList_inj (by simpa using he)
        rcases HR.out with ⟨k', z', hz', hid', hfirst, rfl⟩ | ⟨hall, _⟩
        · obtain rfl : k' = k := by
            rcases Nat.lt_trichotomy k' k with h | h | h
            · exact absurd hid' (HN.out k' z' h hz')
            · exact h
            · exact absurd he' (hfirst k z h hz)
          rfl
        · exact absurd he' (hall z (List.mem_of_getElem? hz))
      | false =>
        go_wp2
        refine ⟨⟨k + 1, hlt, by go_num, fun j y hj hy => ?_, hkp.alloc _⟩, by simp [intOf]; omega⟩
        by_cases e : j = k
        · subst e
          rw [hz] at hy
          cases hy
          intro e2
          rw [e2] at he
          simp at he
        · exact HN.out j y (by omega) hy
    · have hke : k = ps.length := by omega
      subst hke
      go_wp2
      go_ret
      refine ⟨?_, hkp⟩
      rcases HR.out with ⟨k', z', hz', hid', hfirst, rfl⟩ | ⟨hall, rfl⟩
      · exact absurd hid' (HN.out k' z' (List.getElem?_eq_some_iff.1 hz').1 hz')
      · rfl
end Go.Proofs.Ytajelalimiobeaa
