/-
  The leaves of the specification of grounds: the side of a way on which a place lies, places, edges of faces.
-/
import Derived.Test.YthohgehhoogpnaaGround
namespace Go.Proofs.Ythohgehhoogpnaa
open Go.ChangeShapes Go.WideShapes Go.ChangeAt Go.RowKit

theorem row_takeN {w : World} {ao : Option Addr} {m cap : Nat} {l : List NumD} (h : RowAt w (.slice ao m cap) l.length (l.flatMap numC)) (i : Nat) : RowAt w (.slice ao i cap) i ((l.take i).flatMap numC) := by
  obtain ⟨ao', cap', e, hc⟩ := h
  cases e
  refine ⟨ao, cap, rfl, fun j x hx => hc j x ?_⟩
  have e1 : ∀ ys : List NumD, ys.flatMap numC = ys.map (Value.int .i64) := fun ys => by induction ys with
    | nil => rfl
    | cons y ys ih => simp [numC, ih]
  rw [e1] at hx ⊢
  rw [List.getElem?_map] at hx ⊢
  rw [List.getElem?_take] at hx
  split at hx
  · exact hx
  · simp at hx

set_option maxRecDepth 100000
set_option linter.unusedVariables false
theorem ret_boolG {a b : Bool} (h : a = b) : Ending.returned (.bool a) = .returned (.bool b) := by rw [h]
theorem sInG (n lo hi : Int) (w : World) : Calls Try.prog 62 #[.int .i64 n, .int .i64 lo, .int .i64 hi] w fun e w' => e = .returned (.bool (decide (lo ≤ n ∧ n ≤ hi))) ∧ w' = w := by
  go_enter Try.func62, Try.ntmps62
  go_wp2
  all_goals
    go_ret
    exact ⟨ret_boolG (by rw [Bool.eq_iff_iff]; simp <;> omega), rfl⟩

/-- On which side of the way from a to b the place c lies. -/
def cross (a b c : Spot2D) : Int := (b.1 - a.1) * (c.2 - a.2) - (b.2 - a.2) * (c.1 - a.1)
def PlaceP (p : Spot2D) : Prop := -1000 ≤ p.1 ∧ p.1 ≤ 1000 ∧ -1000 ≤ p.2 ∧ p.2 ≤ 1000
instance (p : Spot2D) : Decidable (PlaceP p) := inferInstanceAs (Decidable (_ ∧ _))
theorem mul_bd2 (x y : Int) (hx : -2000 ≤ x) (hx' : x ≤ 2000) (hy : -2000 ≤ y) (hy' : y ≤ 2000) : -4000000 ≤ x * y ∧ x * y ≤ 4000000 := by
  have h1 : (x + 2000) * (y + 2000) ≥ 0 := Int.mul_nonneg (by omega) (by omega)
  have h2 : (2000 - x) * (2000 - y) ≥ 0 := Int.mul_nonneg (by omega) (by omega)
  have h3 : (x + 2000) * (2000 - y) ≥ 0 := Int.mul_nonneg (by omega) (by omega)
  have h4 : (2000 - x) * (y + 2000) ≥ 0 := Int.mul_nonneg (by omega) (by omega)
  simp only [Int.mul_sub, Int.sub_mul, Int.mul_add, Int.add_mul] at h1 h2 h3 h4
  omega
theorem scross (ax ay bx bY cx cy : Int) (w : World) (ha : PlaceP (ax, ay)) (hb : PlaceP (bx, bY)) (hc : PlaceP (cx, cy)) :
    Calls Try.prog 49 #[.agg #[.int .i64 ax, .int .i64 ay], .agg #[.int .i64 bx, .int .i64 bY], .agg #[.int .i64 cx, .int .i64 cy]] w fun e w' => e = .returned (.int .i64 (cross (ax, ay) (bx, bY) (cx, cy))) ∧ Kept w w' := by
  obtain ⟨a1, a2, a3, a4⟩ := ha
  obtain ⟨b1, b2, b3, b4⟩ := hb
  obtain ⟨c1, c2, c3, c4⟩ := hc
  dsimp only at a1 a2 a3 a4 b1 b2 b3 b4 c1 c2 c3 c4
  have m1 := mul_bd2 (bx - ax) (cy - ay) (by omega) (by omega) (by omega) (by omega)
  have m2 := mul_bd2 (bY - ay) (cx - ax) (by omega) (by omega) (by omega) (by omega)
  go_enter Try.func49, Try.ntmps49
  go_wp2
  go_ret
  exact ⟨rfl, (((But.refl _ _ _).alloc _).alloc _).alloc _⟩
theorem splace (x y : Int) (w : World) : Calls Try.prog 47 #[.agg #[.int .i64 x, .int .i64 y]] w fun e w' => e = .returned (.bool (decide (PlaceP (x, y)))) ∧ Kept w w' := by
  by_cases hx : -1000 ≤ x ∧ x ≤ 1000
  · have dx : decide (-1000 ≤ x ∧ x ≤ 1000) = true := by simpa using hx
    go_enter Try.func47, Try.ntmps47
    go_wp2_with (go_at_call 62; refine (sInG _ _ _ _).mono ?_; rintro e w' ⟨rfl, rfl⟩)
    go_ret
    exact ⟨ret_boolG (by rw [Bool.eq_iff_iff, Bool.and_eq_true, decide_eq_true_iff, decide_eq_true_iff, decide_eq_true_iff]; show _ ↔ (-1000 ≤ x ∧ x ≤ 1000 ∧ -1000 ≤ y ∧ y ≤ 1000); omega), (But.refl _ _ _).alloc _⟩
  · have dx : decide (-1000 ≤ x ∧ x ≤ 1000) = false := by simpa using hx
    go_enter Try.func47, Try.ntmps47
    go_wp2_with (go_at_call 62; refine (sInG _ _ _ _).mono ?_; rw [dx]; rintro e w' ⟨rfl, rfl⟩)
    go_ret
    exact ⟨ret_boolG (decide_eq_false (fun h => hx ⟨h.1, h.2.1⟩)).symm, (But.refl _ _ _).alloc _⟩

theorem NumAt.take {w : World} {ao : Option Addr} {m cap : Nat} {l : List NumD} (h : NumAt w (.slice ao m cap) l) (hn : m = l.length) {i : Nat} (hi : i ≤ l.length) : NumAt w (.slice ao i cap) (l.take i) := by
  subst hn
  unfold NumAt
  rw [List.length_take, Nat.min_eq_left hi]
  exact row_takeN h i

/-- A face goes from a to b at its place i. -/
def EdgeAt (f : List NumD) (a b : Int) (i : Nat) : Prop := f[i]? = some a ∧ f[(i + 1) % f.length]? = some b
def EdgeIs (f : List NumD) (a b r : Int) : Prop := (r = -1 ∧ ∀ i, ¬ EdgeAt f a b i) ∨ ∃ i : Nat, r = i ∧ EdgeAt f a b i ∧ ∀ j, j < i → ¬ EdgeAt f a b j
theorem mod_next (k m : Nat) (h : k < m) : ((k : Int) + 1).tmod (m : Int) = (((k + 1) % m : Nat) : Int) := by
  rw [Int.tmod_eq_emod_of_nonneg (by omega), Int.natCast_emod]
  rfl

set_option maxHeartbeats 2000000 in
theorem sedge (f : List NumD) (a b : Int) (v : Value) (w : World) (hv : NumAt w v f) (hn : f.length ≤ 1048576) :
    Calls Try.prog 55 #[v, .int .i64 a, .int .i64 b] w fun e w' => (∃ r, e = .returned (.int .i64 r) ∧ EdgeIs f a b r) ∧ Kept w w' := by
  obtain ⟨ao, cap, hsl⟩ := row_nil hv
  subst hsl
  go_enter Try.func55, Try.ntmps55
  go_wp2
  go_loopw [11] (fun i wr => ∃ k : Nat, k ≤ f.length ∧ i = .int .i64 k ∧ (∀ j, j < k → ¬ EdgeAt f a b j) ∧ Kept w wr) (fun i _ => f.length - (intOf i).toNat)
  case atStart => exact ⟨0, by omega, rfl, fun j hj => by omega, But.refl _ _ _⟩
  case round =>
    obtain ⟨k, hk, rfl, hno, hkp⟩ := hrel
    have HNO : Hid (∀ j, j < k → ¬ EdgeAt f a b j) := hno
    clear hno
    by_cases hlt : k < f.length
    · obtain ⟨p, hp⟩ : ∃ p, f[k]? = some p := ⟨_, List.getElem?_eq_getElem hlt⟩
      obtain ⟨J, hJ⟩ : ∃ J, (k + 1) % f.length = J := ⟨_, rfl⟩
      have hJl : J < f.length := by rw [← hJ]; exact Nat.mod_lt _ (by omega)
      obtain ⟨q, hq⟩ : ∃ q, f[J]? = some q := ⟨_, List.getElem?_eq_getElem hJl⟩
      obtain ⟨g, o, cap1, e, c0⟩ := num_get (hv.kept hkp) hp
      cases e
      obtain ⟨g', o', cap1', e, c1⟩ := num_get (hv.kept hkp) hq
      cases e
      have hmod := mod_next k f.length hlt
      rw [hJ] at hmod
      have HE : Hid (EdgeAt f a b k ↔ p = a ∧ q = b) := by
        show EdgeAt f a b k ↔ _
        unfold EdgeAt
        rw [hJ, hp, hq]
        simp
      have z1 : (0 : Int) ≤ (J : Int) := by omega
      have z2 : (J : Int) < (f.length : Int) := by omega
      have z0 : (f.length : Int) ≠ 0 := by omega
      have HK : Hid _ := hkp
      clear hp hq hJ hkp
      by_cases ha : p = a
      · have da : (p == a) = true := by simpa using ha
        by_cases hb : q = b
        · have db : (q == b) = true := by simpa using hb
          go_wp2
          go_ret
          exact ⟨⟨k, rfl, .inr ⟨k, rfl, HE.out.2 ⟨ha, hb⟩, HNO.out⟩⟩, HK.out⟩
        · have db : (q == b) = false := by simpa using hb
          go_wp2
          refine ⟨⟨k + 1, hlt, by go_num, fun j hj => ?_, HK.out⟩, by simp [intOf]; omega⟩
          rcases Nat.lt_succ_iff_lt_or_eq.1 hj with hj | rfl
          · exact HNO.out j hj
          · exact fun he => hb (HE.out.1 he).2
      · have da : (p == a) = false := by simpa using ha
        go_wp2
        refine ⟨⟨k + 1, hlt, by go_num, fun j hj => ?_, HK.out⟩, by simp [intOf]; omega⟩
        rcases Nat.lt_succ_iff_lt_or_eq.1 hj with hj | rfl
        · exact HNO.out j hj
        · exact fun he => ha (HE.out.1 he).1
    · have hke : k = f.length := by omega
      subst hke
      go_wp2
      go_ret
      refine ⟨⟨-1, rfl, .inl ⟨rfl, fun i hi => ?_⟩⟩, hkp⟩
      have : i < f.length := (List.getElem?_eq_some_iff.1 hi.1).1
      exact HNO.out i this hi

end Go.Proofs.Ythohgehhoogpnaa
