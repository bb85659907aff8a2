/-
  The leaves of the program: the side of a way on which a place lies, places, what a list holds.
-/
import Derived.Test.YthohgehhoogpnaaDoor8
namespace Go.Proofs.Ythohgehhoogpnaa
open Go.ChangeShapes Go.WideShapes Go.ChangeAt Go.RowKit

set_option maxRecDepth 100000
set_option linter.unusedVariables false
theorem dec_is {b : Bool} {p : Prop} [Decidable p] (h : b = true ↔ p) : b = decide p := by
  rw [Bool.eq_iff_iff, decide_eq_true_iff]
  exact h
theorem iside (ax ay bx bY cx cy : Int) (w : World) (ha : PlaceP (ax, ay)) (hb : PlaceP (bx, bY)) (hc : PlaceP (cx, cy)) :
    Calls Try.prog 76 #[.agg #[.int .i64 ax, .int .i64 ay], .agg #[.int .i64 bx, .int .i64 bY], .agg #[.int .i64 cx, .int .i64 cy]] w fun e w' => e = .returned (.int .i64 (cross (ax, ay) (bx, bY) (cx, cy))) ∧ Kept w w' := by
  obtain ⟨a1, a2, a3, a4⟩ := ha
  obtain ⟨b1, b2, b3, b4⟩ := hb
  obtain ⟨c1, c2, c3, c4⟩ := hc
  dsimp only at a1 a2 a3 a4 b1 b2 b3 b4 c1 c2 c3 c4
  have m1 := mul_bd2 (bx - ax) (cy - ay) (by omega) (by omega) (by omega) (by omega)
  have m2 := mul_bd2 (bY - ay) (cx - ax) (by omega) (by omega) (by omega) (by omega)
  go_enter Try.func76, Try.ntmps76
  go_wp2
  go_ret
  exact ⟨rfl, (((But.refl _ _ _).alloc _).alloc _).alloc _⟩
theorem ion (x y : Int) (w : World) : Calls Try.prog 80 #[.agg #[.int .i64 x, .int .i64 y]] w fun e w' => e = .returned (.bool (decide (PlaceP (x, y)))) ∧ Kept w w' := by
  go_enter Try.func80, Try.ntmps80
  go_wp2
  all_goals
    go_ret
    exact ⟨ret_boolG (dec_is (show _ ↔ (-1000 ≤ x ∧ x ≤ 1000 ∧ -1000 ≤ y ∧ y ≤ 1000) by simp <;> omega)), (But.refl _ _ _).alloc _⟩

/-- The first place of a in l, -1 where there is none. -/
def IdxIs {α : Type} (l : List α) (a : α) (r : Int) : Prop := (r = -1 ∧ a ∉ l) ∨ ∃ i : Nat, r = i ∧ l[i]? = some a ∧ ∀ j, j < i → l[j]? ≠ some a
theorem idx_none {α : Type} {l : List α} {a : α} (h : ∀ j, j < l.length → l[j]? ≠ some a) : IdxIs l a (-1) := .inl ⟨rfl, fun hm => by
  obtain ⟨i, hi⟩ := List.mem_iff_getElem?.1 hm
  exact h i (List.getElem?_eq_some_iff.1 hi).1 hi⟩
theorem idx_mem {α : Type} {l : List α} {a : α} {r : Int} (h : IdxIs l a r) : 0 ≤ r ↔ a ∈ l := by
  rcases h with ⟨rfl, h⟩ | ⟨i, rfl, hi, _⟩
  · simp [h]
  · exact ⟨fun _ => List.mem_of_getElem? hi, fun _ => by omega⟩
theorem idx_lt {α : Type} {l : List α} {a : α} {r : Int} (h : IdxIs l a r) (h0 : 0 ≤ r) : ∃ i : Nat, r = i ∧ i < l.length ∧ l[i]? = some a := by
  rcases h with ⟨rfl, h⟩ | ⟨i, rfl, hi, _⟩
  · omega
  · exact ⟨i, rfl, (List.getElem?_eq_some_iff.1 hi).1, hi⟩

set_option maxHeartbeats 2000000 in
theorem iindex (f : List NumD) (a : Int) (v : Value) (w : World) (hv : NumAt w v f) (hn : f.length ≤ 1048576) :
    Calls Try.prog 84 #[v, .int .i64 a] w fun e w' => (∃ r, e = .returned (.int .i64 r) ∧ IdxIs f a r) ∧ Kept w w' := by
  obtain ⟨ao, cap, hsl⟩ := row_nil hv
  subst hsl
  go_enter Try.func84, Try.ntmps84
  go_wp2
  go_loopw [8] (fun i wr => ∃ k : Nat, k ≤ f.length ∧ i = .int .i64 k ∧ (∀ j, j < k → f[j]? ≠ some a) ∧ Kept w wr) (fun i _ => f.length - (intOf i).toNat)
  case atStart => exact ⟨0, by omega, rfl, fun j hj => by omega, But.refl _ _ _⟩
  case round =>
    obtain ⟨k, hk, rfl, hno, hkp⟩ := hrel
    have HNO : Hid (∀ j, j < k → f[j]? ≠ some a) := hno
    clear hno
    by_cases hlt : k < f.length
    · obtain ⟨p, hp⟩ : ∃ p, f[k]? = some p := ⟨_, List.getElem?_eq_getElem hlt⟩
      obtain ⟨g, o, cap1, e, c0⟩ := num_get (hv.kept hkp) hp
      cases e
      have HP : Hid (f[k]? = some p) := hp
      have HK : Hid _ := hkp
      clear hp hkp
      by_cases ha : a = p
      · have da : (a == p) = true := by simpa using ha
        go_wp2
        go_ret
        exact ⟨⟨k, rfl, .inr ⟨k, rfl, by rw [ha]; exact HP.out, HNO.out⟩⟩, HK.out⟩
      · have da : (a == p) = false := by simpa using ha
        go_wp2
        refine ⟨⟨k + 1, hlt, by go_num, fun j hj => ?_, HK.out⟩, by simp [intOf]; omega⟩
        rcases Nat.lt_succ_iff_lt_or_eq.1 hj with hj | rfl
        · exact HNO.out j hj
        · rw [HP.out]
          intro h
          cases h
          exact ha rfl
    · have hke : k = f.length := by omega
      subst hke
      go_wp2
      go_ret
      exact ⟨⟨-1, rfl, idx_none HNO.out⟩, hkp⟩
theorem icontains (f : List NumD) (a : Int) (v : Value) (w : World) (hv : NumAt w v f) (hn : f.length ≤ 1048576) :
    Calls Try.prog 69 #[v, .int .i64 a] w fun e w' => e = .returned (.bool (decide (a ∈ f))) ∧ Kept w w' := by
  obtain ⟨ao, cap, hsl⟩ := row_nil hv
  subst hsl
  go_enter Try.func69, Try.ntmps69
  go_wp2_with (go_at_call 84; refine (iindex f a _ _ hv hn).mono ?_; rintro e w1 ⟨⟨r, rfl, hr⟩, k1⟩; have HR : Hid (IdxIs f a r) := hr; clear hr)
  all_goals
    go_ret
    exact ⟨ret_boolG (dec_is (by rw [← idx_mem HR.out]; simp)), k1⟩

theorem st29 : Try.prog.stoodInHeld 29 = false := by kernel_rfl
theorem eg29 : Try.prog.eqGuardType Try.prog.depth 29 = false := by kernel_rfl
theorem guard29 (op : BinOp) (x y : Operand) (xs ys : Array Value) (w : World) : (eqGuard op 29 x y (.agg xs) (.agg ys)).run Try.prog w = .ok () w := run_eqGuard_agg w op 29 x y xs ys eg29
theorem eq29 (a b a' b' : Int) (w : World) : (binOp .eql 29 (.agg #[.int .i64 a, .int .i64 b]) (.agg #[.int .i64 a', .int .i64 b'])).run Try.prog w = .ok (.bool (decide ((a, b) = (a', b')))) w := by
  rw [run_eql_struct, run_equalIn_struct w 9999 29 _ _ (by kernel_rfl) st29]
  simp [go_sem]
  repeat' split
  all_goals simp_all
set_option maxHeartbeats 4000000 in
theorem iindex2 (f : List Spot2D) (ax ay : Int) (v : Value) (w : World) (hv : Spot2At w v f) (hn : f.length ≤ 1048576) :
    Calls Try.prog 87 #[v, .agg #[.int .i64 ax, .int .i64 ay]] w fun e w' => (∃ r, e = .returned (.int .i64 r) ∧ IdxIs f (ax, ay) r) ∧ Kept w w' := by
  obtain ⟨ao, cap, hsl⟩ := row_nil hv
  subst hsl
  go_enter Try.func87, Try.ntmps87
  go_wp2
  obtain ⟨W0, hW0⟩ : ∃ W, W = w.alloc (.cells #[.int .i64 ax, .int .i64 ay] 29) := ⟨_, rfl⟩
  have K0 : Kept w W0 := by rw [hW0]; exact (But.refl _ _ _).alloc _
  have L0 : Loc W0 w.heap.size [.int .i64 ax, .int .i64 ay] := by rw [hW0]; exact Loc.new _ _ _
  rw [← hW0]
  clear hW0
  go_loopw [8] (fun i wr => ∃ k : Nat, k ≤ f.length ∧ i = .int .i64 k ∧ (∀ j, j < k → f[j]? ≠ some (ax, ay)) ∧ Kept W0 wr) (fun i _ => f.length - (intOf i).toNat)
  case atStart => exact ⟨0, by omega, rfl, fun j hj => by omega, But.refl _ _ _⟩
  case round =>
    obtain ⟨k, hk, rfl, hno, hkp⟩ := hrel
    have HNO : Hid (∀ j, j < k → f[j]? ≠ some (ax, ay)) := hno
    clear hno
    by_cases hlt : k < f.length
    · obtain ⟨⟨px, py⟩, hp⟩ : ∃ p, f[k]? = some p := ⟨_, List.getElem?_eq_getElem hlt⟩
      obtain ⟨g, o, cap1, e, c0, c1⟩ := spot2_get ((hv.kept K0).kept hkp) hp
      cases e
      dsimp only at c0 c1
      have HP : Hid (f[k]? = some (px, py)) := hp
      have l0 := (L0.kept hkp).cell 0 rfl
      have l1 := (L0.kept hkp).cell 1 rfl
      have HK : Hid (Kept W0 wr) := hkp
      clear hp hkp
      have q1 := cell_ltG l0
      have q2 := cell_ltG c0
      repeat (first | go_values | go_skip | go_guarded | go_step | go_upon)
      refine wp_region_kept (by kernel_rfl) (by kernel_rfl) ?_
      have hcc := KW.cell_eq wr
      repeat (go_big_quiet_step (fail))
      go_big_quiet_want
      refine quiet_val (.bool (decide ((ax, ay) = (px, py)))) (fun w' _ => ?_) ?_
      · simp [execOp, Act.eval, guard29, eq29]
      go_simp
      go_big_quiet_on
      repeat (go_big_quiet_step (fail))
      refine wpQuiet_nil ?_
      rintro w9 ⟨⟨w8, k9⟩, h9⟩
      change w9 = w8 at h9
      subst h9
      clear hcc
      by_cases ha : (ax, ay) = (px, py)
      · have da : (decide (ax = px) && decide (ay = py)) = true := by simpa using ha
        rw [da]
        repeat (first | go_values | go_skip | go_guarded | go_step | go_upon)
        go_ret
        exact ⟨⟨k, rfl, .inr ⟨k, rfl, by rw [ha]; exact HP.out, HNO.out⟩⟩, (K0.trans HK.out).trans k9⟩
      · have da : (decide (ax = px) && decide (ay = py)) = false := by rw [Bool.eq_false_iff]; intro h; exact ha (by simpa using h)
        rw [da]
        repeat (first | go_values | go_skip | go_guarded | go_step | go_upon)
        refine ⟨⟨k + 1, hlt, by go_num, fun j hj => ?_, HK.out.trans k9⟩, by simp [intOf]; omega⟩
        rcases Nat.lt_succ_iff_lt_or_eq.1 hj with hj | rfl
        · exact HNO.out j hj
        · rw [HP.out]
          intro h
          cases h
          exact ha rfl
    · have hke : k = f.length := by omega
      subst hke
      go_wp2
      go_ret
      exact ⟨⟨-1, rfl, idx_none HNO.out⟩, K0.trans hkp⟩
theorem icontains2 (f : List Spot2D) (ax ay : Int) (v : Value) (w : World) (hv : Spot2At w v f) (hn : f.length ≤ 1048576) :
    Calls Try.prog 81 #[v, .agg #[.int .i64 ax, .int .i64 ay]] w fun e w' => e = .returned (.bool (decide ((ax, ay) ∈ f))) ∧ Kept w w' := by
  obtain ⟨ao, cap, hsl⟩ := row_nil hv
  subst hsl
  go_enter Try.func81, Try.ntmps81
  go_wp2_with (go_at_call 87; refine (iindex2 f ax ay _ _ (hv.kept ((But.refl _ _ _).alloc _)) hn).mono ?_; rintro e w1 ⟨⟨r, rfl, hr⟩, k1⟩; have HR : Hid (IdxIs f (ax, ay) r) := hr; clear hr)
  all_goals
    go_ret
    exact ⟨ret_boolG (dec_is (by rw [← idx_mem HR.out]; simp)), ((But.refl _ _ _).alloc _).trans k1⟩

/-- No number stands twice. -/
def Once (f : List NumD) : Prop := ∀ (i j : Nat) (p : Int), f[i]? = some p → f[j]? = some p → i = j
theorem igoes (f : List NumD) (a b : Int) (v : Value) (w : World) (hv : NumAt w v f) (hn : f.length ≤ 1048576) (ho : Once f) :
    Calls Try.prog 83 #[v, .int .i64 a, .int .i64 b] w fun e w' => Says (∃ e, EdgeAt f a b e) e ∧ Kept w w' := by
  obtain ⟨ao, cap, hsl⟩ := row_nil hv
  subst hsl
  go_enter Try.func83, Try.ntmps83
  repeat (first | go_values | go_skip | go_guarded | go_step | go_upon)
  go_at_call 84
  refine (iindex f a _ _ hv hn).mono ?_
  rintro e w1 ⟨⟨r, rfl, hr⟩, k1⟩
  have hr' := hr
  rcases hr' with ⟨rfl, hno⟩ | ⟨i, rfl, hi, _⟩
  · have HNO : Hid (a ∉ f) := hno
    clear hno hr
    dsimp only
    go_wp2
    go_ret
    exact ⟨says_no (fun ⟨e, he, _⟩ => HNO.out (List.mem_of_getElem? he)), k1⟩
  · have hil : i < f.length := (List.getElem?_eq_some_iff.1 hi).1
    obtain ⟨J, hJ⟩ : ∃ J, (i + 1) % f.length = J := ⟨_, rfl⟩
    have hJl : J < f.length := by rw [← hJ]; exact Nat.mod_lt _ (by omega)
    obtain ⟨q, hq⟩ : ∃ q, f[J]? = some q := ⟨_, List.getElem?_eq_getElem hJl⟩
    obtain ⟨g', o', cap1', e, c1⟩ := num_get (hv.kept k1) hq
    cases e
    have hmod := mod_next i f.length hil
    rw [hJ] at hmod
    have z1 : (0 : Int) ≤ (J : Int) := by omega
    have z2 : (J : Int) < (f.length : Int) := by omega
    have z0 : ((f.length : Int) == 0) = false := beq_eq_false_iff_ne.2 (by omega)
    have HE : Hid ((∃ e, EdgeAt f a b e) ↔ q = b) := ⟨fun ⟨e, h1, h2⟩ => by
      have := ho i e a hi h1
      subst this
      rw [hJ, hq] at h2
      cases h2
      rfl, fun h => ⟨i, hi, by rw [hJ, hq, h]⟩⟩
    clear hi hq hJ hr
    dsimp only
    go_wp2
    all_goals
      go_ret
      refine ⟨⟨_, rfl, ?_⟩, k1⟩
      rw [HE.out]
      simp
theorem ihas (g : GroundD) (pv fv : Value) (k : Int) (w : World) (hF : LLAt w fv g.2) (hn : g.2.length ≤ 1048576) :
    Calls Try.prog 64 #[.agg #[pv, fv], .int .i64 k] w fun e w' => e = .returned (.bool (decide (0 ≤ k ∧ k < (g.2.length : Int)))) ∧ Kept w w' := by
  obtain ⟨af, cf, hsl⟩ := hF.form
  subst hsl
  go_enter Try.func64, Try.ntmps64
  go_wp2
  all_goals
    go_ret
    refine ⟨ret_boolG ?_, (But.refl _ _ _).alloc _⟩
    rw [Bool.eq_iff_iff]
    first | (simp; done) | (simp; omega)

end Go.Proofs.Ythohgehhoogpnaa
