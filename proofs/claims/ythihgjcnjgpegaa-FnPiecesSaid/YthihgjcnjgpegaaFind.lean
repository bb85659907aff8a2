/-
  Where a timer stands in a rising list.
-/
import Derived.Test.YthihgjcnjgpegaaGood0
namespace Go.Proofs.Ythihgjcnjgpegaa
open Go.ChangeShapes Go.WideShapes Go.ChangeAt Go.RowKit

set_option maxRecDepth 100000
/-- What cmp.Compare answers of two ints. -/
def cmpI (a b : Int) : Int := if a < b then -1 else if b < a then 1 else 0
theorem isNaN (a : Int) (w : World) : Calls Try.prog 84 #[.int .i64 a] w fun e w' => e = .returned (.bool false) ∧ w' = w := by
  go_enter Try.func84, Try.ntmps84
  go_wp2
  go_ret
  exact ⟨by simp, rfl⟩
theorem compareI (a b : Int) (w : World) : Calls Try.prog 70 #[.int .i64 a, .int .i64 b] w fun e w' => e = .returned (.int .i64 (cmpI a b)) ∧ w' = w := by
  go_enter Try.func70, Try.ntmps70
  go_wp2_with (go_at_call 84; refine (isNaN _ _).mono ?_; rintro e w' ⟨rfl, rfl⟩)
  all_goals
    go_ret
    exact ⟨ret_int (by simp [cmpI] at * <;> omega), rfl⟩
theorem compareIds (a b c d a' b' c' d' : Int) (w : World) : Calls Try.prog 45 #[.agg #[.int .i64 a, .int .i64 b, .int .i64 c, .int .i64 d], .agg #[.int .i64 a', .int .i64 b', .int .i64 c', .int .i64 d']] w fun e w' => e = .returned (.int .i64 (cmpI a a')) ∧ w' = (w.alloc (.cells #[.int .i64 a, .int .i64 b, .int .i64 c, .int .i64 d] 46)).alloc (.cells #[.int .i64 a', .int .i64 b', .int .i64 c', .int .i64 d'] 46) := by
  go_enter Try.func45, Try.ntmps45
  go_wp2_with (go_at_call 70; refine (compareI _ _ _).mono ?_; rintro e w' ⟨rfl, rfl⟩)
  go_ret
  exact ⟨rfl, rfl⟩
theorem compareIdsK (a b c d a' b' c' d' : Int) (w : World) : Calls Try.prog 45 #[.agg #[.int .i64 a, .int .i64 b, .int .i64 c, .int .i64 d], .agg #[.int .i64 a', .int .i64 b', .int .i64 c', .int .i64 d']] w fun e w' => e = .returned (.int .i64 (cmpI a a')) ∧ Kept w w' :=
  (compareIds a b c d a' b' c' d' w).mono fun _ _ ⟨he, hw⟩ => ⟨he, by rw [hw]; exact ((But.refl _ _ w).alloc _).alloc _⟩
theorem cmpI_lt {a b : Int} : decide (cmpI a b < 0) = decide (a < b) := by
  unfold cmpI
  split
  · simp [*]
  · split <;> simp [*]
theorem cmpI_eq {a b : Int} : (cmpI a b == 0) = (a == b) := by
  unfold cmpI
  split
  · rename_i h
    have : ¬ a = b := by omega
    simp [this]
  · split
    · rename_i h
      have : ¬ a = b := by omega
      simp [this]
    · have : a = b := by omega
      simp [this]

/-- i is the place of an Id in a rising list, or where it would stand. -/
def IsPos (l : List TimerD) (id : Int) (i : Nat) : Prop := i ≤ l.length ∧ (∀ (t : Nat) p, t < i → l[t]? = some p → p.1 < id) ∧ ∀ (t : Nat) p, i ≤ t → l[t]? = some p → id ≤ p.1
def Rising (l : List TimerD) : Prop := ∀ (i j : Nat) p q, i < j → l[i]? = some p → l[j]? = some q → p.1 < q.1
def hasId (l : List TimerD) (id : Int) (i : Nat) : Bool := match l[i]? with
  | some p => p.1 == id
  | none => false

set_option maxHeartbeats 4000000 in
theorem search (l : List TimerD) (id : Int) (v : Value) (w : World) (hv : TimerAt w v l) (hr : Rising l) (hn : l.length ≤ 1048576) :
    Calls Try.prog 72 #[v, .agg #[.int .i64 id, .int .i64 0, .int .i64 0, .int .i64 0], .func (.func 45) #[] #[]] w fun e w' => ∃ i : Nat, e = .returned (.tuple #[.int .i64 (i : Int), .bool (hasId l id i)]) ∧ IsPos l id i ∧ Kept w w' := by
  obtain ⟨ao, cap, hfm⟩ := row_nil hv
  subst hfm
  go_enter Try.func72, Try.ntmps72
  go_wp2
  go_loopw [9, 10, 11] (fun i j _ wr => ∃ a b : Nat, a ≤ b ∧ b ≤ l.length ∧ i = .int .i64 a ∧ j = .int .i64 b ∧ (∀ (t : Nat) p, t < a → l[t]? = some p → p.1 < id) ∧ (∀ (t : Nat) p, b ≤ t → l[t]? = some p → id ≤ p.1) ∧ Kept (w.alloc (.cells #[.int .i64 id, .int .i64 0, .int .i64 0, .int .i64 0] 46)) wr) (fun i j _ _ => (intOf j).toNat - (intOf i).toNat)
  case atStart => exact ⟨0, l.length, by omega, by omega, rfl, rfl, fun t p h => by omega, fun t p h h' => absurd (List.getElem?_eq_some_iff.1 h').1 (by omega), But.refl _ _ _⟩
  case round =>
    obtain ⟨a, b, hab, hbl, rfl, rfl, hlo, hhi, hkp⟩ := hrel
    have K0 : Kept w wr := ((But.refl _ _ w).alloc _).trans hkp
    have L0 := (Loc.new w [.int .i64 id, .int .i64 0, .int .i64 0, .int .i64 0] 46).kept hkp
    have t0 := L0.cell 0 rfl
    have t1 := L0.cell 1 rfl
    have t2 := L0.cell 2 rfl
    have t3 := L0.cell 3 rfl
    have hw0 := L0.lt
    have HLO : Hid _ := hlo
    have HHI : Hid _ := hhi
    have HKP : Hid _ := hkp
    clear hlo hhi hkp L0
    by_cases hlt : a < b
    · obtain ⟨m, hm⟩ : ∃ m, (a + b) / 2 = m := ⟨_, rfl⟩
      obtain ⟨⟨x, y, z, u⟩, hp⟩ : ∃ p, l[m]? = some p := ⟨_, List.getElem?_eq_getElem (by omega)⟩
      obtain ⟨g, o, cap1, ee, c0, c1, c2, c3⟩ := timer_get (hv.kept K0) hp
      cases ee
      dsimp only at c0 c1 c2 c3
      have HP : Hid _ := hp
      clear hp
      have hm' : ((a : Int) + (b : Int)) / 2 = (m : Int) := by omega
      have hgw : g < wr.heap.size := World.block_lt_of_cell? _ _ c0
      have hml : (m : Int) < (l.length : Int) := by omega
      by_cases hx : x < id
      · have hd : decide (cmpI x id < 0) = true := by rw [cmpI_lt]; simpa using hx
        repeat (first | go_values | go_skip | go_guarded | go_step | go_upon)
        refine wp_region_kept (by kernel_rfl) (by kernel_rfl) ?_
        have hcc := KW.cell_eq wr
        repeat (go_big_quiet_step (first | (go_at_call 45; with_reducible exact kw_call (compareIdsK x y z u id 0 0 0 _))))
        refine wpQuiet_nil ?_
        rintro _ ⟨⟨w5, k5⟩, rfl⟩
        clear hcc
        repeat (first | go_values | go_skip | go_guarded | go_step | go_upon)
        refine ⟨⟨m + 1, b, by omega, hbl, by go_num, rfl, fun t p ht hp => ?_, HHI.out, HKP.out.trans k5⟩, by simp [intOf]; omega⟩
        by_cases htm : t = m
        · subst htm
          have := HP.out
          rw [this] at hp
          cases hp
          exact hx
        · have := hr t m p _ (by omega) hp HP.out
          dsimp only at this
          omega
      · have hd : decide (cmpI x id < 0) = false := by rw [cmpI_lt]; simpa using hx
        repeat (first | go_values | go_skip | go_guarded | go_step | go_upon)
        refine wp_region_kept (by kernel_rfl) (by kernel_rfl) ?_
        have hcc := KW.cell_eq wr
        repeat (go_big_quiet_step (first | (go_at_call 45; with_reducible exact kw_call (compareIdsK x y z u id 0 0 0 _))))
        refine wpQuiet_nil ?_
        rintro _ ⟨⟨w5, k5⟩, rfl⟩
        clear hcc
        repeat (first | go_values | go_skip | go_guarded | go_step | go_upon)
        refine ⟨⟨a, m, by omega, by omega, rfl, by go_num, HLO.out, fun t p ht hp => ?_, HKP.out.trans k5⟩, by simp [intOf]; omega⟩
        by_cases htm : t = m
        · subst htm
          have := HP.out
          rw [this] at hp
          cases hp
          dsimp only
          omega
        · have := hr m t _ p (by omega) HP.out hp
          dsimp only at this
          omega
    · have hab' : a = b := by omega
      subst hab'
      by_cases hal : a < l.length
      · obtain ⟨⟨x, y, z, u⟩, hp⟩ : ∃ p, l[a]? = some p := ⟨_, List.getElem?_eq_getElem hal⟩
        obtain ⟨g, o, cap1, ee, c0, c1, c2, c3⟩ := timer_get (hv.kept K0) hp
        cases ee
        dsimp only at c0 c1 c2 c3
        have hgw : g < wr.heap.size := World.block_lt_of_cell? _ _ c0
        have hres : hasId l id a = (cmpI x id == 0) := by simp [hasId, hp, cmpI_eq]
        have HR : Hid _ := hres
        have HPOS : Hid (IsPos l id a) := ⟨hbl, HLO.out, HHI.out⟩
        have hal1 : decide ((a : Int) < (l.length : Int)) = true := by simpa using hal
        have hal2 : decide (a < l.length) = true := by simpa using hal
        clear hres hp hlt
        repeat (first | go_values | go_skip | go_guarded | go_step | go_upon)
        refine wp_region_kept (by kernel_rfl) (by kernel_rfl) ?_
        have hcc := KW.cell_eq wr
        repeat (go_big_quiet_step (first | (go_at_call 45; with_reducible exact kw_call (compareIdsK x y z u id 0 0 0 _))))
        refine wpQuiet_nil ?_
        rintro _ ⟨⟨w5, k5⟩, rfl⟩
        clear hcc
        repeat (first | go_values | go_skip | go_guarded | go_step | go_upon)
        refine bodyPost_ret (v := .tuple #[.int .i64 (a : Int), .bool (cmpI x id == 0)]) (by simp [results, Try.results72, go_sem]) rfl ?_
        exact ⟨a, by rw [HR.out], HPOS.out, K0.trans k5⟩
      · have hala : a = l.length := by omega
        have hres : hasId l id a = false := by simp [hasId, hala]
        have HR : Hid _ := hres
        have HPOS : Hid (IsPos l id a) := ⟨hbl, HLO.out, HHI.out⟩
        have hal1 : decide ((a : Int) < (l.length : Int)) = false := by simpa using hal
        have hal2 : decide (a < l.length) = false := by simpa using hal
        clear hres hlt hala
        repeat (first | go_values | go_skip | go_guarded | go_step | go_upon)
        refine wp_region_kept (by kernel_rfl) (by kernel_rfl) ?_
        have hcc := KW.cell_eq wr
        repeat (go_big_quiet_step (fail))
        refine wpQuiet_nil ?_
        rintro _ ⟨⟨w5, k5⟩, rfl⟩
        clear hcc
        repeat (first | go_values | go_skip | go_guarded | go_step | go_upon)
        refine bodyPost_ret (v := .tuple #[.int .i64 (a : Int), .bool false]) (by simp [results, Try.results72, go_sem]) rfl ?_
        exact ⟨a, by rw [HR.out], HPOS.out, K0.trans k5⟩

theorem findTimer (l : List TimerD) (id : Int) (v : Value) (w : World) (hv : TimerAt w v l) (hr : Rising l) (hn : l.length ≤ 1048576) :
    Calls Try.prog 53 #[v, .int .i64 id] w fun e w' => ∃ i : Nat, e = .returned (.tuple #[.int .i64 (i : Int), .bool (hasId l id i)]) ∧ IsPos l id i ∧ Kept w w' := by
  obtain ⟨ao, cap, hfm⟩ := row_nil hv
  subst hfm
  go_enter Try.func53, Try.ntmps53
  repeat (first | go_values | go_skip | go_guarded | go_step | go_upon)
  go_at_call 72
  refine (search l id _ _ hv hr hn).mono ?_
  rintro e w1 ⟨i, rfl, hp, k1⟩
  dsimp only
  repeat (first | go_values | go_skip | go_guarded | go_step | go_upon)
  refine bodyPost_ret (v := .tuple #[.int .i64 (i : Int), .bool (hasId l id i)]) (by simp [results, Try.results53, go_sem]) rfl ?_
  exact ⟨i, rfl, hp, k1⟩

end Go.Proofs.Ythihgjcnjgpegaa
