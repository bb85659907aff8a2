/-
  What a choice is worth: in the program.
-/
import Derived.Test.YtjpceimaggcncaaMulAll
import Derived.Test.YtjpceimaggcncaaChoice
import Derived.Test.YtjpceimaggcncaaAct
namespace Go.Proofs.Ytjpceimaggcncaa
open Go.ChangeShapes Go.WideShapes Go.ChangeAt Go.RowKit Plain
set_option maxRecDepth 100000
set_option linter.unusedVariables false

theorem kept_of_grown {W w : World} (h : Grown W w) : Kept W w := ⟨h.1.1, h.1.2.1, h.2.2, fun b hb _ => gblock h b hb⟩

def unitB (s : Int) : Bool := decide (0 ≤ s) && decide (s ≤ 65536)
def wrun : Int → List Int → Option Int
  | a, [] => some a
  | a, s :: r => if unitB s = true then wrun (mulM a s) r else none
theorem wrun_snoc (a : Int) (l : List Int) (s : Int) : wrun a (l ++ [s]) = (wrun a l).bind fun t => if unitB s = true then some (mulM t s) else none := by
  induction l generalizing a with
  | nil => simp [wrun]
  | cons x r ih =>
    simp only [List.cons_append, wrun]
    split
    · exact ih _
    · rfl
theorem wrun_none (a : Int) (l r : List Int) (h : wrun a l = none) : wrun a (l ++ r) = none := by
  induction l generalizing a with
  | nil => simp [wrun] at h
  | cons x t ih =>
    simp only [List.cons_append, wrun] at h ⊢
    split
    · rename_i hu
      rw [if_pos hu] at h
      exact ih _ h
    · rfl
theorem mulM_bd (a b : Int) : -1099511627776 ≤ mulM a b ∧ mulM a b ≤ 1099511627776 := by
  unfold mulM nearM cutM
  repeat' split
  all_goals omega
theorem wrun_bd {a : Int} {l : List Int} {r : Int} (h : wrun a l = some r) (h0 : -1099511627776 ≤ a ∧ a ≤ 1099511627776) : -1099511627776 ≤ r ∧ r ≤ 1099511627776 := by
  induction l generalizing a with
  | nil => simp [wrun] at h; omega
  | cons x t ih =>
    simp only [wrun] at h
    split at h
    · exact ih h (mulM_bd _ _)
    · cases h
def worth (p : ChoiceD) : Option Int := if nameB p.1 = true ∧ 1 ≤ p.2.1.length ∧ p.2.1.length ≤ 8 ∧ -65536 ≤ p.2.2 ∧ p.2.2 ≤ 65536 then (wrun 65536 p.2.1).map (· + p.2.2) else none

theorem cloW (a s : Int) (w : World) : Calls Try.prog 89 #[.int .i64 a, .int .i64 s] w fun e w' => e = .returned (.tuple #[.int .i64 (mulM a s), .bool (unitB s)]) ∧ Kept w w' := by
  go_enter Try.func89, Try.ntmps89
  go_wp2_with (go_at_call 90; refine (imul_any _ _ _).mono ?_; rintro e w1 ⟨rfl, rfl⟩)
  all_goals
    refine bodyPost_ret (v := .tuple #[.int .i64 (mulM a s), .bool (unitB s)]) (by simp_all [results, Try.results89, go_sem, unitB] <;> omega) rfl ?_
    exact ⟨rfl, But.refl _ _ _⟩

def thrN (a : Int) (l : List Int) : Int × Bool := match wrun a l with | none => (0, false) | some r => (r, true)
theorem thrN_stop {a : Int} {l : List Int} {k : Nat} (h : wrun a (l.take k) = none) : thrN a l = (0, false) := by
  have := wrun_none a (l.take k) (l.drop k) h
  rw [List.take_append_drop] at this
  simp [thrN, this]
theorem thrN_end {a : Int} {l : List Int} {r : Int} (h : wrun a l = some r) : thrN a l = (r, true) := by simp [thrN, h]

set_option maxHeartbeats 2000000 in
theorem throughN (a : Int) (ns : List Int) (v : Value) (w : World) (hv : NumAt w v ns) (hl : ns.length ≤ 1048576) :
    Calls Try.prog 88 #[v, .int .i64 a, .func (.func 89) #[] #[]] w fun e w' => e = .returned (.tuple #[.int .i64 (thrN a ns).1, .bool (thrN a ns).2]) ∧ Kept w w' := by
  obtain ⟨ao, cap, hsl⟩ := row_nil hv
  subst hsl
  go_enter Try.func88, Try.ntmps88
  go_wp2
  go_loopw [1, 15] (fun x i wr => ∃ (k : Nat) (t : Int), k ≤ ns.length ∧ x = .int .i64 t ∧ i = .int .i64 k ∧ wrun a (ns.take k) = some t ∧ Kept w wr) (fun _ i _ => ns.length - (intOf i).toNat)
  case atStart => exact ⟨0, a, by omega, rfl, rfl, by simp [wrun], But.refl _ _ _⟩
  case round =>
    obtain ⟨k, t, hk, rfl, rfl, hr, hkp⟩ := hrel
    have HR : Hid (wrun a (ns.take k) = some t) := hr
    clear hr
    by_cases hlt : k < ns.length
    · obtain ⟨s, hi⟩ : ∃ i, ns[k]? = some i := ⟨_, List.getElem?_eq_getElem hlt⟩
      obtain ⟨b, o, cap1, e, e0⟩ := num_get (hv.kept hkp) hi
      cases e
      have HN : Hid (wrun a (ns.take (k + 1)) = if unitB s = true then some (mulM t s) else none) := by
        show wrun a (ns.take (k + 1)) = _
        rw [take_snoc hi, wrun_snoc, HR.out]
        rfl
      cases hu : unitB s
      · go_wp2_with (go_at_call 89; refine (cloW _ _ _).mono ?_; rw [hu]; rintro e w1 ⟨rfl, k1⟩)
        have hN := HN.out
        rw [hu] at hN
        rw [thrN_stop hN]
        refine bodyPost_ret (v := .tuple #[.int .i64 0, .bool false]) (by simp [results, Try.results88, go_sem]) rfl ?_
        exact ⟨rfl, hkp.trans k1⟩
      · go_wp2_with (go_at_call 89; refine (cloW _ _ _).mono ?_; rw [hu]; rintro e w1 ⟨rfl, k1⟩)
        have hN := HN.out
        rw [hu] at hN
        exact ⟨⟨k + 1, mulM t s, hlt, rfl, by go_num, hN, hkp.trans k1⟩, by simp [intOf]; omega⟩
    · have hke : k = ns.length := by omega
      subst hke
      have hr := HR.out
      rw [List.take_length] at hr
      have HE : Hid _ := thrN_end hr
      clear hr HR
      go_wp2
      rw [HE.out]
      refine bodyPost_ret (v := .tuple #[.int .i64 t, .bool true]) (by simp [results, Try.results88, go_sem]) rfl ?_
      exact ⟨rfl, hkp⟩

theorem iworth_no (nm : ByteArray) (v : Value) (ns : List Int) (be : Int) (w : World) (hv : NumAt w v ns) (hl : ns.length ≤ 1048576) (hs : nm.size ≤ 1048576)
    (h : ¬ (nameB nm = true ∧ 1 ≤ ns.length ∧ ns.length ≤ 8 ∧ -65536 ≤ be ∧ be ≤ 65536)) :
    Calls Try.prog 65 #[.agg #[.string nm, v, .int .i64 be]] w fun e w' => e = .returned (.tuple #[.int .i64 0, .bool false]) ∧ Kept w w' := by
  obtain ⟨ao, cap, hsl⟩ := row_nil hv
  subst hsl
  cases hn : nameB nm
  · skip
    go_enter Try.func65, Try.ntmps65
    go_wp2_with (first | (go_at_call 59; refine (iname _ _ hs).mono ?_; rw [hn]; rintro e w' ⟨rfl, rfl⟩))
    refine bodyPost_ret (v := .tuple #[.int .i64 0, .bool false]) (by simp [results, Try.results65, go_sem]) rfl ?_
    exact ⟨rfl, (But.refl _ _ _).alloc _⟩
  by_cases h1 : (ns.length : Int) < 1
  · have d1 : decide ((ns.length : Int) < 1) = true := by simpa using h1
    go_enter Try.func65, Try.ntmps65
    go_wp2_with (first | (go_at_call 59; refine (iname _ _ hs).mono ?_; rw [hn]; rintro e w' ⟨rfl, rfl⟩))
    refine bodyPost_ret (v := .tuple #[.int .i64 0, .bool false]) (by simp [results, Try.results65, go_sem]) rfl ?_
    exact ⟨rfl, (But.refl _ _ _).alloc _⟩
  have d1 : decide ((ns.length : Int) < 1) = false := by simpa using h1
  by_cases h2 : (8 : Int) < (ns.length : Int)
  · have d2 : decide ((8 : Int) < (ns.length : Int)) = true := by simpa using h2
    go_enter Try.func65, Try.ntmps65
    go_wp2_with (first | (go_at_call 59; refine (iname _ _ hs).mono ?_; rw [hn]; rintro e w' ⟨rfl, rfl⟩))
    refine bodyPost_ret (v := .tuple #[.int .i64 0, .bool false]) (by simp [results, Try.results65, go_sem]) rfl ?_
    exact ⟨rfl, (But.refl _ _ _).alloc _⟩
  have d2 : decide ((8 : Int) < (ns.length : Int)) = false := by simpa using h2
  by_cases h3 : be < -65536
  · have d3 : decide (be < -65536) = true := by simpa using h3
    go_enter Try.func65, Try.ntmps65
    go_wp2_with (first | (go_at_call 59; refine (iname _ _ hs).mono ?_; rw [hn]; rintro e w' ⟨rfl, rfl⟩))
    refine bodyPost_ret (v := .tuple #[.int .i64 0, .bool false]) (by simp [results, Try.results65, go_sem]) rfl ?_
    exact ⟨rfl, (But.refl _ _ _).alloc _⟩
  have d3 : decide (be < -65536) = false := by simpa using h3
  by_cases h4 : 65536 < be
  · have d4 : decide (65536 < be) = true := by simpa using h4
    go_enter Try.func65, Try.ntmps65
    go_wp2_with (first | (go_at_call 59; refine (iname _ _ hs).mono ?_; rw [hn]; rintro e w' ⟨rfl, rfl⟩))
    refine bodyPost_ret (v := .tuple #[.int .i64 0, .bool false]) (by simp [results, Try.results65, go_sem]) rfl ?_
    exact ⟨rfl, (But.refl _ _ _).alloc _⟩
  exact absurd ⟨hn, by omega, by omega, by omega, by omega⟩ h

set_option maxHeartbeats 2000000 in
theorem iworth_yes (nm : ByteArray) (v : Value) (ns : List Int) (be : Int) (w : World) (hv : NumAt w v ns) (hl : ns.length ≤ 1048576) (hs : nm.size ≤ 1048576)
    (h : nameB nm = true ∧ 1 ≤ ns.length ∧ ns.length ≤ 8 ∧ -65536 ≤ be ∧ be ≤ 65536) :
    Calls Try.prog 65 #[.agg #[.string nm, v, .int .i64 be]] w fun e w' => e = .returned (.tuple #[.int .i64 ((thrN 65536 ns).1 + be), .bool (thrN 65536 ns).2]) ∧ Kept w w' := by
  obtain ⟨ao, cap, hsl⟩ := row_nil hv
  subst hsl
  obtain ⟨hn, h1, h2, h3, h4⟩ := h
  have d1 : decide ((ns.length : Int) < 1) = false := by simp; omega
  have d2 : decide ((8 : Int) < (ns.length : Int)) = false := by simp; omega
  have d3 : decide (be < -65536) = false := by simp; omega
  have d4 : decide (65536 < be) = false := by simp; omega
  obtain ⟨⟨S, B⟩, hT⟩ : ∃ j, thrN 65536 ns = j := ⟨_, rfl⟩
  have hb : -1099511627776 ≤ S ∧ S ≤ 1099511627776 := by
    cases hw : wrun 65536 ns with
    | none => simp [thrN, hw] at hT; omega
    | some r =>
      have := wrun_bd hw (by omega)
      simp [thrN, hw] at hT
      omega
  have HT : Hid (thrN 65536 ns = (S, B)) := hT
  rw [hT]
  clear hT
  go_enter Try.func65, Try.ntmps65
  go_wp2_with (first | (go_at_call 59; refine (iname _ _ hs).mono ?_; rw [hn]; rintro e w' ⟨rfl, rfl⟩) | (go_at_call 88; refine (throughN 65536 ns _ _ (hv.kept ((But.refl _ _ _).alloc _)) hl).mono ?_; rw [HT.out]; rintro e w1 ⟨rfl, k1⟩; have L0 := (Loc.new w [.string nm, .slice ao ns.length cap, .int .i64 be] 95).kept k1; have a2 := L0.cell 2 rfl))
  refine bodyPost_ret (v := .tuple #[.int .i64 (S + be), .bool B]) (by simp [results, Try.results65, go_sem]) rfl ?_
  exact ⟨rfl, But.trans ((But.refl _ _ _).alloc _) k1⟩

theorem iworth (nm : ByteArray) (v : Value) (ns : List Int) (be : Int) (w : World) (hv : NumAt w v ns) (hl : ns.length ≤ 1048576) (hs : nm.size ≤ 1048576) :
    Calls Try.prog 65 #[.agg #[.string nm, v, .int .i64 be]] w fun e w' => (∃ (x : Int) (b : Bool), e = .returned (.tuple #[.int .i64 x, .bool b]) ∧ worth (nm, ns, be) = if b = true then some x else none) ∧ Kept w w' := by
  by_cases h : nameB nm = true ∧ 1 ≤ ns.length ∧ ns.length ≤ 8 ∧ -65536 ≤ be ∧ be ≤ 65536
  · refine (iworth_yes nm v ns be w hv hl hs h).mono fun e w' ⟨he, k⟩ => ⟨⟨_, _, he, ?_⟩, k⟩
    unfold worth
    rw [if_pos h]
    unfold thrN
    cases wrun 65536 ns <;> rfl
  · refine (iworth_no nm v ns be w hv hl hs h).mono fun e w' ⟨he, k⟩ => ⟨⟨_, _, he, ?_⟩, k⟩
    unfold worth
    rw [if_neg h]
    rfl
theorem worth_bd {p : ChoiceD} {x : Int} (h : worth p = some x) : -1099511693312 ≤ x ∧ x ≤ 1099511693312 := by
  unfold worth at h
  split at h
  · rename_i hp
    cases hw : wrun 65536 p.2.1 with
    | none => simp [hw] at h
    | some r =>
      have := wrun_bd hw (by omega)
      simp [hw] at h
      omega
  · cases h
end Go.Proofs.Ytjpceimaggcncaa
