/-
  The choice that is worth most: in the program.
-/
import Derived.Test.YtjpceimaggcncaaWorth
namespace Go.Proofs.Ytjpceimaggcncaa
open Go.ChangeShapes Go.WideShapes Go.ChangeAt Go.RowKit Plain
set_option maxRecDepth 100000
set_option linter.unusedVariables false

def stepB (k : Nat) (s : Option (Int × Int)) (x : Int) : Int × Int := match s with
  | none => ((k : Int), x)
  | some t => if t.2 < x then ((k : Int), x) else t
def runB : Nat → Option (Int × Int) → List ChoiceD → Option (Option (Int × Int))
  | _, s, [] => some s
  | k, s, c :: r => match worth c with
    | none => none
    | some x => runB (k + 1) (some (stepB k s x)) r
theorem runB_snoc (k : Nat) (s : Option (Int × Int)) (l : List ChoiceD) (c : ChoiceD) : runB k s (l ++ [c]) = (runB k s l).bind fun t => (worth c).map fun x => some (stepB (k + l.length) t x) := by
  induction l generalizing k s with
  | nil =>
    simp only [List.nil_append, runB, List.length_nil, Nat.add_zero, Option.bind_some]
    cases worth c <;> rfl
  | cons d r ih =>
    simp only [List.cons_append, runB]
    cases worth d with
    | none => rfl
    | some x =>
      dsimp only
      rw [ih]
      simp only [List.length_cons, Nat.add_assoc, Nat.add_comm 1]
theorem runB_none (k : Nat) (s : Option (Int × Int)) (l r : List ChoiceD) (h : runB k s l = none) : runB k s (l ++ r) = none := by
  induction l generalizing k s with
  | nil => simp [runB] at h
  | cons d t ih =>
    simp only [List.cons_append, runB] at h ⊢
    cases hw : worth d with
    | none => rfl
    | some x => rw [hw] at h; exact ih _ _ h
def bestA (cs : List ChoiceD) : Int × Bool := if 1 ≤ cs.length ∧ cs.length ≤ 12 then (match runB 0 none cs with | some (some t) => (t.1, true) | _ => (0, false)) else (0, false)
theorem bestA_no {cs : List ChoiceD} (h : ¬ (1 ≤ cs.length ∧ cs.length ≤ 12)) : bestA cs = (0, false) := by simp only [bestA, if_neg h]
theorem bestA_stop {cs : List ChoiceD} {k : Nat} (h : runB 0 none (cs.take k) = none) : bestA cs = (0, false) := by
  have := runB_none 0 none (cs.take k) (cs.drop k) h
  rw [List.take_append_drop] at this
  simp [bestA, this]
theorem bestA_end {cs : List ChoiceD} (hc : 1 ≤ cs.length ∧ cs.length ≤ 12) {t : Int × Int} (h : runB 0 none cs = some (some t)) : bestA cs = (t.1, true) := by
  simp [bestA, h, hc]

/-- What stands in the variables while the best is sought: a beginning m0 as long as there is none. -/
def Held (m0 : Int) (k : Nat) (s : Option (Int × Int)) (b m : Int) : Prop := match s with
  | none => k = 0 ∧ b = 0 ∧ m = m0
  | some t => 0 < k ∧ b = t.1 ∧ m = t.2

theorem held_step {m0 : Int} {k : Nat} {s : Option (Int × Int)} {b m x : Int} (h : Held m0 k s b m) (hx : k = 0 → m0 < x) : stepB k s x = if m < x then ((k : Int), x) else (b, m) := by
  cases s with
  | none =>
    obtain ⟨h1, h2, h3⟩ := h
    rw [if_pos (by rw [h3]; exact hx h1)]
    rfl
  | some t =>
    obtain ⟨h1, h2, h3⟩ := h
    subst h2 h3
    rfl
theorem held_next {m0 : Int} {k : Nat} {b m : Int} : Held m0 (k + 1) (some (b, m)) b m := ⟨by omega, rfl, rfl⟩
theorem held_end {m0 : Int} {cs : List ChoiceD} (hc : 1 ≤ cs.length ∧ cs.length ≤ 12) {s : Option (Int × Int)} {b m : Int} (hr : runB 0 none cs = some s) (h : Held m0 cs.length s b m) : bestA cs = (b, true) := by
  cases s with
  | none => have := h.1; omega
  | some t =>
    rw [bestA_end hc hr]
    rw [h.2.1]
theorem best_next {cs : List ChoiceD} {k : Nat} {c : ChoiceD} (hk : cs[k]? = some c) {s : Option (Int × Int)} (hr : runB 0 none (cs.take k) = some s) : runB 0 none (cs.take (k + 1)) = (worth c).map fun x => some (stepB k s x) := by
  have hkl : k < cs.length := (List.getElem?_eq_some_iff.1 hk).1
  rw [take_snoc hk, runB_snoc, hr]
  simp only [Option.bind_some, List.length_take, Nat.zero_add, Nat.min_eq_left (Nat.le_of_lt hkl)]

set_option maxHeartbeats 4000000 in
theorem iBest (ps : List ChoiceE) (v : Value) (w : World) (hv : ChoiceAt w v ps) (hn : ps.length ≤ 1048576) (hq : ∀ p ∈ ps, p.1.size ≤ 1048576 ∧ p.2.1.2.length ≤ 1048576) :
    Calls Try.prog 36 #[v] w fun e w' => e = .returned (.tuple #[.int .i64 (bestA (ps.map stripChoice)).1, .bool (bestA (ps.map stripChoice)).2]) ∧ Kept w w' := by
  obtain ⟨ao, cap, hsl⟩ := row_nil hv.1
  subst hsl
  by_cases hc : 1 ≤ ps.length ∧ ps.length ≤ 12
  · have d1 : decide ((ps.length : Int) < 1) = false := by simp; omega
    have d2 : decide ((12 : Int) < (ps.length : Int)) = false := by simp; omega
    obtain ⟨cs, hcs⟩ : ∃ cs, ps.map stripChoice = cs := ⟨_, rfl⟩
    have hcl : cs.length = ps.length := by rw [← hcs]; simp
    rw [hcs]
    go_enter Try.func36, Try.ntmps36
    go_wp2
    go_loopw [4, 5, 20] (fun bv mv i wr => ∃ (k : Nat) (b m : Int) (s : Option (Int × Int)), k ≤ ps.length ∧ bv = .int .i64 b ∧ mv = .int .i64 m ∧ i = .int .i64 k ∧ runB 0 none (cs.take k) = some s ∧ Held (-9223372036854775808) k s b m ∧ Kept w wr) (fun _ _ i _ => ps.length - (intOf i).toNat)
    case atStart => exact ⟨0, 0, _, none, by omega, rfl, rfl, rfl, by simp [runB], ⟨rfl, rfl, rfl⟩, But.refl _ _ _⟩
    case round =>
      obtain ⟨k, b, m, s, hk, rfl, rfl, rfl, hr, hh, hkp⟩ := hrel
      by_cases hlt : k < ps.length
      · obtain ⟨p, hp⟩ : ∃ p, ps[k]? = some p := ⟨_, List.getElem?_eq_getElem hlt⟩
        have hkc : cs[k]? = some (stripChoice p) := by rw [← hcs]; simp [hp]
        have HN : Hid _ := best_next hkc hr
        obtain ⟨g, o, cap', e, c0, c1, c2, hpa⟩ := choice_get (hv.kept hkp) hp
        cases e
        have hpq := hq p (List.mem_of_getElem? hp)
        have HH : Hid (Held (-9223372036854775808) k s b m) := hh
        have HK : Hid (Kept w wr) := hkp
        clear hr hh hkp hp hkc hcs
        obtain ⟨nm, ⟨sv, ns⟩, be⟩ := p
        dsimp only [stripChoice] at HN
        dsimp only at hpa hpq c0 c1 c2
        obtain ⟨ao3, cap3, hsl3⟩ := row_nil hpa
        subst hsl3
        have HP : Hid (NumAt wr (.slice ao3 ns.length cap3) ns) := hpa
        clear hpa
        go_wp2_with (go_at_call 65; refine (iworth nm _ ns be _ (HP.out.kept (by repeat (first | with_reducible exact But.refl _ _ _ | with_reducible apply But.alloc | (with_reducible refine But.setNew ?_ (by simp) _)))) hpq.2 hpq.1).mono ?_; rintro e w1 ⟨⟨x, bo, rfl, hw⟩, k1⟩; have HW : Hid (worth (nm, ns, be) = _) := hw; clear hw)
        · have hb : bo = false := by first | assumption | (have h9 : (!bo) = true := (by assumption); simpa using h9)
          have hW := HW.out
          rw [hb] at hW
          have hN := HN.out
          rw [show worth (nm, ns, be) = none from hW] at hN
          rw [bestA_stop (k := k + 1) hN]
          refine bodyPost_ret (v := .tuple #[.int .i64 0, .bool false]) (by simp [results, Try.results36, go_sem]) rfl ?_
          exact ⟨rfl, HK.out.trans (But.trans ((But.refl _ _ _).alloc _) k1)⟩
        · have hb : bo = true := by first | assumption | (have h9 : (!bo) = false := (by assumption); simpa using h9) | (have h9 : ¬ (!bo) = true := (by assumption); simpa using h9)
          have hm : m < x := by assumption
          have hW := HW.out
          rw [hb] at hW
          have hw : worth (nm, ns, be) = some x := hW
          have hN := HN.out
          rw [hw] at hN
          have hx := worth_bd hw
          have hs := held_step HH.out (x := x) (fun _ => by omega)
          rw [if_pos hm] at hs
          simp only [Option.map_some, hs] at hN
          exact ⟨⟨k + 1, _, _, _, hlt, rfl, rfl, by go_num, hN, held_next, HK.out.trans (But.trans ((But.refl _ _ _).alloc _) k1)⟩, by simp [intOf]; omega⟩
        · have hb : bo = true := by first | assumption | (have h9 : (!bo) = false := (by assumption); simpa using h9) | (have h9 : ¬ (!bo) = true := (by assumption); simpa using h9)
          have hm : x ≤ m := by assumption
          have hW := HW.out
          rw [hb] at hW
          have hw : worth (nm, ns, be) = some x := hW
          have hN := HN.out
          rw [hw] at hN
          have hx := worth_bd hw
          have hs := held_step HH.out (x := x) (fun _ => by omega)
          rw [if_neg (by omega)] at hs
          simp only [Option.map_some, hs] at hN
          exact ⟨⟨k + 1, _, _, _, hlt, rfl, rfl, by go_num, hN, held_next, HK.out.trans (But.trans ((But.refl _ _ _).alloc _) k1)⟩, by simp [intOf]; omega⟩
      · have hke : k = ps.length := by omega
        subst hke
        rw [← hcl, List.take_length] at hr
        rw [← hcl] at hh hc
        have HE : Hid _ := held_end hc hr hh
        clear hr hh
        go_wp2
        rw [HE.out]
        refine bodyPost_ret (v := .tuple #[.int .i64 b, .bool true]) (by simp [results, Try.results36, go_sem]) rfl ?_
        exact ⟨rfl, hkp⟩
  · rw [bestA_no (by simpa using hc)]
    by_cases h1 : (ps.length : Int) < 1
    · have d1 : decide ((ps.length : Int) < 1) = true := by simpa using h1
      go_enter Try.func36, Try.ntmps36
      go_wp2
      refine bodyPost_ret (v := .tuple #[.int .i64 0, .bool false]) (by simp [results, Try.results36, go_sem]) rfl ?_
      exact ⟨rfl, But.refl _ _ _⟩
    · have d1 : decide ((ps.length : Int) < 1) = false := by simpa using h1
      have d2 : decide ((12 : Int) < (ps.length : Int)) = true := by simp; omega
      go_enter Try.func36, Try.ntmps36
      go_wp2
      refine bodyPost_ret (v := .tuple #[.int .i64 0, .bool false]) (by simp [results, Try.results36, go_sem]) rfl ?_
      exact ⟨rfl, But.refl _ _ _⟩
end Go.Proofs.Ytjpceimaggcncaa
