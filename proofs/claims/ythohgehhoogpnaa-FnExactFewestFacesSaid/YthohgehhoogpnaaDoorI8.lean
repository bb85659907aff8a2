/-
  The door from a face to another one, in the program.
-/
import Derived.Test.YthohgehhoogpnaaGoodI8
namespace Go.Proofs.Ythohgehhoogpnaa
open Go.ChangeShapes Go.WideShapes Go.ChangeAt Go.RowKit

set_option maxRecDepth 100000
set_option linter.unusedVariables false
/-- A door in memory: nothing, or two numbers side by side in a row that is the call's own. -/
def DoorV (w : World) (lo : Nat) (v : Value) (d : List NumD) : Prop :=
  (v = .slice none 0 0 ∧ d = []) ∨ ∃ (R i n cap : Nat) (r : List NumD) (p q : Int), v = .slice (some ⟨R, i, none⟩) 2 2 ∧ lo ≤ R ∧ NumO w R (R + 1) (.slice (some ⟨R, 0, none⟩) n cap) r ∧ n = r.length ∧ r[i]? = some p ∧ r[i + 1]? = some q ∧ d = [p, q]
theorem DoorV.kept {w w' : World} {lo : Nat} {v : Value} {d : List NumD} (h : DoorV w lo v d) (k : Kept w w') : DoorV w' lo v d := by
  rcases h with h | ⟨R, i, n, cap, r, p, q, h1, h2, h3, h4⟩
  · exact .inl h
  · exact .inr ⟨R, i, n, cap, r, p, q, h1, h2, h3.kept k, h4⟩
theorem EdAt.door {w : World} {v : Value} {R : Nat} {f : List NumD} (h : EdAt w v R f) {i : Nat} (hi : i < f.length) {p q : Int} (hp : f[i]? = some p) (hq : f[(i + 1) % f.length]? = some q) : DoorV w R (.slice (some ⟨R, i, none⟩) 2 2) [p, q] := by
  obtain ⟨c, hR⟩ := h.rnd
  refine .inr ⟨R, i, f.length + 1, c, _, p, q, rfl, Nat.le_refl _, hR, by simp, ?_, ?_, rfl⟩
  · rw [List.getElem?_append_left hi]
    exact hp
  · by_cases hl : i + 1 < f.length
    · rw [List.getElem?_append_left hl]
      rw [Nat.mod_eq_of_lt hl] at hq
      exact hq
    · have hl' : i + 1 = f.length := by omega
      rw [List.getElem?_append_right (by omega), hl', Nat.sub_self]
      rw [hl', Nat.mod_self] at hq
      rw [List.getD_eq_getElem?_getD, hq]
      rfl
theorem DoorV.low {w : World} {lo lo' : Nat} {v : Value} {d : List NumD} (h : DoorV w lo v d) (hl : lo' ≤ lo) : DoorV w lo' v d := by
  rcases h with h | ⟨R, i, n, cap, r, p, q, h1, h2, h3⟩
  · exact .inl h
  · exact .inr ⟨R, i, n, cap, r, p, q, h1, Nat.le_trans hl h2, h3⟩

set_option maxHeartbeats 8000000 in
theorem idoor (f o : List NumD) (v ov : Value) (w : World) (lo hi : Nat) (ho : NumO w lo hi v f) (hO : NumAt w ov o) (h3 : 1 ≤ f.length) (hn : f.length ≤ 1048576) (hm : o.length ≤ 1048576) (hoo : Once o) :
    Calls Try.prog 70 #[v, ov] w fun e w' => (∃ v' d t, e = .returned (.tuple #[v', .bool t]) ∧ DoorV w' w.heap.size v' d ∧ DoorIs f o d t) ∧ Kept w w' := by
  have hv := ho.at
  obtain ⟨ao, cap, hsl⟩ := row_nil hv
  subst hsl
  obtain ⟨oa, oc, hsl⟩ := row_nil hO
  subst hsl
  have HED0 : Hid (Calls Try.prog 82 #[.slice ao f.length cap] w fun e w' => (∃ v' R, e = .returned v' ∧ EdAt w' v' R f ∧ w.heap.size ≤ R) ∧ Kept w w') := iedgesE f _ w lo hi ho hn h3
  clear ho
  go_enter Try.func70, Try.ntmps70
  repeat (first | go_values | go_skip | go_guarded | go_step | go_upon)
  refine HED0.out.mono ?_
  rintro e w1 ⟨⟨ev, R, rfl, hed, hR⟩, k1⟩
  obtain ⟨ea, ec, hef⟩ := hed.form
  subst hef
  have HED : Hid (EdAt w1 (.slice ea f.length ec) R f) := hed
  have HK1 : Hid (Kept w w1) := k1
  clear hed k1 HED0
  dsimp only
  repeat (first | go_values | go_skip | go_guarded | go_step | go_upon)
  go_loopw [11] (fun i wz => ∃ m : Nat, m ≤ f.length ∧ i = .int .i64 m ∧ (∀ j p' q', j < m → ¬ DoorAt f o j p' q') ∧ Kept w1 wz) (fun i _ => f.length - (intOf i).toNat)
  case atStart => exact ⟨0, by omega, rfl, fun j _ _ hj => by omega, But.refl _ _ _⟩
  case round =>
    rename World => WZ
    obtain ⟨m, hm', rfl, hne, hkz⟩ := hrel
    have HNE : Hid (∀ j p' q', j < m → ¬ DoorAt f o j p' q') := hne
    clear hne
    by_cases hmt : m < f.length
    · obtain ⟨a, ha⟩ : ∃ q : Int, f[m]? = some q := ⟨_, List.getElem?_eq_getElem hmt⟩
      obtain ⟨d, hd⟩ : ∃ q : Int, f[(m + 1) % f.length]? = some q := ⟨_, List.getElem?_eq_getElem (Nat.mod_lt _ (by omega))⟩
      obtain ⟨b2, o2, cap2, e, c2, r0, r1⟩ := (HED.out.kept hkz).get hmt ha hd
      cases e
      have KZ := HK1.out.trans hkz
      have HDV : Hid (DoorV WZ w.heap.size (.slice (some ⟨R, m, none⟩) 2 2) [a, d]) := ((HED.out.kept hkz).door hmt ha hd).low hR
      have HD : Hid (f[m]? = some a ∧ f[(m + 1) % f.length]? = some d) := ⟨ha, hd⟩
      have HGA : Hid (∀ x : KW WZ, Calls Try.prog 83 #[.slice oa o.length oc, .int .i64 d, .int .i64 a] x.w fun e w' => Says (∃ e, EdgeAt o d a e) e ∧ Kept x.w w') := fun x => igoes o d a _ _ ((hO.kept KZ).kept x.k) hm hoo
      have HKZ : Hid (Kept w1 WZ) := hkz
      have q2 := cell_ltG c2
      have q3 := cell_ltG r0
      clear ha hd hkz KZ
      by_cases hE : ∃ e, EdgeAt o d a e
      · have HGB : Hid (∀ x : KW WZ, Calls Try.prog 83 #[.slice oa o.length oc, .int .i64 d, .int .i64 a] x.w fun e w' => e = .returned (.bool true) ∧ Kept x.w w') := fun x => (HGA.out x).mono fun e w' ⟨hs, hk⟩ => ⟨says_true hE hs, hk⟩
        have HEE : Hid (∃ e, EdgeAt o d a e) := hE
        clear hE HGA
        repeat (first | go_values | go_skip | go_guarded | go_step | go_upon)
        refine wp_region_kept (by kernel_rfl) (by kernel_rfl) ?_
        have hcc := KW.cell_eq WZ
        repeat (go_big_quiet_step (first | (go_at_call 83; exact kw_call (HGB.out _))))
        refine wpQuiet_nil ?_
        rintro w9 ⟨⟨w8, k9⟩, h9⟩
        change w9 = w8 at h9
        subst h9
        clear hcc
        repeat (first | go_values | go_skip | go_guarded | go_step | go_upon)
        refine bodyPost_ret (v := .tuple #[.slice (some ⟨R, m, none⟩) 2 2, .bool true]) (by simp [results, Try.results70, go_sem]) rfl ?_
        exact ⟨⟨_, [a, d], true, rfl, HDV.out.kept k9, .inr ⟨rfl, m, a, d, ⟨HD.out.1, HD.out.2, HEE.out⟩, rfl, HNE.out⟩⟩, (HK1.out.trans HKZ.out).trans k9⟩
      · have HGB : Hid (∀ x : KW WZ, Calls Try.prog 83 #[.slice oa o.length oc, .int .i64 d, .int .i64 a] x.w fun e w' => e = .returned (.bool false) ∧ Kept x.w w') := fun x => (HGA.out x).mono fun e w' ⟨hs, hk⟩ => ⟨says_false hE hs, hk⟩
        have HEE : Hid (¬ ∃ e, EdgeAt o d a e) := hE
        clear hE HGA
        repeat (first | go_values | go_skip | go_guarded | go_step | go_upon)
        refine wp_region_kept (by kernel_rfl) (by kernel_rfl) ?_
        have hcc := KW.cell_eq WZ
        repeat (go_big_quiet_step (first | (go_at_call 83; exact kw_call (HGB.out _))))
        refine wpQuiet_nil ?_
        rintro w9 ⟨⟨w8, k9⟩, h9⟩
        change w9 = w8 at h9
        subst h9
        clear hcc
        repeat (first | go_values | go_skip | go_guarded | go_step | go_upon)
        refine ⟨⟨m + 1, hmt, by go_num, fun j p' q' hj h => ?_, HKZ.out.trans k9⟩, by simp [intOf]; omega⟩
        rcases Nat.lt_succ_iff_lt_or_eq.1 hj with hj | rfl
        · exact HNE.out j p' q' hj h
        · obtain ⟨h1, h2, h3⟩ := h
          rw [HD.out.1] at h1
          rw [HD.out.2] at h2
          cases h1
          cases h2
          exact HEE.out h3
    · have hme : m = f.length := by omega
      subst hme
      repeat (first | go_values | go_skip | go_guarded | go_step | go_upon)
      refine bodyPost_ret (v := .tuple #[.slice none 0 0, .bool false]) (by simp [results, Try.results70, go_sem]) rfl ?_
      refine ⟨⟨_, [], false, rfl, .inl ⟨rfl, rfl⟩, .inl ⟨rfl, rfl, fun i p q h => ?_⟩⟩, HK1.out.trans hkz⟩
      exact HNE.out i p q (List.getElem?_eq_some_iff.1 h.1).1 h

end Go.Proofs.Ythohgehhoogpnaa
