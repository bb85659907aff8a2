/-
  What makes a face a good one, in the specification.
-/
import Derived.Test.YthohgehhoogpnaaLeaf8
import Derived.Test.YthohgehhoogpnaaQuiet
namespace Go.Proofs.Ythohgehhoogpnaa
open Go.ChangeShapes Go.WideShapes Go.ChangeAt Go.RowKit

set_option maxRecDepth 100000
set_option linter.unusedVariables false
/-- The point at a corner of a face. -/
def ptAt (pts : List Spot2D) (f : List NumD) (i : Nat) : Spot2D := (pts[(f.getD i 0).toNat]?).getD (0, 0)
def OneOk (pts : List Spot2D) (f : List NumD) (i : Nat) : Prop := ∀ p : Int, f[i]? = some p → (0 ≤ p ∧ p ≤ (pts.length : Int) - 1) ∧ ∀ (j : Nat) (q : Int), j < i → f[j]? = some q → p ≠ q
def TurnOk (pts : List Spot2D) (f : List NumD) (i m : Nat) : Prop := m ≠ i → m ≠ (i + 1) % f.length → 0 < cross (ptAt pts f i) (ptAt pts f ((i + 1) % f.length)) (ptAt pts f m)
def FaceOk (pts : List Spot2D) (f : List NumD) : Prop := 3 ≤ f.length ∧ f.length ≤ 8 ∧ (∀ i, i < f.length → OneOk pts f i) ∧ ∀ i, i < f.length → ∀ m, m < f.length → TurnOk pts f i m
theorem pt_of {pts : List Spot2D} {f : List NumD} {i : Nat} {p : NumD} {s : Spot2D} (hp : f[i]? = some p) (hs : pts[p.toNat]? = some s) : ptAt pts f i = s := by
  unfold ptAt
  rw [List.getD_eq_getElem?_getD, hp]
  show (pts[p.toNat]?).getD (0, 0) = s
  rw [hs]
  rfl

/-- A Boolean is answered that says whether P. -/
def Says (P : Prop) (e : Ending) : Prop := ∃ t, e = .returned (.bool t) ∧ (t = true ↔ P)
theorem says_no {P : Prop} (h : ¬ P) : Says P (.returned (.bool false)) := ⟨false, rfl, by simp [h]⟩
theorem says_yes {P : Prop} (h : P) : Says P (.returned (.bool true)) := ⟨true, rfl, by simp [h]⟩
theorem cell_ltG {w : World} {b o : Nat} {x : Value} (h : w.cell? ⟨b, o, none⟩ = some x) : b < w.heap.size := by
  rcases Nat.lt_or_ge b w.heap.size with k | k
  · exact k
  · simp [World.cell?, Array.getElem?_eq_none k] at h
theorem own_capN {w : World} {lo hi : Nat} {v : Value} {l : List NumD} (h : NumO w lo hi v l) : ∃ ao cap, v = .slice ao l.length cap ∧ l.length ≤ cap := by
  rcases h.1.2 with ⟨e1, e2⟩ | ⟨g, cap, cur, e, _, _, h1, _⟩
  · exact ⟨none, 0, by rw [e1, e2], by omega⟩
  · exact ⟨_, cap, e, h1⟩

set_option maxHeartbeats 8000000 in
theorem sface (pts : List Spot2D) (f : List NumD) (pv fv v : Value) (w : World) (hp : Spot2At w pv pts) (lo hi : Nat) (ho : NumO w lo hi v f) (hpl : ∀ p ∈ pts, PlaceP p) (hn : f.length ≤ 1048576) (hm : pts.length ≤ 1048576) :
    Calls Try.prog 54 #[.agg #[pv, fv], v] w fun e w' => Says (FaceOk pts f) e ∧ Kept w w' := by
  obtain ⟨ao, cap, hsl, hcap⟩ := own_capN ho
  have hv := ho.at
  subst hsl
  obtain ⟨ap, cp, hsl⟩ := row_nil hp
  subst hsl
  by_cases h1 : (f.length : Int) < 3
  · have d1 : decide ((f.length : Int) < 3) = true := by simpa using h1
    go_enter Try.func54, Try.ntmps54
    go_wp2
    go_ret
    exact ⟨says_no (fun h => by have := h.1; omega), (But.refl _ _ _).alloc _⟩
  have d1 : decide ((f.length : Int) < 3) = false := by simpa using h1
  by_cases h2 : (8 : Int) < (f.length : Int)
  · have d2 : decide ((8 : Int) < (f.length : Int)) = true := by simpa using h2
    go_enter Try.func54, Try.ntmps54
    go_wp2
    go_ret
    exact ⟨says_no (fun h => by have := h.2.1; omega), (But.refl _ _ _).alloc _⟩
  have d2 : decide ((8 : Int) < (f.length : Int)) = false := by simpa using h2
  go_enter Try.func54, Try.ntmps54
  go_wp2
  clear d1 d2
  obtain ⟨W0, hW0⟩ : ∃ W, W = w.alloc (.cells #[.slice ap pts.length cp, fv] 26) := ⟨_, rfl⟩
  have K0 : Kept w W0 := by rw [hW0]; exact (But.refl _ _ _).alloc _
  have g0 : W0.cell? ⟨w.heap.size, 0, none⟩ = some (.slice ap pts.length cp) := by rw [hW0]; simp [go_sem]
  rw [← hW0]
  clear hW0
  go_loopw [24] (fun i wr => ∃ k : Nat, k ≤ f.length ∧ i = .int .i64 k ∧ (∀ j, j < k → OneOk pts f j) ∧ Kept W0 wr) (fun i _ => f.length - (intOf i).toNat)
  case atStart => exact ⟨0, by omega, rfl, fun j hj => by omega, But.refl _ _ _⟩
  case round =>
    obtain ⟨k, hk, rfl, hok, hkp⟩ := hrel
    have HOK : Hid (∀ j, j < k → OneOk pts f j) := hok
    clear hok
    have g1 := Kept.cell hkp g0
    by_cases hlt : k < f.length
    · obtain ⟨p, hpk⟩ : ∃ p, f[k]? = some p := ⟨_, List.getElem?_eq_getElem hlt⟩
      obtain ⟨b, o, cap1, e, c0⟩ := num_get ((hv.kept K0).kept hkp) hpk
      cases e
      by_cases hin : 0 ≤ p ∧ p ≤ (pts.length : Int) - 1
      · have hd : decide (0 ≤ p ∧ p ≤ (pts.length : Int) - 1) = true := by simpa using hin
        have HT : Hid (NumAt wr (.slice (some ⟨b, o, none⟩) k cap) (f.take k)) := ((hv.kept K0).kept hkp).take rfl hk
        have HPK : Hid (f[k]? = some p) := hpk
        have HK : Hid (Kept W0 wr) := hkp
        have hkc : (k : Int) ≤ (cap : Int) := by omega
        clear hpk hkp
        go_wp2_with (go_at_call 62; refine (sInG _ _ _ _).mono ?_; rw [hd]; rintro e w' ⟨rfl, rfl⟩)
        go_loopw [40] (fun i wz => ∃ m : Nat, m ≤ k ∧ i = .int .i64 m ∧ (∀ j q, j < m → f[j]? = some q → p ≠ q) ∧ Kept W0 wz) (fun i _ => k - (intOf i).toNat)
        case atStart => exact ⟨0, by omega, rfl, fun j q hj => by omega, HK.out⟩
        case round =>
          obtain ⟨m, hm', rfl, hne, hkz⟩ := hrel
          have HNE : Hid (∀ j q, j < m → f[j]? = some q → p ≠ q) := hne
          clear hne
          by_cases hmt : m < k
          · obtain ⟨q, hq⟩ : ∃ q, f[m]? = some q := ⟨_, List.getElem?_eq_getElem (by omega)⟩
            obtain ⟨b2, o2, cap2, e, c2⟩ := num_get ((hv.kept K0).kept hkz) hq
            cases e
            have HQ : Hid (f[m]? = some q) := hq
            clear hq
            by_cases hpq : p = q
            · have dpq : (p == q) = true := by simpa using hpq
              go_wp2
              go_ret
              refine ⟨says_no (fun h => ?_), K0.trans hkz⟩
              exact (h.2.2.1 k hlt p HPK.out).2 m q hmt HQ.out hpq
            · have dpq : (p == q) = false := by simpa using hpq
              go_wp2
              refine ⟨⟨m + 1, hmt, by go_num, fun j z hj hz => ?_, hkz⟩, by simp [intOf]; omega⟩
              rcases Nat.lt_succ_iff_lt_or_eq.1 hj with hj | rfl
              · exact HNE.out j z hj hz
              · rw [HQ.out] at hz
                cases hz
                exact hpq
          · have hme : m = k := by omega
            subst hme
            go_wp2
            refine ⟨⟨m + 1, hlt, by go_num, fun j hj => ?_, hkz⟩, by simp [intOf]; omega⟩
            rcases Nat.lt_succ_iff_lt_or_eq.1 hj with hj | rfl
            · exact HOK.out j hj
            · intro z hz
              rw [HPK.out] at hz
              cases hz
              exact ⟨hin, HNE.out⟩
      · have hd : decide (0 ≤ p ∧ p ≤ (pts.length : Int) - 1) = false := by simpa using hin
        have HPK : Hid (f[k]? = some p) := hpk
        clear hpk
        go_wp2_with (go_at_call 62; refine (sInG _ _ _ _).mono ?_; rw [hd]; rintro e w' ⟨rfl, rfl⟩)
        go_ret
        exact ⟨says_no (fun h => hin (h.2.2.1 k hlt p HPK.out).1), K0.trans hkp⟩
    · have hke : k = f.length := by omega
      subst hke
      go_wp2
      have HK1 : Hid (Kept W0 wr) := hkp
      clear hkp g1 hlt
      have pt : ∀ (i : Nat) (p : Int), f[i]? = some p → ∃ (j : Nat) (x y : Int), p = (j : Int) ∧ pts[j]? = some (x, y) ∧ PlaceP (x, y) ∧ ptAt pts f i = (x, y) := fun i p hpi => by
        have hil : i < f.length := (List.getElem?_eq_some_iff.1 hpi).1
        obtain ⟨h0, h1⟩ := ((HOK.out i hil) p hpi).1
        have hj : p.toNat < pts.length := by omega
        obtain ⟨s, hs⟩ : ∃ s, pts[p.toNat]? = some s := ⟨_, List.getElem?_eq_getElem hj⟩
        exact ⟨p.toNat, s.1, s.2, by omega, hs, hpl s (List.mem_of_getElem? hs), pt_of hpi hs⟩
      have HPT : Hid _ := pt
      clear pt
      go_loopw [51] (fun i wr => ∃ k : Nat, k ≤ f.length ∧ i = .int .i64 k ∧ (∀ j, j < k → ∀ m, m < f.length → TurnOk pts f j m) ∧ Kept W0 wr) (fun i _ => f.length - (intOf i).toNat)
      case atStart => exact ⟨0, by omega, rfl, fun j hj => by omega, HK1.out⟩
      case round =>
        obtain ⟨k, hk, rfl, hok, hkp⟩ := hrel
        have HTU : Hid (∀ j, j < k → ∀ m, m < f.length → TurnOk pts f j m) := hok
        clear hok
        by_cases hlt : k < f.length
        · obtain ⟨p, hpk⟩ : ∃ p, f[k]? = some p := ⟨_, List.getElem?_eq_getElem hlt⟩
          obtain ⟨J, hJ⟩ : ∃ J, (k + 1) % f.length = J := ⟨_, rfl⟩
          have hJl : J < f.length := by rw [← hJ]; exact Nat.mod_lt _ (by omega)
          obtain ⟨pj, hpj⟩ : ∃ q, f[J]? = some q := ⟨_, List.getElem?_eq_getElem hJl⟩
          obtain ⟨i1, x1, y1, hp1, hs1, hP1, ht1⟩ := HPT.out k p hpk
          obtain ⟨i2, x2, y2, hp2, hs2, hP2, ht2⟩ := HPT.out J pj hpj
          subst hp1 hp2
          obtain ⟨b, o, cap1, e, c0⟩ := num_get ((hv.kept K0).kept hkp) hpk
          cases e
          have hmod := mod_next k f.length hlt
          rw [hJ] at hmod
          have z0 : ((f.length : Int) == 0) = false := beq_eq_false_iff_ne.2 (by omega)
          have HK : Hid (Kept W0 wr) := hkp
          have HJ : Hid ((k + 1) % f.length = J) := hJ
          have HJJ : Hid (f[J]? = some (i2 : Int)) := hpj
          clear hpk hJ hkp hpj
          go_wp2
          clear z0 hmod c0
          go_loopw [63] (fun i wz => ∃ m : Nat, m ≤ f.length ∧ i = .int .i64 m ∧ (∀ j, j < m → TurnOk pts f k j) ∧ Kept W0 wz) (fun i _ => f.length - (intOf i).toNat)
          case atStart => exact ⟨0, by omega, rfl, fun j hj => by omega, HK.out⟩
          case round =>
            rename World => WZ
            obtain ⟨m, hm', rfl, hne, hkz⟩ := hrel
            have HNE : Hid (∀ j, j < m → TurnOk pts f k j) := hne
            clear hne
            have next : TurnOk pts f k m → ∀ j, j < m + 1 → TurnOk pts f k j := fun h j hj => by
              rcases Nat.lt_succ_iff_lt_or_eq.1 hj with hj | rfl
              · exact HNE.out j hj
              · exact h
            have HX : Hid _ := next
            clear next
            by_cases hmt : m < f.length
            · obtain ⟨q, hq⟩ : ∃ q, f[m]? = some q := ⟨_, List.getElem?_eq_getElem hmt⟩
              obtain ⟨i3, x3, y3, hp3, hs3, hP3, ht3⟩ := HPT.out m q hq
              subst hp3
              obtain ⟨b2, o2, cap2, e, c2⟩ := num_get ((hv.kept K0).kept hkz) hq
              cases e
              clear hq
              by_cases hmk : m = k
              · subst hmk
                have HKZ : Hid (Kept W0 WZ) := hkz
                repeat (first | go_values | go_skip | go_guarded | go_step | go_upon)
                refine wp_region_kept (by kernel_rfl) (by kernel_rfl) ?_
                have hcc := KW.cell_eq WZ
                repeat (go_big_quiet_step (fail))
                refine wpQuiet_nil ?_
                rintro w9 ⟨⟨w8, k9⟩, h9⟩
                change w9 = w8 at h9
                subst h9
                clear hcc
                repeat (first | go_values | go_skip | go_guarded | go_step | go_upon)
                exact ⟨⟨m + 1, hmt, by go_num, HX.out (fun h => absurd rfl h), HKZ.out.trans k9⟩, by simp [intOf]; omega⟩
              by_cases hmJ : m = J
              · subst hmJ
                have dk : ((m : Int) == (k : Int)) = false := beq_eq_false_iff_ne.2 (by omega)
                have dk' : (m == k) = false := beq_eq_false_iff_ne.2 (by omega)
                have ek0 : decide (m = k) = false := decide_eq_false (by omega)
                have ek1 : ((m : Int) != (k : Int)) = true := bne_iff_ne.2 (by omega)
                have ek2 : (m != k) = true := bne_iff_ne.2 (by omega)
                have ek3 : decide ((m : Int) = (k : Int)) = false := decide_eq_false (by omega)
                have HKZ : Hid (Kept W0 WZ) := hkz
                repeat (first | go_values | go_skip | go_guarded | go_step | go_upon)
                refine wp_region_kept (by kernel_rfl) (by kernel_rfl) ?_
                have hcc := KW.cell_eq WZ
                repeat (go_big_quiet_step (fail))
                refine wpQuiet_nil ?_
                rintro w9 ⟨⟨w8, k9⟩, h9⟩
                change w9 = w8 at h9
                subst h9
                clear hcc
                repeat (first | go_values | go_skip | go_guarded | go_step | go_upon)
                exact ⟨⟨m + 1, hmt, by go_num, HX.out (fun _ h => absurd HJ.out.symm h), HKZ.out.trans k9⟩, by simp [intOf]; omega⟩
              · have dk : ((m : Int) == (k : Int)) = false := beq_eq_false_iff_ne.2 (by omega)
                have dj : ((m : Int) == (J : Int)) = false := beq_eq_false_iff_ne.2 (by omega)
                have g1 := Kept.cell hkz g0
                have KZ := K0.trans hkz
                obtain ⟨b3, o3, cap3, e, u0, u1⟩ := spot2_get (hp.kept KZ) hs1
                cases e
                obtain ⟨b4, o4, cap4, e, v0, v1⟩ := spot2_get (hp.kept KZ) hs2
                cases e
                obtain ⟨b5, o5, cap5, e, t0, t1⟩ := spot2_get (hp.kept KZ) hs3
                cases e
                obtain ⟨b6, o6, cap6, e, c6⟩ := num_get (hv.kept KZ) HJJ.out
                cases e
                dsimp only at u0 u1 v0 v1 t0 t1
                have l1 : (i1 : Int) < (pts.length : Int) := by have := (List.getElem?_eq_some_iff.1 hs1).1; omega
                have l2 : (i2 : Int) < (pts.length : Int) := by have := (List.getElem?_eq_some_iff.1 hs2).1; omega
                have l3 : (i3 : Int) < (pts.length : Int) := by have := (List.getElem?_eq_some_iff.1 hs3).1; omega
                obtain ⟨C, hC⟩ : ∃ C, cross (x1, y1) (x2, y2) (x3, y3) = C := ⟨_, rfl⟩
                have HC : Hid (TurnOk pts f k m ↔ 0 < C) := by
                  show TurnOk pts f k m ↔ _
                  unfold TurnOk
                  rw [HJ.out, ht1, ht2, ht3, hC]
                  exact ⟨fun h => h hmk hmJ, fun h _ _ => h⟩
                have HCR : Hid (∀ W, Calls Try.prog 49 #[.agg #[.int .i64 x1, .int .i64 y1], .agg #[.int .i64 x2, .int .i64 y2], .agg #[.int .i64 x3, .int .i64 y3]] W fun e w' => e = .returned (.int .i64 C) ∧ Kept W w') := fun W => by
                  have := scross x1 y1 x2 y2 x3 y3 W hP1 hP2 hP3
                  rw [hC] at this
                  exact this
                have HKZ : Hid _ := hkz
                clear hC hs1 hs2 hs3 ht1 ht2 ht3 hP1 hP2 hP3 hkz KZ
                have dk' : (m == k) = false := beq_eq_false_iff_ne.2 (by omega)
                have dj' : (m == J) = false := beq_eq_false_iff_ne.2 (by omega)
                have ek0 : decide (m = k) = false := decide_eq_false (by omega)
                have ek1 : ((m : Int) != (k : Int)) = true := bne_iff_ne.2 (by omega)
                have ek2 : (m != k) = true := bne_iff_ne.2 (by omega)
                have ek3 : decide ((m : Int) = (k : Int)) = false := decide_eq_false (by omega)
                have ej0 : decide (m = J) = false := decide_eq_false (by omega)
                have ej1 : ((m : Int) != (J : Int)) = true := bne_iff_ne.2 (by omega)
                have ej2 : (m != J) = true := bne_iff_ne.2 (by omega)
                have ej3 : decide ((m : Int) = (J : Int)) = false := decide_eq_false (by omega)
                have q1 := cell_ltG g1
                have q2 := cell_ltG c6
                have q3 := cell_ltG u0
                by_cases hc0 : C ≤ 0
                · have dc : decide (C ≤ 0) = true := by simpa using hc0
                  repeat (first | go_values | go_skip | go_guarded | go_step | go_upon)
                  refine wp_region_kept (by kernel_rfl) (by kernel_rfl) ?_
                  have hcc := KW.cell_eq WZ
                  repeat (go_big_quiet_step (first | (go_at_call 49; exact kw_call (HCR.out _))))
                  refine wpQuiet_nil ?_
                  rintro w9 ⟨⟨w8, k9⟩, h9⟩
                  change w9 = w8 at h9
                  subst h9
                  clear hcc
                  repeat (first | go_values | go_skip | go_guarded | go_step | go_upon)
                  go_ret
                  exact ⟨says_no (fun h => by have := HC.out.1 (h.2.2.2 k hlt m hmt); omega), (K0.trans HKZ.out).trans k9⟩
                · have dc : decide (C ≤ 0) = false := by simpa using hc0
                  repeat (first | go_values | go_skip | go_guarded | go_step | go_upon)
                  refine wp_region_kept (by kernel_rfl) (by kernel_rfl) ?_
                  have hcc := KW.cell_eq WZ
                  repeat (go_big_quiet_step (first | (go_at_call 49; exact kw_call (HCR.out _))))
                  refine wpQuiet_nil ?_
                  rintro w9 ⟨⟨w8, k9⟩, h9⟩
                  change w9 = w8 at h9
                  subst h9
                  clear hcc
                  repeat (first | go_values | go_skip | go_guarded | go_step | go_upon)
                  exact ⟨⟨m + 1, hmt, by go_num, HX.out (HC.out.2 (by omega)), HKZ.out.trans k9⟩, by simp [intOf]; omega⟩
            · have hme : m = f.length := by omega
              subst hme
              go_wp2
              refine ⟨⟨k + 1, hlt, by go_num, fun j hj => ?_, hkz⟩, by simp [intOf]; omega⟩
              rcases Nat.lt_succ_iff_lt_or_eq.1 hj with hj | rfl
              · exact HTU.out j hj
              · exact HNE.out
        · have hke : k = f.length := by omega
          subst hke
          go_wp2
          go_ret
          exact ⟨says_yes ⟨by omega, by omega, HOK.out, HTU.out⟩, K0.trans hkp⟩

end Go.Proofs.Ythohgehhoogpnaa
