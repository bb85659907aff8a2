/-
  What makes a face a good one, in the program.
-/
import Derived.Test.YthohgehhoogpnaaEdges8
namespace Go.Proofs.Ythohgehhoogpnaa
open Go.ChangeShapes Go.WideShapes Go.ChangeAt Go.RowKit

set_option maxRecDepth 100000
set_option linter.unusedVariables false
theorem one_of_take {f : List NumD} {k : Nat} {p : Int} : p ∉ f.take k ↔ ∀ (j : Nat) (q : Int), j < k → f[j]? = some q → p ≠ q := by
  constructor
  · intro h j q hj hq e
    subst e
    exact h (List.mem_of_getElem? (i := j) (by rw [List.getElem?_take, if_pos hj]; exact hq))
  · intro h hm
    obtain ⟨j, hj⟩ := List.mem_iff_getElem?.1 hm
    rw [List.getElem?_take] at hj
    split at hj
    · exact h j p (by assumption) hj rfl
    · cases hj
theorem once_of {pts : List Spot2D} {f : List NumD} (h : ∀ i, i < f.length → OneOk pts f i) : Once f := by
  intro i j p hi hj
  have li : i < f.length := (List.getElem?_eq_some_iff.1 hi).1
  have lj : j < f.length := (List.getElem?_eq_some_iff.1 hj).1
  rcases Nat.lt_trichotomy i j with h1 | h1 | h1
  · exact absurd rfl ((h j lj p hj).2 i p h1 hi)
  · exact h1
  · exact absurd rfl ((h i li p hi).2 j p h1 hj)

set_option maxHeartbeats 8000000 in
theorem iface (pts : List Spot2D) (f : List NumD) (pv v : Value) (w : World) (hp : Spot2At w pv pts) (lo hi : Nat) (ho : NumO w lo hi v f) (hpl : ∀ p ∈ pts, PlaceP p) (hn : f.length ≤ 1048576) (hm : pts.length ≤ 1048576) :
    Calls Try.prog 59 #[pv, v] w fun e w' => Says (FaceOk pts f) e ∧ Kept w w' := by
  obtain ⟨ao, cap, hsl, hcap⟩ := own_capN ho
  have hv := ho.at
  subst hsl
  obtain ⟨ap, cp, hsl⟩ := row_nil hp
  subst hsl
  by_cases h1 : (f.length : Int) < 3
  · have d1 : decide ((f.length : Int) < 3) = true := by simpa using h1
    go_enter Try.func59, Try.ntmps59
    go_wp2
    go_ret
    exact ⟨says_no (fun h => by have := h.1; omega), But.refl _ _ _⟩
  have d1 : decide ((f.length : Int) < 3) = false := by simpa using h1
  by_cases h2 : (8 : Int) < (f.length : Int)
  · have d2 : decide ((8 : Int) < (f.length : Int)) = true := by simpa using h2
    go_enter Try.func59, Try.ntmps59
    go_wp2
    go_ret
    exact ⟨says_no (fun h => by have := h.2.1; omega), But.refl _ _ _⟩
  have d2 : decide ((8 : Int) < (f.length : Int)) = false := by simpa using h2
  go_enter Try.func59, Try.ntmps59
  go_wp2
  clear d1 d2
  go_loopw [21] (fun i wr => ∃ k : Nat, k ≤ f.length ∧ i = .int .i64 k ∧ (∀ j, j < k → OneOk pts f j) ∧ Kept w wr) (fun i _ => f.length - (intOf i).toNat)
  case atStart => exact ⟨0, by omega, rfl, fun j hj => by omega, But.refl _ _ _⟩
  case round =>
    obtain ⟨k, hk, rfl, hok, hkp⟩ := hrel
    have HOK : Hid (∀ j, j < k → OneOk pts f j) := hok
    clear hok
    by_cases hlt : k < f.length
    · obtain ⟨p, hpk⟩ : ∃ p : Int, f[k]? = some p := ⟨_, List.getElem?_eq_getElem hlt⟩
      obtain ⟨b, o, cap1, e, c0⟩ := num_get (hv.kept hkp) hpk
      cases e
      have HT : Hid (NumAt wr (.slice (some ⟨b, o, none⟩) k cap) (f.take k)) := (hv.kept hkp).take rfl hk
      have HPK : Hid (f[k]? = some p) := hpk
      have HK : Hid (Kept w wr) := hkp
      have hkc : (k : Int) ≤ (cap : Int) := by omega
      have htl : (f.take k).length ≤ 1048576 := by rw [List.length_take]; omega
      have HTL : Hid _ := htl
      clear hpk hkp htl
      by_cases h0 : p < 0
      · have d0 : decide (p < 0) = true := by simpa using h0
        have H9 : Hid (p < 0) := h0
        repeat (first | go_values | go_skip | go_guarded | go_step | go_upon)
        go_ret
        exact ⟨says_no (fun h => by have := (h.2.2.1 k hlt p HPK.out).1; have := H9.out; omega), HK.out⟩
      have d0 : decide (p < 0) = false := by simpa using h0
      by_cases h9 : (pts.length : Int) ≤ p
      · have d9 : decide ((pts.length : Int) ≤ p) = true := by simpa using h9
        have H9 : Hid ((pts.length : Int) ≤ p) := h9
        repeat (first | go_values | go_skip | go_guarded | go_step | go_upon)
        go_ret
        exact ⟨says_no (fun h => by have := (h.2.2.1 k hlt p HPK.out).1; have := H9.out; omega), HK.out⟩
      have d9 : decide ((pts.length : Int) ≤ p) = false := by simpa using h9
      by_cases hm : p ∈ f.take k
      · have hd : decide (p ∈ f.take k) = true := by simpa using hm
        go_wp2_with (go_at_call 69; refine (icontains (f.take k) p _ _ HT.out HTL.out).mono ?_; rw [hd]; rintro e w1 ⟨rfl, k1⟩)
        go_ret
        refine ⟨says_no (fun h => ?_), HK.out.trans k1⟩
        exact one_of_take.2 (h.2.2.1 k hlt p HPK.out).2 hm
      · have hd : decide (p ∈ f.take k) = false := by simpa using hm
        go_wp2_with (go_at_call 69; refine (icontains (f.take k) p _ _ HT.out HTL.out).mono ?_; rw [hd]; rintro e w1 ⟨rfl, k1⟩)
        refine ⟨⟨k + 1, hlt, by go_num, fun j hj => ?_, HK.out.trans k1⟩, by simp [intOf]; omega⟩
        rcases Nat.lt_succ_iff_lt_or_eq.1 hj with hj | rfl
        · exact HOK.out j hj
        · intro z hz
          rw [HPK.out] at hz
          cases hz
          exact ⟨⟨by omega, by omega⟩, one_of_take.1 hm⟩
    · have hke : k = f.length := by omega
      subst hke
      have HK1 : Hid (Kept w wr) := hkp
      have HO1 : Hid (NumO wr lo hi (.slice ao f.length cap) f) := ho.kept hkp
      have h3 : 1 ≤ f.length := by omega
      clear hkp
      go_wp2_with (go_at_call 82; refine (iedgesE f _ _ lo hi HO1.out hn h3).mono ?_; rintro e w1 ⟨⟨ev, R, rfl, hed, hR⟩, k1⟩; obtain ⟨ea, ec, hef⟩ := hed.form; subst hef; have HED : Hid (EdAt w1 (.slice ea f.length ec) R f) := hed; clear hed)
      have pt : ∀ (i : Nat) (p : Int), f[i]? = some p → ∃ (j : Nat) (x y : Int), p = (j : Int) ∧ pts[j]? = some (x, y) ∧ PlaceP (x, y) ∧ ptAt pts f i = (x, y) := fun i p hpi => by
        have hil : i < f.length := (List.getElem?_eq_some_iff.1 hpi).1
        obtain ⟨h0, h1⟩ := ((HOK.out i hil) p hpi).1
        have hj : p.toNat < pts.length := by omega
        obtain ⟨s, hs⟩ : ∃ s, pts[p.toNat]? = some s := ⟨_, List.getElem?_eq_getElem hj⟩
        exact ⟨p.toNat, s.1, s.2, by omega, hs, hpl s (List.mem_of_getElem? hs), pt_of hpi hs⟩
      have HPT : Hid _ := pt
      have HON : Hid (Once f) := once_of HOK.out
      have HKA : Hid (Kept w w1) := HK1.out.trans k1
      clear pt k1 hlt
      go_loopw [45] (fun i wr => ∃ k : Nat, k ≤ f.length ∧ i = .int .i64 k ∧ (∀ j, j < k → ∀ m, m < f.length → TurnOk pts f j m) ∧ Kept w1 wr) (fun i _ => f.length - (intOf i).toNat)
      case atStart => exact ⟨0, by omega, rfl, fun j hj => by omega, But.refl _ _ _⟩
      case round =>
        obtain ⟨k, hk, rfl, hok, hkp⟩ := hrel
        have HTU : Hid (∀ j, j < k → ∀ m, m < f.length → TurnOk pts f j m) := hok
        clear hok
        by_cases hlt : k < f.length
        · obtain ⟨p, hpk⟩ : ∃ p : Int, f[k]? = some p := ⟨_, List.getElem?_eq_getElem hlt⟩
          obtain ⟨J, hJ⟩ : ∃ J, (k + 1) % f.length = J := ⟨_, rfl⟩
          have hJl : J < f.length := by rw [← hJ]; exact Nat.mod_lt _ (by omega)
          obtain ⟨pj, hpj⟩ : ∃ q, f[J]? = some q := ⟨_, List.getElem?_eq_getElem hJl⟩
          obtain ⟨i1, x1, y1, hp1, hs1, hP1, ht1⟩ := HPT.out k p hpk
          obtain ⟨i2, x2, y2, hp2, hs2, hP2, ht2⟩ := HPT.out J pj hpj
          subst hp1 hp2
          have hpj' : f[(k + 1) % f.length]? = some (i2 : Int) := by rw [hJ]; exact hpj
          obtain ⟨b, o, cap1, e, c0, r0, r1⟩ := (HED.out.kept hkp).get hlt hpk hpj'
          cases e
          have HEN : Hid (NumAt wr (.slice (some ⟨R, k, none⟩) 2 2) [(i1 : Int), (i2 : Int)]) := (HED.out.kept hkp).num hlt hpk hpj'
          have HK : Hid (Kept w1 wr) := hkp
          have HJ : Hid ((k + 1) % f.length = J) := hJ
          have HJJ : Hid (f[J]? = some (i2 : Int)) := hpj
          have HKK : Hid (f[k]? = some (i1 : Int)) := hpk
          clear hpk hJ hkp hpj hpj' r0 r1
          go_wp2
          clear c0
          go_loopw [51] (fun i wz => ∃ m : Nat, m ≤ f.length ∧ i = .int .i64 m ∧ (∀ j, j < m → TurnOk pts f k j) ∧ Kept w1 wz) (fun i _ => f.length - (intOf i).toNat)
          case atStart => exact ⟨0, by omega, rfl, fun j hj => by omega, HK.out⟩
          case round =>
            rename World => WZ
            obtain ⟨m, hm', rfl, hne, hkz⟩ := hrel
            have HNE : Hid (∀ j, j < m → TurnOk pts f k j) := hne
            clear hne
            have next : TurnOk pts f k m → ∀ j, j < m + 1 → TurnOk pts f k j := fun h j hj => by
              rcases Nat.lt_succ_iff_lt_or_eq.1 hj with hj | rfl
              · exact HNE.out j hj
              · exact h
            have HX : Hid _ := next
            clear next
            by_cases hmt : m < f.length
            · obtain ⟨q, hq⟩ : ∃ q, f[m]? = some q := ⟨_, List.getElem?_eq_getElem hmt⟩
              obtain ⟨i3, x3, y3, hp3, hs3, hP3, ht3⟩ := HPT.out m q hq
              subst hp3
              have KZ := HKA.out.trans hkz
              obtain ⟨b2, o2, cap2, e, c2⟩ := num_get (hv.kept KZ) hq
              cases e
              have hpj' : f[(k + 1) % f.length]? = some (i2 : Int) := by rw [HJ.out]; exact HJJ.out
              have HENZ : Hid (NumAt WZ (.slice (some ⟨R, k, none⟩) 2 2) [(i1 : Int), (i2 : Int)]) := (HED.out.kept hkz).num hlt HKK.out hpj'
              obtain ⟨b7, o7, cap7, e7, c7, r0, r1⟩ := (HED.out.kept hkz).get hlt HKK.out hpj'
              clear e7 c7
              have hin : (i3 : Int) ∈ [(i1 : Int), (i2 : Int)] ↔ m = k ∨ m = J := by
                constructor
                · intro h
                  rcases List.mem_cons.1 h with h | h
                  · exact .inl (HON.out m k _ hq (by rw [h]; exact HKK.out))
                  · rcases List.mem_cons.1 h with h | h
                    · exact .inr (HON.out m J _ hq (by rw [h]; exact HJJ.out))
                    · cases h
                · rintro (h | h)
                  · rw [h, HKK.out] at hq
                    cases hq
                    simp
                  · rw [h, HJJ.out] at hq
                    cases hq
                    simp
              have q2 := cell_ltG c2
              have q3 := cell_ltG r0
              have HKZ : Hid (Kept w1 WZ) := hkz
              by_cases hsame : m = k ∨ m = J
              · have dIn : decide ((i3 : Int) ∈ [(i1 : Int), (i2 : Int)]) = true := decide_eq_true (hin.2 hsame)
                have HTO : Hid (TurnOk pts f k m) := fun h1 h2 => by
                  rcases hsame with h | h
                  · exact absurd h h1
                  · exact absurd (h.trans HJ.out.symm) h2
                have HIN : decide ((i3 : Int) ∈ [(i1 : Int), (i2 : Int)]) = true := dIn
                have HCI : Hid (∀ x : KW WZ, Calls Try.prog 69 #[.slice (some ⟨R, k, none⟩) 2 2, .int .i64 (i3 : Int)] x.w fun e w' => e = .returned (.bool true) ∧ Kept x.w w') := fun x => calls_bool HIN (icontains _ _ _ _ (HENZ.out.kept x.k) (by simp))
                clear hs3 hP3 ht3 hq hin hsame hpj' hkz KZ dIn HIN
                repeat (first | go_values | go_skip | go_guarded | go_step | go_upon)
                refine wp_region_kept (by kernel_rfl) (by kernel_rfl) ?_
                have hcc := KW.cell_eq WZ
                repeat (go_big_quiet_step (first | (go_at_call 69; exact kw_call (HCI.out _)) | (go_at_call 76; exact kw_call (HCR.out _))))
                refine wpQuiet_nil ?_
                rintro w9 ⟨⟨w8, k9⟩, h9⟩
                change w9 = w8 at h9
                subst h9
                clear hcc
                repeat (first | go_values | go_skip | go_guarded | go_step | go_upon)
                exact ⟨⟨m + 1, hmt, by go_num, HX.out HTO.out, HKZ.out.trans k9⟩, by simp [intOf]; omega⟩
              · have HIN : decide ((i3 : Int) ∈ [(i1 : Int), (i2 : Int)]) = false := decide_eq_false (fun h => hsame (hin.1 h))
                have HCI : Hid (∀ x : KW WZ, Calls Try.prog 69 #[.slice (some ⟨R, k, none⟩) 2 2, .int .i64 (i3 : Int)] x.w fun e w' => e = .returned (.bool false) ∧ Kept x.w w') := fun x => calls_bool HIN (icontains _ _ _ _ (HENZ.out.kept x.k) (by simp))
                clear HIN
                obtain ⟨b3, o3, cap3, e, u0, u1⟩ := spot2_get (hp.kept KZ) hs1
                cases e
                obtain ⟨b4, o4, cap4, e, v0, v1⟩ := spot2_get (hp.kept KZ) hs2
                cases e
                obtain ⟨b5, o5, cap5, e, t0, t1⟩ := spot2_get (hp.kept KZ) hs3
                cases e
                dsimp only at u0 u1 v0 v1 t0 t1
                have l1 : (i1 : Int) < (pts.length : Int) := by have := (List.getElem?_eq_some_iff.1 hs1).1; omega
                have l2 : (i2 : Int) < (pts.length : Int) := by have := (List.getElem?_eq_some_iff.1 hs2).1; omega
                have l3 : (i3 : Int) < (pts.length : Int) := by have := (List.getElem?_eq_some_iff.1 hs3).1; omega
                obtain ⟨C, hC⟩ : ∃ C, cross (x1, y1) (x2, y2) (x3, y3) = C := ⟨_, rfl⟩
                have HC : Hid (TurnOk pts f k m ↔ 0 < C) := by
                  show TurnOk pts f k m ↔ _
                  unfold TurnOk
                  rw [HJ.out, ht1, ht2, ht3, hC]
                  exact ⟨fun h => h (fun h' => hsame (.inl h')) (fun h' => hsame (.inr h')), fun h _ _ => h⟩
                have HCR : Hid (∀ W, Calls Try.prog 76 #[.agg #[.int .i64 x1, .int .i64 y1], .agg #[.int .i64 x2, .int .i64 y2], .agg #[.int .i64 x3, .int .i64 y3]] W fun e w' => e = .returned (.int .i64 C) ∧ Kept W w') := fun W => by
                  have := iside x1 y1 x2 y2 x3 y3 W hP1 hP2 hP3
                  rw [hC] at this
                  exact this
                have q4 := cell_ltG u0
                clear hC hs1 hs2 hs3 ht1 ht2 ht3 hP1 hP2 hP3 hkz KZ hq hin hsame hpj'
                by_cases hc0 : C ≤ 0
                · have dc : decide (C ≤ 0) = true := by simpa using hc0
                  repeat (first | go_values | go_skip | go_guarded | go_step | go_upon)
                  refine wp_region_kept (by kernel_rfl) (by kernel_rfl) ?_
                  have hcc := KW.cell_eq WZ
                  repeat (go_big_quiet_step (first | (go_at_call 69; exact kw_call (HCI.out _)) | (go_at_call 76; exact kw_call (HCR.out _))))
                  refine wpQuiet_nil ?_
                  rintro w9 ⟨⟨w8, k9⟩, h9⟩
                  change w9 = w8 at h9
                  subst h9
                  clear hcc
                  repeat (first | go_values | go_skip | go_guarded | go_step | go_upon)
                  go_ret
                  exact ⟨says_no (fun h => by have := HC.out.1 (h.2.2.2 k hlt m hmt); omega), (HKA.out.trans HKZ.out).trans k9⟩
                · have dc : decide (C ≤ 0) = false := by simpa using hc0
                  repeat (first | go_values | go_skip | go_guarded | go_step | go_upon)
                  refine wp_region_kept (by kernel_rfl) (by kernel_rfl) ?_
                  have hcc := KW.cell_eq WZ
                  repeat (go_big_quiet_step (first | (go_at_call 69; exact kw_call (HCI.out _)) | (go_at_call 76; exact kw_call (HCR.out _))))
                  refine wpQuiet_nil ?_
                  rintro w9 ⟨⟨w8, k9⟩, h9⟩
                  change w9 = w8 at h9
                  subst h9
                  clear hcc
                  repeat (first | go_values | go_skip | go_guarded | go_step | go_upon)
                  exact ⟨⟨m + 1, hmt, by go_num, HX.out (HC.out.2 (by omega)), HKZ.out.trans k9⟩, by simp [intOf]; omega⟩
            · have hme : m = f.length := by omega
              subst hme
              go_wp2
              refine ⟨⟨k + 1, hlt, by go_num, fun j hj => ?_, hkz⟩, by simp [intOf]; omega⟩
              rcases Nat.lt_succ_iff_lt_or_eq.1 hj with hj | rfl
              · exact HTU.out j hj
              · exact HNE.out
        · have hke : k = f.length := by omega
          subst hke
          go_wp2
          go_ret
          exact ⟨says_yes ⟨by omega, by omega, HOK.out, HTU.out⟩, HKA.out.trans hkp⟩

end Go.Proofs.Ythohgehhoogpnaa
