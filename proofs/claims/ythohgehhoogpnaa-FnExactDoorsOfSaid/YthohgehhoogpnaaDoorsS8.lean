/-
  The doors of a way of faces, in the specification.
-/
import Derived.Test.YthohgehhoogpnaaDoorsOf8
namespace Go.Proofs.Ythohgehhoogpnaa
open Go.ChangeShapes Go.WideShapes Go.ChangeAt Go.RowKit

set_option maxRecDepth 100000
set_option linter.unusedVariables false
set_option maxHeartbeats 8000000 in
theorem sdoors (g : GroundD) (ws : List NumD) (v sv : Value) (lo hi lo' hi' : Nat) (w : World) (ho : GroundO w lo hi v g) (hs : NumO w lo' hi' sv ws) (hm : g.1.length ≤ 1048576) (hn : g.2.length ≤ 1048576) (hl : ∀ f ∈ g.2, f.length ≤ 1048576) (hws : ws.length ≤ 1048576) :
    Calls Try.prog 46 #[v, sv] w (DoorsO g ws w) := by
  obtain ⟨ap, cp, af, cf, hfm⟩ := ho.at.form
  subst hfm
  obtain ⟨sa, sc, hsl, hsc⟩ := own_capN hs
  subst hsl
  have HG : Hid (∀ (u : World), Kept w u → Calls Try.prog 17 #[.agg #[.slice ap g.1.length cp, .slice af g.2.length cf]] u fun e u' => Says (GoodG g) e ∧ Kept u u') := fun u k => sgood g _ lo hi u (ho.kept k) hm hn hl
  obtain ⟨hP, hF⟩ := ho.at.parts
  have HF : Hid (LLAt w (.slice af g.2.length cf) g.2) := hF
  have HS : Hid (NumAt w (.slice sa ws.length sc) ws) := hs.at
  clear ho hP hF hs
  go_enter Try.func46, Try.ntmps46
  repeat (first | go_values | go_skip | go_guarded | go_step | go_upon)
  refine (HG.out _ (by exact ((But.refl _ _ w).alloc _))).mono ?_
  rintro e w1 ⟨hs, k1⟩
  have KA : Kept w w1 := ((But.refl _ _ w).alloc _).trans k1
  have La := (Loc.new w [.slice ap g.1.length cp, .slice af g.2.length cf] 26).kept k1
  by_cases hg : GoodG g
  · have he := says_true hg hs
    subst he
    have HGG : Hid (GoodG g) := hg
    clear hg hs
    dsimp only
    by_cases h1 : (ws.length : Int) < 1
    · have d1 : decide ((ws.length : Int) < 1) = true := by simpa using h1
      have H1 : Hid ((ws.length : Int) < 1) := h1
      repeat (first | go_values | go_skip | go_guarded | go_step | go_upon)
      refine bodyPost_ret (v := .tuple #[.slice none 0 0, .bool false]) (by simp [results, Try.results46, go_sem]) rfl ?_
      exact doorsO_no (fun h => by have := h.2.1; have := H1.out; omega) KA
    have d1 : decide ((ws.length : Int) < 1) = false := by simpa using h1
    by_cases h2 : (20 : Int) < (ws.length : Int)
    · have d2 : decide ((20 : Int) < (ws.length : Int)) = true := by simpa using h2
      have H1 : Hid ((20 : Int) < (ws.length : Int)) := h2
      repeat (first | go_values | go_skip | go_guarded | go_step | go_upon)
      refine bodyPost_ret (v := .tuple #[.slice none 0 0, .bool false]) (by simp [results, Try.results46, go_sem]) rfl ?_
      exact doorsO_no (fun h => by have := h.2.2.1; have := H1.out; omega) KA
    have d2 : decide ((20 : Int) < (ws.length : Int)) = false := by simpa using h2
    repeat (first | go_values | go_skip | go_guarded | go_step | go_upon)
    clear d1 d2
    have HK1 : Hid (Kept w w1) := KA
    clear k1 KA
    obtain ⟨j0, hj0, hy0, hy1, hy2⟩ := info_parts info27
    go_loopw [6, 28] (fun e i wr => ∃ (k : Nat) (rs : List NumsE) (ao : Option Addr) (c : Nat), k ≤ ws.length ∧ i = .int .i64 k ∧ e = .slice ao rs.length c ∧ NumsP wr w1.heap.size wr.heap.size (.slice ao rs.length c) rs ∧ rs.map Prod.snd = doorsM g ws k ∧ (∀ j, j < k → StepOk g ws j) ∧ Kept w1 wr) (fun e i _ => ws.length - (intOf i).toNat)
    case atStart =>
      refine ⟨0, [], none, 0, by omega, rfl, rfl, ?_, rfl, fun j hj => by omega, But.refl _ _ _⟩
      exact ⟨⟨World.ownsRow_nil _ _ _ _, fun g hg => by simp [Value.ownBlock] at hg⟩, fun i r h => by simp at h, fun i j r r' _ h => by simp at h⟩
    case round =>
      obtain ⟨k, rs, ao, c, hk, rfl, rfl, hNP, hrs, hok, hkp⟩ := hrel
      have HRS : Hid (rs.map Prod.snd = doorsM g ws k) := hrs
      have hrl : rs.length = k - 1 := by have := congrArg List.length hrs; rw [doorsM_len] at this; simpa using this
      have hrl2 : rs.length ≤ 20 := by omega
      have HOK : Hid (∀ j, j < k → StepOk g ws j) := hok
      have HNP : Hid (NumsP wr w1.heap.size wr.heap.size (.slice ao rs.length c) rs) := hNP
      have HK : Hid (Kept w1 wr) := hkp
      have hwz := hkp.size
      have KC := HK1.out.trans hkp
      clear hrs hok hNP hrl
      by_cases hlt : k < ws.length
      · obtain ⟨x, hx⟩ : ∃ x : Int, ws[k]? = some x := ⟨_, List.getElem?_eq_getElem hlt⟩
        have hxd : ws.getD k 0 = x := getD_of hx
        obtain ⟨b, o, cap1, e, c0⟩ := num_get (HS.out.kept KC) hx
        cases e
        have LaR := La.kept hkp
        have a0 := LaR.cell 0 rfl
        have a1 := LaR.cell 1 rfl
        have HFW : Hid (LLAt wr (.slice af g.2.length cf) g.2) := HF.out.kept KC
        have HSW : Hid (NumAt wr (.slice (some ⟨b, o, none⟩) ws.length sc) ws) := HS.out.kept KC
        have hkc : (k : Int) ≤ (sc : Int) := by omega
        have HX : Hid (ws[k]? = some x ∧ ws.getD k 0 = x) := ⟨hx, hxd⟩
        clear hx hxd KC hkp
        repeat (first | go_values | go_skip | go_guarded | go_step | go_upon)
        go_at_call 62
        refine (sInG _ _ _ _).mono ?_
        by_cases hin : 0 ≤ x ∧ x < (g.2.length : Int)
        · have hd : decide (0 ≤ x ∧ x ≤ (g.2.length : Int) - 1) = true := decide_eq_true (by omega)
          rw [hd]
          rintro e w2 ⟨rfl, rfl⟩
          have HIN : Hid (0 ≤ x ∧ x < (g.2.length : Int)) := hin
          clear c0 hd hin
          dsimp only
          repeat (first | go_values | go_skip | go_guarded | go_step | go_upon)
          clear a0 a1
          go_loopw [44] (fun i wz => ∃ m : Nat, m ≤ k ∧ i = .int .i64 m ∧ (∀ j, j < m → ws.getD j 0 ≠ x) ∧ Kept w2 wz) (fun i _ => k - (intOf i).toNat)
          case atStart => exact ⟨0, by omega, rfl, fun j hj => by omega, But.refl _ _ _⟩
          case round =>
            rename World => w3
            obtain ⟨m, hm', rfl, hne, hkz⟩ := hrel
            have HNE : Hid (∀ j, j < m → ws.getD j 0 ≠ x) := hne
            have HK3 : Hid (Kept w2 w3) := hkz
            clear hne hkz
            by_cases hmt : m < k
            · obtain ⟨q, hq⟩ : ∃ q : Int, ws[m]? = some q := ⟨_, List.getElem?_eq_getElem (by omega)⟩
              obtain ⟨b2, o2, cap2, e, c2⟩ := num_get (HSW.out.kept HK3.out) hq
              cases e
              have HQ : Hid (ws.getD m 0 = q) := getD_of hq
              clear hq
              by_cases hqx : q = x
              · have d1 : (q == x) = true := by simpa using hqx
                have HQX : Hid (q = x) := hqx
                clear hqx
                repeat (first | go_values | go_skip | go_guarded | go_step | go_upon)
                refine bodyPost_ret (v := .tuple #[.slice none 0 0, .bool false]) (by simp [results, Try.results46, go_sem]) rfl ?_
                exact doorsO_no (fun h => (h.2.2.2 k hlt).2.1 m hmt (by rw [HQ.out, HX.out.2]; exact HQX.out)) ((HK1.out.trans HK.out).trans HK3.out)
              · have d1 : (q == x) = false := by simpa using hqx
                have HQX : Hid (q ≠ x) := hqx
                clear hqx
                repeat (first | go_values | go_skip | go_guarded | go_step | go_upon)
                refine ⟨⟨m + 1, hmt, by go_num, fun j hj => ?_, HK3.out⟩, by simp [intOf]; omega⟩
                rcases Nat.lt_succ_iff_lt_or_eq.1 hj with hj | rfl
                · exact HNE.out j hj
                · rw [HQ.out]
                  exact HQX.out
            · have hme : m = k := by omega
              have HM : Hid (∀ j, j < k → ws.getD j 0 ≠ ws.getD k 0) := fun j hj => by rw [HX.out.2]; exact HNE.out j (by omega)
              have LaR := LaR.kept HK3.out
              by_cases hk0 : k = 0
              · have z2 : decide ((0 : Int) < (k : Int)) = false := by simp [hk0]
                have z3 : decide (0 < k) = false := by simp [hk0]
                have HK0 : Hid (k = 0) := hk0
                clear hk0
                repeat (first | go_values | go_skip | go_guarded | go_step | go_upon)
                refine ⟨⟨k + 1, rs, ao, c, hlt, by go_num, rfl, ?_, ?_, fun j hj => ?_, HK.out.trans HK3.out⟩, by simp [intOf]; omega⟩
                · exact (HNP.out.kept HK3.out).mono (Nat.le_refl _) HK3.out.size
                · rw [HRS.out]
                  have := HK0.out
                  subst this
                  rfl
                · have := HK0.out
                  subst this
                  have : j = 0 := by omega
                  subst this
                  exact ⟨by rw [HX.out.2]; exact HIN.out, HM.out, fun h => by omega⟩
              · have z2 : decide ((0 : Int) < (k : Int)) = true := decide_eq_true (by omega)
                have z3 : decide (0 < k) = true := decide_eq_true (by omega)
                have z4 : (0 : Int) < (k : Int) := by omega
                obtain ⟨K, hKK⟩ : ∃ K, k = K + 1 := ⟨k - 1, by omega⟩
                obtain ⟨y, hy⟩ : ∃ y : Int, ws[K]? = some y := ⟨_, List.getElem?_eq_getElem (by omega)⟩
                have hyy := (HOK.out K (by omega)).1
                rw [getD_of hy] at hyy
                have hy0' : (0 : Int) ≤ y := hyy.1
                have hy1' : y < (g.2.length : Int) := hyy.2
                obtain ⟨Y, hY⟩ : ∃ Y : Nat, y = (Y : Int) := ⟨y.toNat, by omega⟩
                obtain ⟨X, hX⟩ : ∃ X : Nat, x = (X : Int) := ⟨x.toNat, by have := HIN.out.1; omega⟩
                subst hY hX
                have hYl : Y < g.2.length := by omega
                have hXl : X < g.2.length := by have := HIN.out.2; omega
                obtain ⟨f1, hf1⟩ : ∃ f, g.2[Y]? = some f := ⟨_, List.getElem?_eq_getElem hYl⟩
                obtain ⟨f2, hf2⟩ : ∃ f, g.2[X]? = some f := ⟨_, List.getElem?_eq_getElem hXl⟩
                obtain ⟨b3, o3, cap4, e, e3⟩ := num_get (HSW.out.kept HK3.out) hy
                cases e
                have HSD : Hid (∀ u, Kept w3 u → Calls Try.prog 78 #[.agg #[.slice ap g.1.length cp, .slice af g.2.length cf], .int .i64 (Y : Int), .int .i64 (X : Int)] u fun e w' => (∃ v' d t, e = .returned (.tuple #[v', .bool t]) ∧ NumO w' u.heap.size w'.heap.size v' d ∧ DoorIs f1 f2 d t) ∧ Kept u w') := fun u ku => sdoor g _ _ u ((HFW.out.kept HK3.out).kept ku) (by have := HGG.out.2.2.1; omega) Y X f1 f2 hf1 hf2 (hl f1 (List.mem_of_getElem? hf1)) (hl f2 (List.mem_of_getElem? hf2))
                have HFO : Hid (faceOf g ws (k - 1) = f1 ∧ faceOf g ws k = f2) := by
                  refine ⟨?_, ?_⟩
                  · unfold faceOf
                    rw [hKK, Nat.add_sub_cancel, getD_of hy]
                    exact getD_of hf1
                  · unfold faceOf
                    rw [HX.out.2]
                    exact getD_of hf2
                have a0 := LaR.cell 0 rfl
                have a1 := LaR.cell 1 rfl
                have al := LaR.lt
                have wk : IntKind.i64.wrap ((k : Int) - 1) = (K : Int) := by rw [IntKind.wrap_i64]; omega
                have k1' : (K : Int) < (ws.length : Int) := by omega
                have HKK : Hid (k = K + 1) := hKK
                clear hf1 hf2 hy hk0 hyy hKK hy1' hy0' hYl hXl
                repeat (first | go_values | go_skip | go_guarded | go_step | go_upon)
                clear z2 z3
                apply wp_cutA (fun a dv t => (((((((((((((a.put (some 55) (.agg #[.slice ap g.1.length cp, .slice af g.2.length cf])).put (some 56) (.slice (some ⟨b, o, none⟩) ws.length sc)).put (some 57) (.int .i64 (k : Int))).put (some 58) (.int .i64 (K : Int))).put (some 59) (.pointer (some ⟨b, o + K, none⟩))).put (some 60) (.int .i64 (Y : Int))).put (some 61) (.int .i64 (X : Int))).put (some 62) (.tuple #[dv, .bool t])).put (some 54) (.tuple #[dv, .bool t])).put (some 63) (dv)).put (some 64) (.bool t)).put (some 11) (dv)).put (some 12) (.bool t))) (F := fun dv t W' => ∃ d, NumO W' w3.heap.size W'.heap.size dv d ∧ DoorIs f1 f2 d t ∧ Kept w3 W')
                · clear HRS hrl2 HOK HNP HK hwz hlt HS HSW hkc HM HK3 HX HIN HG HF La LaR HFW HFO HK1 hj0 hy0 hy1 hy2 HGG hk h1 h2 HNE hm' hmt hme
                  repeat (rename_i X9; clear X9)
                  have HSE : Hid (Calls Try.prog 78 #[.agg #[.slice ap g.1.length cp, .slice af g.2.length cf], .int .i64 (Y : Int), .int .i64 (X : Int)] w3.drew fun e w' => ∃ v' t d, e = .returned (.tuple #[v', .bool t]) ∧ NumO w' w3.heap.size w'.heap.size v' d ∧ DoorIs f1 f2 d t ∧ Kept w3 w') := (HSD.out w3.drew ((But.refl _ _ w3).drew)).mono fun e w' ⟨⟨v', d, t, h1, h2, h3⟩, k⟩ => ⟨v', t, d, h1, h2, h3, But.trans ((But.refl _ _ w3).drew) k⟩
                  clear HSD HKK
                  go_region_held3 (fun w' => w'.cell? ⟨w.heap.size, 0, none⟩ = some (.slice ap g.1.length cp) ∧ w'.cell? ⟨w.heap.size, 1, none⟩ = some (.slice af g.2.length cf) ∧ w'.cell? ⟨b, o + K, none⟩ = some (.int .i64 (Y : Int))) (simp [go_sem, *])
                    (first | (go_at_call 78; refine HSE.out.mono ?_; rintro e w4 ⟨v4, t4, d4, rfl, H4⟩; have H5 : Hid (NumO w4 w3.heap.size w4.heap.size v4 d4 ∧ DoorIs f1 f2 d4 t4 ∧ Kept w3 w4) := H4; have k4 := H4.2.2; have a0 := Kept.cell k4 a0; have a1 := Kept.cell k4 a1; have e3 := Kept.cell k4 e3; clear H4 k4))
                  all_goals exact ⟨v4, t4, rfl, d4, H5.out⟩
                · rintro dv t w4 ⟨d, hdv, hdi, k4⟩
                  have HDV : Hid (NumP w4 w3.heap.size w4.heap.size dv d) := NumP.of hdv
                  have HDI : Hid (DoorIs f1 f2 d t) := hdi
                  have HK4 : Hid (Kept w3 w4) := k4
                  have hw4 : w1.heap.size ≤ w4.heap.size := by have := HK3.out.size; have := k4.size; omega
                  obtain ⟨da, dc, hfd⟩ := hdv.form
                  subst hfd
                  clear hdv hdi k4 e3 a0 a1 HSD
                  cases t with
                  | false =>
                    repeat (first | go_values | go_skip | go_guarded | go_step | go_upon)
                    refine bodyPost_ret (v := .tuple #[.slice none 0 0, .bool false]) (by simp [results, Try.results46, go_sem]) rfl ?_
                    refine doorsO_no (fun h => ?_) (((HK1.out.trans HK.out).trans HK3.out).trans HK4.out)
                    have h9 := (h.2.2.2 k hlt).2.2 (by have := HKK.out; omega)
                    rw [HFO.out.1, HFO.out.2] at h9
                    have := (door_has HDI.out).2 h9
                    cases this
                  | true =>
                    repeat (first
                    | (at_builtin
                       refine wpList_append_own _ rfl _ _ 24 rfl w1.heap.size 27 j0 (.slice none 0 0) 1 24 Try.underlying24 hj0 hy0 hy1 hy2 rfl (by decide) _ _ _ rfl (own_kept HNP.out.row.1 ((HK3.out.trans HK4.out).alloc _)) ⟨w4.heap.size, 0, none⟩ 1 1 [.slice da d.length dc] rfl rfl (news1 (Loc.new w4 [.slice da d.length dc] 27)) (by simp [Value.oneCell']) (by unfold maxLen; omega) (by omega) (by simp; omega) ?_
                       intro v' w5 hown' hgrow _
                       obtain ⟨ao5, cap5, hf5, _⟩ := own_form hown'
                       subst hf5
                       have HK5 : Hid (Kept w1 w5) := (((HK.out.trans HK3.out).trans HK4.out).alloc _).grown hgrow (by intro x hx; have := own_lt HNP.out.row.1 hx; omega)
                       have HD5 : Hid (NumsP w5 w1.heap.size w5.heap.size (.slice ao5 (rs.length + 1) cap5) (rs ++ [(.slice da d.length dc, d)])) := NumsP.snoc HNP.out (HK3.out.trans HK4.out) hwz (HDV.out.mono HK3.out.size (Nat.le_refl _)) hown' hgrow
                       clear hgrow hown')
                    | go_values | go_skip | go_guarded | go_step | go_upon)
                    have hk1 : 0 < k := by have := HKK.out; omega
                    refine ⟨⟨k + 1, rs ++ [(.slice da d.length dc, d)], ao5, cap5, hlt, by go_num, by simp, by simpa using HD5.out, ?_, fun j hj => ?_, HK5.out⟩, by simp [intOf]; omega⟩
                    · rw [doorsM_succ g ws hk1, List.map_append, HRS.out, HFO.out.1, HFO.out.2, ← doorD_is HDI.out]
                      rfl
                    · rcases Nat.lt_succ_iff_lt_or_eq.1 hj with hj | rfl
                      · exact HOK.out j hj
                      · refine ⟨by rw [HX.out.2]; exact HIN.out, HM.out, fun _ => ?_⟩
                        rw [HFO.out.1, HFO.out.2]
                        exact (door_has HDI.out).1 rfl
        · have hd : decide (0 ≤ x ∧ x ≤ (g.2.length : Int) - 1) = false := decide_eq_false (by omega)
          rw [hd]
          rintro e w2 ⟨rfl, rfl⟩
          have HIN : Hid (¬ (0 ≤ x ∧ x < (g.2.length : Int))) := hin
          clear hd hin
          dsimp only
          repeat (first | go_values | go_skip | go_guarded | go_step | go_upon)
          refine bodyPost_ret (v := .tuple #[.slice none 0 0, .bool false]) (by simp [results, Try.results46, go_sem]) rfl ?_
          exact doorsO_no (fun h => HIN.out (by have := (h.2.2.2 k hlt).1; rw [HX.out.2] at this; exact this)) (HK1.out.trans HK.out)
      · have hke : k = ws.length := by omega
        repeat (first | go_values | go_skip | go_guarded | go_step | go_upon)
        have hW : WayOk g ws := ⟨HGG.out, by omega, by omega, fun i hi => HOK.out i (by omega)⟩
        refine bodyPost_ret (v := .tuple #[.slice ao rs.length c, .bool true]) (by simp [results, Try.results46, go_sem]) rfl ?_
        refine ⟨⟨_, by rw [doorsR_yes hW], ?_⟩, KC⟩
        rw [doorsR_yes hW]
        refine ⟨rs, HNP.out.mono HK1.out.size (Nat.le_refl _), ?_⟩
        rw [HRS.out, hke]
  · have he := says_false hg hs
    subst he
    have HGG : Hid (¬ GoodG g) := hg
    clear hg hs
    dsimp only
    repeat (first | go_values | go_skip | go_guarded | go_step | go_upon)
    refine bodyPost_ret (v := .tuple #[.slice none 0 0, .bool false]) (by simp [results, Try.results46, go_sem]) rfl ?_
    exact doorsO_no (fun h => HGG.out h.1) KA

theorem sdoorsof (g : GroundD) (ws : List NumD) (v sv : Value) (lo hi lo' hi' : Nat) (w : World) (ho : GroundO w lo hi v g) (hs : NumO w lo' hi' sv ws) (hm : g.1.length ≤ 1048576) (hn : g.2.length ≤ 1048576) (hl : ∀ f ∈ g.2, f.length ≤ 1048576) (hws : ws.length ≤ 1048576) :
    Calls Try.prog 13 #[v, sv] w (DoorsO g ws w) := by
  obtain ⟨ap, cp, af, cf, hfm⟩ := ho.at.form
  subst hfm
  obtain ⟨sa, sc, hsl⟩ := hs.form
  subst hsl
  have HD : Hid (∀ (u : World), Kept w u → Calls Try.prog 46 #[.agg #[.slice ap g.1.length cp, .slice af g.2.length cf], .slice sa ws.length sc] u (DoorsO g ws u)) := fun u k => sdoors g ws _ _ lo hi lo' hi' u (ho.kept k) (hs.kept k) hm hn hl hws
  clear ho hs
  go_enter Try.func13, Try.ntmps13
  repeat (first | go_values | go_skip | go_guarded | go_step | go_upon)
  refine (HD.out _ (by exact ((But.refl _ _ w).alloc _))).mono ?_
  rintro e w1 ⟨⟨v', rfl, hv'⟩, k1⟩
  have HV : Hid (DLO _ _ _ _ _) := hv'
  obtain ⟨da, dc, hfd⟩ := hv'.form
  subst hfd
  clear hv'
  dsimp only
  repeat (first | go_values | go_skip | go_guarded | go_step | go_upon)
  refine bodyPost_ret (v := .tuple #[.slice da (doorsR g ws).1.length dc, .bool (doorsR g ws).2]) (by simp [results, Try.results13, go_sem]) rfl ?_
  exact ⟨⟨_, rfl, HV.out.mono (by simp) (Nat.le_refl _)⟩, ((But.refl _ _ w).alloc _).trans k1⟩

end Go.Proofs.Ythohgehhoogpnaa
