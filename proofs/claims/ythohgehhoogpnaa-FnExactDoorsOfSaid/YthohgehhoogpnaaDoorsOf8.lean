/-
  The doors of a way of faces, in the program.
-/
import Derived.Test.YthohgehhoogpnaaDoors8
namespace Go.Proofs.Ythohgehhoogpnaa
open Go.ChangeShapes Go.WideShapes Go.ChangeAt Go.RowKit

set_option maxRecDepth 100000
set_option linter.unusedVariables false
theorem door_one {f o d d' : List NumD} (h : DoorIs f o d true) (h' : DoorIs f o d' true) : d = d' := by
  rcases h with ⟨h, _⟩ | ⟨_, i, p, q, h1, rfl, h2⟩
  · cases h
  rcases h' with ⟨h, _⟩ | ⟨_, i', p', q', h1', rfl, h2'⟩
  · cases h
  rcases Nat.lt_trichotomy i i' with k | k | k
  · exact absurd h1 (h2' i p q k)
  · subst k
    obtain ⟨a, b, _⟩ := h1
    obtain ⟨a', b', _⟩ := h1'
    rw [a] at a'
    rw [b] at b'
    cases a'
    cases b'
    rfl
  · exact absurd h1' (h2 i' p' q' k)
noncomputable def doorD (f o : List NumD) : List NumD := Classical.epsilon fun d => DoorIs f o d true
theorem doorD_is {f o d : List NumD} (h : DoorIs f o d true) : d = doorD f o := door_one h (Classical.epsilon_spec (p := fun d => DoorIs f o d true) ⟨d, h⟩)
/-- The face that stands at a place of a way. -/
def faceOf (g : GroundD) (ws : List NumD) (i : Nat) : List NumD := g.2.getD (ws.getD i 0).toNat []
def StepOk (g : GroundD) (ws : List NumD) (i : Nat) : Prop := (0 ≤ ws.getD i 0 ∧ ws.getD i 0 < (g.2.length : Int)) ∧ (∀ j, j < i → ws.getD j 0 ≠ ws.getD i 0) ∧ (0 < i → HasDoor (faceOf g ws (i - 1)) (faceOf g ws i))
def WayOk (g : GroundD) (ws : List NumD) : Prop := GoodG g ∧ 1 ≤ ws.length ∧ ws.length ≤ 20 ∧ ∀ i, i < ws.length → StepOk g ws i
/-- The doors ahead of the first k faces of a way. -/
noncomputable def doorsM (g : GroundD) (ws : List NumD) (k : Nat) : List (List NumD) := (List.range (k - 1)).map fun i => doorD (faceOf g ws i) (faceOf g ws (i + 1))
theorem doorsM_succ (g : GroundD) (ws : List NumD) {k : Nat} (hk : 0 < k) : doorsM g ws (k + 1) = doorsM g ws k ++ [doorD (faceOf g ws (k - 1)) (faceOf g ws k)] := by
  unfold doorsM
  rw [show k + 1 - 1 = (k - 1) + 1 by omega, List.range_succ, List.map_append]
  simp [show k - 1 + 1 = k by omega]
theorem doorsM_len (g : GroundD) (ws : List NumD) (k : Nat) : (doorsM g ws k).length = k - 1 := by simp [doorsM]
open Classical in
noncomputable def doorsR (g : GroundD) (ws : List NumD) : List (List NumD) × Bool := if WayOk g ws then (doorsM g ws ws.length, true) else ([], false)
theorem doorsR_yes {g : GroundD} {ws : List NumD} (h : WayOk g ws) : doorsR g ws = (doorsM g ws ws.length, true) := if_pos h
theorem doorsR_no {g : GroundD} {ws : List NumD} (h : ¬ WayOk g ws) : doorsR g ws = ([], false) := if_neg h
def DoorsO (g : GroundD) (ws : List NumD) (u : World) (e : Ending) (u' : World) : Prop := (∃ v', e = .returned (.tuple #[v', .bool (doorsR g ws).2]) ∧ DLO u' u.heap.size u'.heap.size v' (doorsR g ws).1) ∧ Kept u u'
theorem doorsO_no {g : GroundD} {ws : List NumD} {u u' : World} (h : ¬ WayOk g ws) (k : Kept u u') : DoorsO g ws u (.returned (.tuple #[.slice none 0 0, .bool false])) u' :=
  ⟨⟨_, by rw [doorsR_no h], by rw [doorsR_no h]; exact DLO.nil _ _ _⟩, k⟩
theorem wp_cutVB {P : Program} {C : Code} {Q : Exit → Act → World → Prop} {a : Act} {w : World} {A : Value → Bool → Act} (F : Value → Bool → World → Prop)
    (h : C.wp P (fun x a' w' => match x with | .normal => ∃ v t, a' = A v t ∧ F v t w' | _ => False) a w) (hq : ∀ v t w', F v t w' → Q .normal (A v t) w') : C.wp P Q a w :=
  wp_mono h fun e a' w' hx => by
    cases e with
    | normal => obtain ⟨v, t, rfl, hF⟩ := hx; exact hq v t w' hF
    | _ => exact hx.elim

theorem wp_cutA {P : Program} {C : Code} {Q : Exit → Act → World → Prop} {a : Act} {w : World} (A : Act → Value → Bool → Act) (F : Value → Bool → World → Prop)
    (h : C.wp P (fun x a' w' => match x with | .normal => ∃ v t, a' = A a v t ∧ F v t w' | _ => False) a w) (hq : ∀ v t w', F v t w' → Q .normal (A a v t) w') : C.wp P Q a w :=
  wp_mono h fun e a' w' hx => by
    cases e with
    | normal => obtain ⟨v, t, rfl, hF⟩ := hx; exact hq v t w' hF
    | _ => exact hx.elim

set_option maxHeartbeats 8000000 in
theorem idoorsof (g : GroundD) (ws : List NumD) (v sv : Value) (lo hi lo' hi' : Nat) (w : World) (ho : GroundO w lo hi v g) (hs : NumO w lo' hi' sv ws) (hm : g.1.length ≤ 1048576) (hn : g.2.length ≤ 1048576) (hl : ∀ f ∈ g.2, f.length ≤ 1048576) (hws : ws.length ≤ 1048576) :
    Calls Try.prog 32 #[v, sv] w (DoorsO g ws w) := by
  obtain ⟨ap, cp, af, cf, hfm⟩ := ho.at.form
  subst hfm
  obtain ⟨sa, sc, hsl, hsc⟩ := own_capN hs
  subst hsl
  have HG : Hid (∀ (u : World), Kept w u → Calls Try.prog 19 #[.agg #[.slice ap g.1.length cp, .slice af g.2.length cf]] u fun e u' => Says (GoodG g) e ∧ Kept u u') := fun u k => igood g _ lo hi u (ho.kept k) hm hn hl
  have ho' := ho
  obtain ⟨pv, fv, e, hP, hF⟩ := ho'
  cases e
  have HF : Hid (LLO w lo hi (.slice af g.2.length cf) g.2) := hF
  have HS : Hid (NumAt w (.slice sa ws.length sc) ws) := hs.at
  clear ho hP hF hs
  go_enter Try.func32, Try.ntmps32
  repeat (first | go_values | go_skip | go_guarded | go_step | go_upon)
  refine (HG.out _ (by exact ((But.refl _ _ w).alloc _))).mono ?_
  rintro e w1 ⟨hs, k1⟩
  have KA : Kept w w1 := ((But.refl _ _ w).alloc _).trans k1
  have La := (Loc.new w [.slice ap g.1.length cp, .slice af g.2.length cf] 26).kept k1
  by_cases hg : GoodG g
  · have he := says_true hg hs
    subst he
    have HGG : Hid (GoodG g) := hg
    clear hg hs
    dsimp only
    by_cases h1 : (ws.length : Int) < 1
    · have d1 : decide ((ws.length : Int) < 1) = true := by simpa using h1
      have H1 : Hid ((ws.length : Int) < 1) := h1
      repeat (first | go_values | go_skip | go_guarded | go_step | go_upon)
      refine bodyPost_ret (v := .tuple #[.slice none 0 0, .bool false]) (by simp [results, Try.results32, go_sem]) rfl ?_
      exact doorsO_no (fun h => by have := h.2.1; have := H1.out; omega) KA
    have d1 : decide ((ws.length : Int) < 1) = false := by simpa using h1
    by_cases h2 : (20 : Int) < (ws.length : Int)
    · have d2 : decide ((20 : Int) < (ws.length : Int)) = true := by simpa using h2
      have H1 : Hid ((20 : Int) < (ws.length : Int)) := h2
      repeat (first | go_values | go_skip | go_guarded | go_step | go_upon)
      refine bodyPost_ret (v := .tuple #[.slice none 0 0, .bool false]) (by simp [results, Try.results32, go_sem]) rfl ?_
      exact doorsO_no (fun h => by have := h.2.2.1; have := H1.out; omega) KA
    have d2 : decide ((20 : Int) < (ws.length : Int)) = false := by simpa using h2
    repeat (first | go_values | go_skip | go_guarded | go_step | go_upon)
    clear d1 d2
    have HK1 : Hid (Kept w w1) := KA
    clear k1 KA
    obtain ⟨j0, hj0, hy0, hy1, hy2⟩ := info_parts info27
    go_loopw [6, 26] (fun e i wr => ∃ (k : Nat) (rs : List NumsE) (ao : Option Addr) (c : Nat), k ≤ ws.length ∧ i = .int .i64 k ∧ e = .slice ao rs.length c ∧ NumsP wr w1.heap.size wr.heap.size (.slice ao rs.length c) rs ∧ rs.map Prod.snd = doorsM g ws k ∧ (∀ j, j < k → StepOk g ws j) ∧ Kept w1 wr) (fun e i _ => ws.length - (intOf i).toNat)
    case atStart =>
      refine ⟨0, [], none, 0, by omega, rfl, rfl, ?_, rfl, fun j hj => by omega, But.refl _ _ _⟩
      exact ⟨⟨World.ownsRow_nil _ _ _ _, fun g hg => by simp [Value.ownBlock] at hg⟩, fun i r h => by simp at h, fun i j r r' _ h => by simp at h⟩
    case round =>
      obtain ⟨k, rs, ao, c, hk, rfl, rfl, hNP, hrs, hok, hkp⟩ := hrel
      have HRS : Hid (rs.map Prod.snd = doorsM g ws k) := hrs
      have hrl : rs.length = k - 1 := by have := congrArg List.length hrs; rw [doorsM_len] at this; simpa using this
      have HRL : Hid (rs.length = k - 1) := hrl
      have hrl2 : rs.length ≤ 20 := by omega
      have HOK : Hid (∀ j, j < k → StepOk g ws j) := hok
      have HNP : Hid (NumsP wr w1.heap.size wr.heap.size (.slice ao rs.length c) rs) := hNP
      have HK : Hid (Kept w1 wr) := hkp
      have hwz := hkp.size
      have KC := HK1.out.trans hkp
      clear hrs hok hNP hrl
      by_cases hlt : k < ws.length
      · obtain ⟨x, hx⟩ : ∃ x : Int, ws[k]? = some x := ⟨_, List.getElem?_eq_getElem hlt⟩
        have hxd : ws.getD k 0 = x := getD_of hx
        obtain ⟨b, o, cap1, e, c0⟩ := num_get (HS.out.kept KC) hx
        cases e
        have LaR := La.kept hkp
        have a0 := LaR.cell 0 rfl
        have a1 := LaR.cell 1 rfl
        have HFW : Hid (LLO wr lo hi (.slice af g.2.length cf) g.2) := HF.out.kept KC
        have HSW : Hid (NumAt wr (.slice (some ⟨b, o, none⟩) ws.length sc) ws) := HS.out.kept KC
        have HT : Hid (NumAt wr (.slice (some ⟨b, o, none⟩) k sc) (ws.take k)) := HSW.out.take rfl hk
        have HTL : Hid ((ws.take k).length ≤ 1048576) := by show (ws.take k).length ≤ _; rw [List.length_take]; omega
        have hkc : (k : Int) ≤ (sc : Int) := by omega
        have HX : Hid (ws[k]? = some x ∧ ws.getD k 0 = x) := ⟨hx, hxd⟩
        clear hx hxd KC hkp
        repeat (first | go_values | go_skip | go_guarded | go_step | go_upon)
        go_at_call 64
        by_cases hin : 0 ≤ x ∧ x < (g.2.length : Int)
        · have hd : decide (0 ≤ x ∧ x < (g.2.length : Int)) = true := decide_eq_true hin
          refine (ihas g _ _ x _ HFW.out.at hn).mono ?_
          rw [hd]
          rintro e w2 ⟨rfl, k2⟩
          have HIN : Hid (0 ≤ x ∧ x < (g.2.length : Int)) := hin
          have LaR := LaR.kept k2
          have HK2 : Hid (Kept wr w2) := k2
          clear a0 a1 c0 hd hin k2
          dsimp only
          repeat (first | go_values | go_skip | go_guarded | go_step | go_upon)
          go_at_call 69
          refine (icontains (ws.take k) x _ _ (HT.out.kept HK2.out) HTL.out).mono ?_
          by_cases hmem : x ∈ ws.take k
          · have hd2 : decide (x ∈ ws.take k) = true := decide_eq_true hmem
            rw [hd2]
            rintro e w3 ⟨rfl, k3⟩
            have HM : Hid (x ∈ ws.take k) := hmem
            clear hd2 hmem
            dsimp only
            repeat (first | go_values | go_skip | go_guarded | go_step | go_upon)
            refine bodyPost_ret (v := .tuple #[.slice none 0 0, .bool false]) (by simp [results, Try.results32, go_sem]) rfl ?_
            refine doorsO_no (fun h => ?_) (((HK1.out.trans HK.out).trans HK2.out).trans k3)
            obtain ⟨j, hj⟩ := List.mem_iff_getElem?.1 HM.out
            rw [List.getElem?_take] at hj
            split at hj
            · rename_i hjk
              exact (h.2.2.2 k hlt).2.1 j hjk (by rw [getD_of hj, HX.out.2])
            · cases hj
          · have hd2 : decide (x ∈ ws.take k) = false := decide_eq_false hmem
            rw [hd2]
            rintro e w3 ⟨rfl, k3⟩
            have HM : Hid (∀ j, j < k → ws.getD j 0 ≠ ws.getD k 0) := fun j hj he => by
              rw [HX.out.2] at he
              obtain ⟨y, hy⟩ : ∃ y : Int, ws[j]? = some y := ⟨_, List.getElem?_eq_getElem (by omega)⟩
              rw [getD_of hy] at he
              subst he
              exact hmem (List.mem_of_getElem? (i := j) (by rw [List.getElem?_take, if_pos hj]; exact hy))
            have HK3 : Hid (Kept wr w3) := HK2.out.trans k3
            have LaR := LaR.kept k3
            clear hd2 hmem k3
            dsimp only
            by_cases hk0 : k = 0
            · have z1 : ((k : Int) == 0) = true := by simp [hk0]
              have z2 : decide ((k : Int) = 0) = true := by simp [hk0]
              have z3 : decide (k = 0) = true := by simp [hk0]
              have HK0 : Hid (k = 0) := hk0
              clear hk0
              repeat (first | go_values | go_skip | go_guarded | go_step | go_upon)
              refine ⟨⟨k + 1, rs, ao, c, hlt, by go_num, rfl, ?_, ?_, fun j hj => ?_, HK.out.trans HK3.out⟩, by simp [intOf]; omega⟩
              · exact (HNP.out.kept HK3.out).mono (Nat.le_refl _) HK3.out.size
              · rw [HRS.out]
                have := HK0.out
                subst this
                rfl
              · have := HK0.out
                subst this
                have : j = 0 := by omega
                subst this
                exact ⟨by rw [HX.out.2]; exact HIN.out, HM.out, fun h => by omega⟩
            · have z1 : ((k : Int) == 0) = false := beq_eq_false_iff_ne.2 (by omega)
              have z2 : decide ((k : Int) = 0) = false := decide_eq_false (by omega)
              have z3 : decide (k = 0) = false := decide_eq_false hk0
              obtain ⟨K, hKK⟩ : ∃ K, k = K + 1 := ⟨k - 1, by omega⟩
              obtain ⟨y, hy⟩ : ∃ y : Int, ws[K]? = some y := ⟨_, List.getElem?_eq_getElem (by omega)⟩
              have hyy := (HOK.out K (by omega)).1
              rw [getD_of hy] at hyy
              have hy0 : (0 : Int) ≤ y := hyy.1
              have hy1' : y < (g.2.length : Int) := hyy.2
              obtain ⟨Y, hY⟩ : ∃ Y : Nat, y = (Y : Int) := ⟨y.toNat, by omega⟩
              obtain ⟨X, hX⟩ : ∃ X : Nat, x = (X : Int) := ⟨x.toNat, by have := HIN.out.1; omega⟩
              subst hY hX
              have hYl : Y < g.2.length := by omega
              have hXl : X < g.2.length := by have := HIN.out.2; omega
              obtain ⟨f1, hf1⟩ : ∃ f, g.2[Y]? = some f := ⟨_, List.getElem?_eq_getElem hYl⟩
              obtain ⟨f2, hf2⟩ : ∃ f, g.2[X]? = some f := ⟨_, List.getElem?_eq_getElem hXl⟩
              have hF3 := HFW.out.kept HK3.out
              obtain ⟨b1, o1, cap2, u1, e, e1, hu1⟩ := lLO_get hF3 hf1
              cases e
              obtain ⟨au1, cu1, hsu⟩ := row_nil hu1.at
              subst hsu
              obtain ⟨b2, o2, cap3, u2, e, e2, hu2⟩ := lLO_get hF3 hf2
              cases e
              obtain ⟨au2, cu2, hsu⟩ := row_nil hu2.at
              subst hsu
              obtain ⟨b3, o3, cap4, e, e3⟩ := num_get (HSW.out.kept HK3.out) hy
              cases e
              have ok1 := good_face HGG.out hf1
              have ok2 := good_face HGG.out hf2
              have HSD : Hid (∀ u, Kept w3 u → Calls Try.prog 70 #[.slice au1 f1.length cu1, .slice au2 f2.length cu2] u fun e w' => (∃ v' d t, e = .returned (.tuple #[v', .bool t]) ∧ DoorV w' u.heap.size v' d ∧ DoorIs f1 f2 d t) ∧ Kept u w') := fun u ku => idoor f1 f2 _ _ u lo hi (hu1.kept ku) (hu2.kept ku).at (by have := ok1.1; omega) (by have := ok1.2.1; omega) (by have := ok2.2.1; omega) (once_of ok2.2.2.1)
              have HFO : Hid (faceOf g ws (k - 1) = f1 ∧ faceOf g ws k = f2) := by
                refine ⟨?_, ?_⟩
                · unfold faceOf
                  rw [hKK, Nat.add_sub_cancel, getD_of hy]
                  exact getD_of hf1
                · unfold faceOf
                  rw [HX.out.2]
                  exact getD_of hf2
              have a1 := LaR.cell 1 rfl
              have al := LaR.lt
              have wk : IntKind.i64.wrap ((k : Int) - 1) = (K : Int) := by rw [IntKind.wrap_i64]; omega
              have k1' : (K : Int) < (ws.length : Int) := by omega
              have x1' : (X : Int) < (g.2.length : Int) := by omega
              have y1'' : (Y : Int) < (g.2.length : Int) := by omega
              have HKK : Hid (k = K + 1) := hKK
              clear hf1 hf2 hF3 hu1 hu2 ok1 ok2 hy hk0 hyy hKK hy1' hy0 hYl hXl
              repeat (first | go_values | go_skip | go_guarded | go_step | go_upon)
              clear z1 z2 z3
              apply wp_cutA (fun a dv t => ((((((((((((((((((((a.put (some 45) (.pointer (some ⟨w.heap.size, 1, none⟩))).put (some 46) (.slice (some ⟨b1, o1, none⟩) g.2.length cf)).put (some 47) (.slice (some ⟨b, o, none⟩) ws.length sc)).put (some 48) (.int .i64 (k : Int))).put (some 49) (.int .i64 (K : Int))).put (some 50) (.pointer (some ⟨b, o + K, none⟩))).put (some 51) (.int .i64 (Y : Int))).put (some 52) (.pointer (some ⟨b1, o1 + Y, none⟩))).put (some 53) (.slice au1 f1.length cu1)).put (some 54) (.pointer (some ⟨w.heap.size, 1, none⟩))).put (some 55) (.slice (some ⟨b1, o1, none⟩) g.2.length cf)).put (some 56) (.int .i64 (X : Int))).put (some 57) (.pointer (some ⟨b1, o1 + X, none⟩))).put (some 58) (.slice au2 f2.length cu2)).put (some 59) (.tuple #[dv, .bool t])).put (some 44) (.tuple #[dv, .bool t])).put (some 60) (dv)).put (some 61) (.bool t)).put (some 9) (dv)).put (some 10) (.bool t))) (F := fun dv t W' => ∃ d, DoorV W' w3.heap.size dv d ∧ DoorIs f1 f2 d t ∧ Kept w3 W')
              · clear HRS HRL hrl2 HOK HNP HK hwz hlt HS HSW HT HTL hkc HK2 HM HK3 HX HIN HG HF La LaR HFW HFO HK1 hj0 hy0 hy1 hy2 HGG hk h1 h2
                repeat (rename_i X9; clear X9)
                have HSE : Hid (Calls Try.prog 70 #[.slice au1 f1.length cu1, .slice au2 f2.length cu2] w3.drew fun e w' => ∃ v' t d, e = .returned (.tuple #[v', .bool t]) ∧ DoorV w' w3.heap.size v' d ∧ DoorIs f1 f2 d t ∧ Kept w3 w') := (HSD.out w3.drew ((But.refl _ _ w3).drew)).mono fun e w' ⟨⟨v', d, t, h1, h2, h3⟩, k⟩ => ⟨v', t, d, h1, h2, h3, But.trans ((But.refl _ _ w3).drew) k⟩
                clear HSD HKK
                go_region_held3 (fun w' => w'.cell? ⟨w.heap.size, 1, none⟩ = some (.slice (some ⟨b1, o1, none⟩) g.2.length cf) ∧ w'.cell? ⟨b, o + K, none⟩ = some (.int .i64 (Y : Int)) ∧ w'.cell? ⟨b1, o1 + Y, none⟩ = some (.slice au1 f1.length cu1) ∧ w'.cell? ⟨b1, o1 + X, none⟩ = some (.slice au2 f2.length cu2)) (simp [go_sem, *])
                  (first | (go_at_call 70; refine HSE.out.mono ?_; rintro e w4 ⟨v4, t4, d4, rfl, H4⟩; have H5 : Hid (DoorV w4 w3.heap.size v4 d4 ∧ DoorIs f1 f2 d4 t4 ∧ Kept w3 w4) := H4; have k4 := H4.2.2; have a1 := Kept.cell k4 a1; have e1 := Kept.cell k4 e1; have e2 := Kept.cell k4 e2; have e3 := Kept.cell k4 e3; clear H4 k4))
                all_goals exact ⟨v4, t4, rfl, d4, H5.out⟩
              · rintro dv t w4 ⟨d, hdv, hdi, k4⟩
                have HDV : Hid (DoorV w4 w3.heap.size dv d) := hdv
                have HDI : Hid (DoorIs f1 f2 d t) := hdi
                have HK4 : Hid (Kept w3 w4) := k4
                have hw4 : w1.heap.size ≤ w4.heap.size := by have := HK3.out.size; have := k4.size; omega
                obtain ⟨da, dn, dc, hfd⟩ : ∃ da dn dc, dv = .slice da dn dc := by
                  rcases hdv with ⟨h, _⟩ | ⟨R, i, _, _, _, _, _, h, _⟩
                  · exact ⟨none, 0, 0, h⟩
                  · exact ⟨_, 2, 2, h⟩
                subst hfd
                clear hdv hdi k4 e1 e2 e3 a1 HSD
                cases t with
                | false =>
                  repeat (first | go_values | go_skip | go_guarded | go_step | go_upon)
                  refine bodyPost_ret (v := .tuple #[.slice none 0 0, .bool false]) (by simp [results, Try.results32, go_sem]) rfl ?_
                  refine doorsO_no (fun h => ?_) (((HK1.out.trans HK.out).trans HK3.out).trans HK4.out)
                  have h9 := (h.2.2.2 k hlt).2.2 (by have := HKK.out; omega)
                  rw [HFO.out.1, HFO.out.2] at h9
                  have := (door_has HDI.out).2 h9
                  cases this
                | true =>
                  repeat (first
                  | (at_builtin
                     refine wpList_append_own _ rfl _ _ 24 rfl w1.heap.size 27 j0 (.slice none 0 0) 1 24 Try.underlying24 hj0 hy0 hy1 hy2 rfl (by decide) _ _ _ rfl (own_kept HNP.out.row.1 ((HK3.out.trans HK4.out).alloc _)) ⟨w4.heap.size, 0, none⟩ 1 1 [.slice da dn dc] rfl rfl (news1 (Loc.new w4 [.slice da dn dc] 27)) (by simp [Value.oneCell']) (by unfold maxLen; omega) (by omega) (by simp; omega) ?_
                     intro v' w5 hown' hgrow _
                     obtain ⟨ao5, cap5, hf5, _⟩ := own_form hown'
                     subst hf5
                     have HK5 : Hid (Kept w1 w5) := (((HK.out.trans HK3.out).trans HK4.out).alloc _).grown hgrow (by intro x hx; have := own_lt HNP.out.row.1 hx; omega)
                     have HD5 : Hid (NumsP w5 w1.heap.size w5.heap.size (.slice ao5 (rs.length + 1) cap5) (rs ++ [(.slice da dn dc, d)])) := NumsP.snoc HNP.out (HK3.out.trans HK4.out) hwz ((NumP.door HDV.out).mono HK3.out.size (Nat.le_refl _)) hown' hgrow
                     clear hgrow hown')
                  | go_values | go_skip | go_guarded | go_step | go_upon)
                  have hk1 : 0 < k := by have := HKK.out; omega
                  refine ⟨⟨k + 1, rs ++ [(.slice da dn dc, d)], ao5, cap5, hlt, by go_num, by simp, by simpa using HD5.out, ?_, fun j hj => ?_, HK5.out⟩, by simp [intOf]; omega⟩
                  · rw [doorsM_succ g ws hk1, List.map_append, HRS.out, HFO.out.1, HFO.out.2, ← doorD_is HDI.out]
                    rfl
                  · rcases Nat.lt_succ_iff_lt_or_eq.1 hj with hj | rfl
                    · exact HOK.out j hj
                    · refine ⟨by rw [HX.out.2]; exact HIN.out, HM.out, fun _ => ?_⟩
                      rw [HFO.out.1, HFO.out.2]
                      exact (door_has HDI.out).1 rfl
        · have hd : decide (0 ≤ x ∧ x < (g.2.length : Int)) = false := decide_eq_false hin
          refine (ihas g _ _ x _ HFW.out.at hn).mono ?_
          rw [hd]
          rintro e w2 ⟨rfl, k2⟩
          have HIN : Hid (¬ (0 ≤ x ∧ x < (g.2.length : Int))) := hin
          clear hd hin
          dsimp only
          repeat (first | go_values | go_skip | go_guarded | go_step | go_upon)
          refine bodyPost_ret (v := .tuple #[.slice none 0 0, .bool false]) (by simp [results, Try.results32, go_sem]) rfl ?_
          exact doorsO_no (fun h => HIN.out (by have := (h.2.2.2 k hlt).1; rw [HX.out.2] at this; exact this)) ((HK1.out.trans HK.out).trans k2)
      · have hke : k = ws.length := by omega
        repeat (first | go_values | go_skip | go_guarded | go_step | go_upon)
        have hW : WayOk g ws := ⟨HGG.out, by omega, by omega, fun i hi => HOK.out i (by omega)⟩
        refine bodyPost_ret (v := .tuple #[.slice ao rs.length c, .bool true]) (by simp [results, Try.results32, go_sem]) rfl ?_
        refine ⟨⟨_, by rw [doorsR_yes hW], ?_⟩, KC⟩
        rw [doorsR_yes hW]
        refine ⟨rs, HNP.out.mono HK1.out.size (Nat.le_refl _), ?_⟩
        rw [HRS.out, hke]
  · have he := says_false hg hs
    subst he
    have HGG : Hid (¬ GoodG g) := hg
    clear hg hs
    dsimp only
    repeat (first | go_values | go_skip | go_guarded | go_step | go_upon)
    refine bodyPost_ret (v := .tuple #[.slice none 0 0, .bool false]) (by simp [results, Try.results32, go_sem]) rfl ?_
    exact doorsO_no (fun h => HGG.out h.1) KA

end Go.Proofs.Ythohgehhoogpnaa
