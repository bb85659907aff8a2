/-
  The faces beside a face, in the specification.
-/
import Derived.Test.YthohgehhoogpnaaDoorI8
namespace Go.Proofs.Ythohgehhoogpnaa
open Go.ChangeShapes Go.WideShapes Go.ChangeAt Go.RowKit

set_option maxRecDepth 100000
set_option linter.unusedVariables false
theorem forgetLB {P : Program} {ops : Array Oper} {Q : Exit → Act → World → Prop} {L : List Oper} {a : Act} {W : World} (F : World → Prop) (hF : F W) (h : ∀ W', F W' → wpList P ops Q L a W') : wpList P ops Q L a W := h W hF
def HasDoor (f o : List NumD) : Prop := ∃ i p q, DoorAt f o i p q
theorem door_has {f o d : List NumD} {t : Bool} (h : DoorIs f o d t) : t = true ↔ HasDoor f o := by
  rcases h with ⟨rfl, _, h⟩ | ⟨rfl, i, p, q, h, _⟩
  · simp only [Bool.false_eq_true, false_iff]
    rintro ⟨i, p, q, h'⟩
    exact h i p q h'
  · simp only [true_iff]
    exact ⟨i, p, q, h⟩
open Classical in
/-- The faces beside a face, as far as the first m. -/
noncomputable def besM (g : GroundD) (k : Nat) : Nat → List NumD
  | 0 => []
  | m + 1 => if m ≠ k ∧ HasDoor (g.2.getD k []) (g.2.getD m []) then besM g k m ++ [(m : Int)] else besM g k m
theorem besM_yes {g : GroundD} {k m : Nat} (h : m ≠ k ∧ HasDoor (g.2.getD k []) (g.2.getD m [])) : besM g k (m + 1) = besM g k m ++ [(m : Int)] := if_pos h
theorem besM_no {g : GroundD} {k m : Nat} (h : ¬ (m ≠ k ∧ HasDoor (g.2.getD k []) (g.2.getD m []))) : besM g k (m + 1) = besM g k m := if_neg h
theorem besM_len (g : GroundD) (k m : Nat) : (besM g k m).length ≤ m := by
  induction m with
  | zero => simp [besM]
  | succ m ih =>
    by_cases h : m ≠ k ∧ HasDoor (g.2.getD k []) (g.2.getD m [])
    · rw [besM_yes h]; simp; omega
    · rw [besM_no h]; omega

set_option maxHeartbeats 8000000 in
theorem sbeside (g : GroundD) (pv fv : Value) (w : World) (hF : LLAt w fv g.2) (hg2 : g.2.length ≤ 20) (k : Nat) (hk : k < g.2.length) (hl : ∀ f ∈ g.2, f.length ≤ 1048576) :
    Calls Try.prog 63 #[.agg #[pv, fv], .int .i64 (k : Int)] w fun e w' => (∃ v', e = .returned v' ∧ NumO w' w.heap.size w'.heap.size v' (besM g k g.2.length)) ∧ Kept w w' := by
  obtain ⟨f, hf⟩ : ∃ f, g.2[k]? = some f := ⟨_, List.getElem?_eq_getElem hk⟩
  have hfl := hl f (List.mem_of_getElem? hf)
  have hgf : g.2.getD k [] = f := by rw [List.getD_eq_getElem?_getD, hf]; rfl
  obtain ⟨af, cf, hsl⟩ := hF.form
  subst hsl
  obtain ⟨W0, hW0⟩ : ∃ W, W = w.alloc (.cells #[pv, .slice af g.2.length cf] 26) := ⟨_, rfl⟩
  have K0 : Kept w W0 := by rw [hW0]; exact (But.refl _ _ _).alloc _
  have g0 : W0.cell? ⟨w.heap.size, 0, none⟩ = some pv := by rw [hW0]; simp [go_sem]
  have g1 : W0.cell? ⟨w.heap.size, 1, none⟩ = some (.slice af g.2.length cf) := by rw [hW0]; simp [go_sem]
  have hz0 : w.heap.size < W0.heap.size := by rw [hW0]; simp
  have HW0 : Hid (W0 = _) := hW0
  clear hW0
  go_enter Try.func63, Try.ntmps63
  go_wp2
  rw [← HW0.out]
  have KW0 := K0
  have HF0 : Hid (LLAt W0 (.slice af g.2.length cf) g.2) := hF.kept K0
  clear HW0 hF
  obtain ⟨i0, hi0, hz0, hz1, hz2⟩ := info_parts info3
  go_loopw [5, 12] (fun e i wr => ∃ (m : Nat) (l : List NumD) (ao : Option Addr) (c : Nat), m ≤ g.2.length ∧ i = .int .i64 m ∧ besM g k m = l ∧ e = .slice ao l.length c ∧ wr.ownsRow W0.heap.size 3 1 (.slice ao l.length c) l.length (l.flatMap numC) ∧ Kept W0 wr) (fun e i _ => g.2.length - (intOf i).toNat)
  case atStart => exact ⟨0, [], none, 0, by omega, rfl, rfl, rfl, World.ownsRow_nil _ _ _ _, But.refl _ _ _⟩
  case round =>
    obtain ⟨m, l, ao, c, hm, rfl, hbm, rfl, hown, hkp⟩ := hrel
    have HBM : Hid (besM g k m = l) := hbm
    have hll : l.length ≤ m := by rw [← hbm]; exact besM_len g k m
    have HO : Hid (wr.ownsRow W0.heap.size 3 1 (.slice ao l.length c) l.length (l.flatMap numC)) := hown
    have HK : Hid (Kept W0 wr) := hkp
    have hwz := hkp.size
    have y0 := Kept.cell hkp g0
    have y1 := Kept.cell hkp g1
    clear hbm hown
    by_cases hlt : m < g.2.length
    · obtain ⟨o, hom⟩ : ∃ f, g.2[m]? = some f := ⟨_, List.getElem?_eq_getElem hlt⟩
      have hol := hl o (List.mem_of_getElem? hom)
      have hgo : g.2.getD m [] = o := by rw [List.getD_eq_getElem?_getD, hom]; rfl
      have HSD : Hid (Calls Try.prog 78 #[.agg #[pv, .slice af g.2.length cf], .int .i64 (k : Int), .int .i64 (m : Int)] wr fun e w' => (∃ v' d t, e = .returned (.tuple #[v', .bool t]) ∧ NumO w' wr.heap.size w'.heap.size v' d ∧ DoorIs f o d t) ∧ Kept wr w') := sdoor g _ _ wr (HF0.out.kept hkp) hg2 k m f o hf hom hfl hol
      have HH : Hid (HasDoor (g.2.getD k []) (g.2.getD m []) ↔ HasDoor f o) := by show _ ↔ _; rw [hgf, hgo]
      clear hom hgo hkp
      repeat (first | go_values | go_skip | go_guarded | go_step | go_upon)
      refine HSD.out.mono ?_
      rintro e w1 ⟨⟨v', d, t, rfl, hod, hdi⟩, k1⟩
      have HT : Hid (t = true ↔ HasDoor f o) := door_has hdi
      obtain ⟨ad, cd, hfd⟩ := hod.form
      subst hfd
      have HK1 : Hid (Kept W0 w1) := HK.out.trans k1
      have HO1 : Hid (w1.ownsRow W0.heap.size 3 1 (.slice ao l.length c) l.length (l.flatMap numC)) := own_kept HO.out k1
      have hw1 := HK1.out.size
      clear hod hdi k1
      dsimp only
      cases t with
      | false =>
        repeat (first | go_values | go_skip | go_guarded | go_step | go_upon)
        refine ⟨⟨m + 1, l, ao, c, hlt, by go_num, ?_, rfl, HO1.out, HK1.out⟩, by simp [intOf]; omega⟩
        rw [besM_no (fun h => by have := HT.out.2 (HH.out.1 h.2); cases this)]
        exact HBM.out
      | true =>
        by_cases hmk : m = k
        · have d1 : ((m : Int) == (k : Int)) = true := by simp [hmk]
          have d2 : ((m : Int) != (k : Int)) = false := by simp [hmk]
          have d3 : decide ((m : Int) = (k : Int)) = true := by simp [hmk]
          have d4 : decide (m = k) = true := by simp [hmk]
          have HMK : Hid (m = k) := hmk
          clear hmk
          repeat (first | go_values | go_skip | go_guarded | go_step | go_upon)
          refine ⟨⟨m + 1, l, ao, c, hlt, by go_num, ?_, rfl, HO1.out, HK1.out⟩, by simp [intOf]; omega⟩
          rw [besM_no (fun h => h.1 HMK.out)]
          exact HBM.out
        · have d1 : ((m : Int) == (k : Int)) = false := beq_eq_false_iff_ne.2 (by omega)
          have d2 : ((m : Int) != (k : Int)) = true := bne_iff_ne.2 (by omega)
          have d3 : decide ((m : Int) = (k : Int)) = false := decide_eq_false (by omega)
          have d4 : decide (m = k) = false := decide_eq_false (by omega)
          have HMK : Hid (m ≠ k) := hmk
          clear hmk
          repeat (first
            | (at_builtin
               refine wpList_append_own _ rfl _ _ 27 rfl W0.heap.size 3 i0 (.int .i64 0) 1 8 Try.underlying27 hi0 hz0 hz1 hz2 rfl (by decide) _ _ _ rfl (own_kept HO1.out ((But.refl _ _ w1).alloc _)) ⟨w1.heap.size, 0, none⟩ 1 1 [.int .i64 (m : Int)] rfl rfl (news1 (Loc.new w1 [.int .i64 (m : Int)] 3)) (by simp [Value.oneCell']) (by unfold maxLen; omega) (by omega) (by simp; omega) ?_
               intro v' w2 hown' hgrow _
               obtain ⟨ao5, cap5, hf5, _⟩ := own_form hown'
               subst hf5
               have HK5 : Hid (Kept W0 w2) := (HK1.out.alloc _).grown hgrow (by intro x hx; have := own_lt HO1.out hx; omega)
               have HW : Hid (w2.ownsRow W0.heap.size 3 1 (.slice ao5 (l.length + 1) cap5) (l.length + 1) (l.flatMap numC ++ [.int .i64 (m : Int)])) := hown'
               clear hgrow hown')
            | go_values | go_skip | go_guarded | go_step | go_upon)
          refine ⟨⟨m + 1, l ++ [(m : Int)], ao5, cap5, hlt, by go_num, ?_, by simp, by simpa [List.flatMap_append, numC] using HW.out, HK5.out⟩, by simp [intOf]; omega⟩
          rw [besM_yes ⟨HMK.out, HH.out.2 (HT.out.1 rfl)⟩, HBM.out]
    · have hke : m = g.2.length := by omega
      subst hke
      repeat (first | go_values | go_skip | go_guarded | go_step | go_upon)
      refine bodyPost_ret (v := .slice ao l.length c) (by simp [results, Try.results63, go_sem]) rfl ?_
      refine ⟨⟨_, rfl, ?_⟩, K0.trans HK.out⟩
      rw [HBM.out]
      have := K0.size
      exact RowO.mono (RowO.top HO.out) this (Nat.le_refl _)

end Go.Proofs.Ythohgehhoogpnaa
