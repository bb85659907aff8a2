/-
  The faces beside a face, in the program.
-/
import Derived.Test.YthohgehhoogpnaaBeside8
namespace Go.Proofs.Ythohgehhoogpnaa
open Go.ChangeShapes Go.WideShapes Go.ChangeAt Go.RowKit

set_option maxRecDepth 100000
set_option linter.unusedVariables false
/-- A good face has no door into itself. -/
theorem no_self {pts : List Spot2D} {f : List NumD} (h : FaceOk pts f) : ¬ HasDoor f f := by
  rintro ⟨i, p, q, h1, h2, e, h3, h4⟩
  have ho := once_of h.2.2.1
  have hl := h.1
  have hi : i < f.length := (List.getElem?_eq_some_iff.1 h1).1
  have he : e < f.length := (List.getElem?_eq_some_iff.1 h3).1
  have e1 := ho _ _ _ h2 h3
  have e2 := ho _ _ _ h4 h1
  by_cases c1 : i + 1 < f.length
  · rw [Nat.mod_eq_of_lt c1] at e1
    by_cases c2 : e + 1 < f.length
    · rw [Nat.mod_eq_of_lt c2] at e2
      omega
    · rw [show e + 1 = f.length by omega, Nat.mod_self] at e2
      omega
  · rw [show i + 1 = f.length by omega, Nat.mod_self] at e1
    rw [← e1] at e2
    rw [Nat.mod_eq_of_lt (by omega)] at e2
    omega
theorem getD_of {α : Type} {l : List α} {i : Nat} {a d : α} (h : l[i]? = some a) : l.getD i d = a := by rw [List.getD_eq_getElem?_getD, h]; rfl

set_option maxHeartbeats 8000000 in
theorem ibeside (g : GroundD) (pv fv : Value) (w : World) (lo hi : Nat) (hF : LLO w lo hi fv g.2) (hg2 : g.2.length ≤ 20) (k : Nat) (hk : k < g.2.length) (hfo : ∀ f ∈ g.2, FaceOk g.1 f) :
    Calls Try.prog 65 #[.agg #[pv, fv], .int .i64 (k : Int)] w fun e w' => (∃ v', e = .returned v' ∧ NumO w' w.heap.size w'.heap.size v' (besM g k g.2.length)) ∧ Kept w w' := by
  obtain ⟨f, hf⟩ : ∃ f, g.2[k]? = some f := ⟨_, List.getElem?_eq_getElem hk⟩
  have hff := hfo f (List.mem_of_getElem? hf)
  have hf3 := hff.1
  have hf8 := hff.2.1
  have hgf : g.2.getD k [] = f := getD_of hf
  obtain ⟨af, cf, hsl⟩ := hF.form
  subst hsl
  obtain ⟨W0, hW0⟩ : ∃ W, W = w.alloc (.cells #[pv, .slice af g.2.length cf] 26) := ⟨_, rfl⟩
  have K0 : Kept w W0 := by rw [hW0]; exact (But.refl _ _ _).alloc _
  have g1 : W0.cell? ⟨w.heap.size, 1, none⟩ = some (.slice af g.2.length cf) := by rw [hW0]; simp [go_sem]
  have HW0 : Hid (W0 = _) := hW0
  clear hW0
  go_enter Try.func65, Try.ntmps65
  repeat (first | go_values | go_skip | go_guarded | go_step | go_upon)
  rw [← HW0.out]
  have HF0 : Hid (LLO W0 lo hi (.slice af g.2.length cf) g.2) := hF.kept K0
  clear HW0 hF
  obtain ⟨i0, hi0, hz0, hz1, hz2⟩ := info_parts info3
  go_loopw [5, 13] (fun e i wr => ∃ (m : Nat) (l : List NumD) (ao : Option Addr) (c : Nat), m ≤ g.2.length ∧ i = .int .i64 m ∧ besM g k m = l ∧ e = .slice ao l.length c ∧ wr.ownsRow W0.heap.size 3 1 (.slice ao l.length c) l.length (l.flatMap numC) ∧ Kept W0 wr) (fun e i _ => g.2.length - (intOf i).toNat)
  case atStart => exact ⟨0, [], none, 0, by omega, rfl, rfl, rfl, World.ownsRow_nil _ _ _ _, But.refl _ _ _⟩
  case round =>
    obtain ⟨m, l, ao, c, hm, rfl, hbm, rfl, hown, hkp⟩ := hrel
    have HBM : Hid (besM g k m = l) := hbm
    have hll : l.length ≤ m := by rw [← hbm]; exact besM_len g k m
    have HO : Hid (wr.ownsRow W0.heap.size 3 1 (.slice ao l.length c) l.length (l.flatMap numC)) := hown
    have HK : Hid (Kept W0 wr) := hkp
    have hwz := hkp.size
    have y1 := Kept.cell hkp g1
    clear hbm hown
    by_cases hlt : m < g.2.length
    · obtain ⟨o, hom⟩ : ∃ f, g.2[m]? = some f := ⟨_, List.getElem?_eq_getElem hlt⟩
      have hoo := hfo o (List.mem_of_getElem? hom)
      have ho8 := hoo.2.1
      have hgo : g.2.getD m [] = o := getD_of hom
      obtain ⟨b, o1, cap1, u, e, c0, hu⟩ := lLO_get (HF0.out.kept hkp) hf
      cases e
      obtain ⟨au, cu, hsu⟩ := row_nil hu.at
      subst hsu
      obtain ⟨b2, o2, cap2, u2, e, c2, hu2⟩ := lLO_get (HF0.out.kept hkp) hom
      cases e
      obtain ⟨au2, cu2, hsu⟩ := row_nil hu2.at
      subst hsu
      have HSD : Hid (Calls Try.prog 70 #[.slice au f.length cu, .slice au2 o.length cu2] wr fun e w' => (∃ v' d t, e = .returned (.tuple #[v', .bool t]) ∧ DoorV w' wr.heap.size v' d ∧ DoorIs f o d t) ∧ Kept wr w') := idoor f o _ _ wr lo hi hu hu2.at (by omega) (by omega) (by omega) (once_of hoo.2.2.1)
      have HH : Hid ((m ≠ k ∧ HasDoor (g.2.getD k []) (g.2.getD m [])) ↔ HasDoor f o) := by
        show _ ↔ _
        rw [hgf, hgo]
        refine ⟨fun h => h.2, fun h => ⟨fun e => ?_, h⟩⟩
        subst e
        rw [hf] at hom
        cases hom
        exact no_self hff h
      have k1' : (k : Int) < (g.2.length : Int) := by omega
      clear hom hgo hkp hu hu2 hoo
      repeat (first | go_values | go_skip | go_guarded | go_step | go_upon)
      refine HSD.out.mono ?_
      rintro e w1 ⟨⟨v', d, t, rfl, hod, hdi⟩, k1⟩
      have HT : Hid (t = true ↔ HasDoor f o) := door_has hdi
      have HK1 : Hid (Kept W0 w1) := HK.out.trans k1
      have HO1 : Hid (w1.ownsRow W0.heap.size 3 1 (.slice ao l.length c) l.length (l.flatMap numC)) := own_kept HO.out k1
      have hw1 := HK1.out.size
      clear hod hdi k1 c0 c2 y1
      dsimp only
      cases t with
      | false =>
        repeat (first | go_values | go_skip | go_guarded | go_step | go_upon)
        refine ⟨⟨m + 1, l, ao, c, hlt, by go_num, ?_, rfl, HO1.out, HK1.out⟩, by simp [intOf]; omega⟩
        rw [besM_no (fun h => by have := HT.out.2 (HH.out.1 h); cases this)]
        exact HBM.out
      | true =>
        repeat (first
          | (at_builtin
             refine wpList_append_own _ rfl _ _ 27 rfl W0.heap.size 3 i0 (.int .i64 0) 1 8 Try.underlying27 hi0 hz0 hz1 hz2 rfl (by decide) _ _ _ rfl (own_kept HO1.out ((But.refl _ _ w1).alloc _)) ⟨w1.heap.size, 0, none⟩ 1 1 [.int .i64 (m : Int)] rfl rfl (news1 (Loc.new w1 [.int .i64 (m : Int)] 3)) (by simp [Value.oneCell']) (by unfold maxLen; omega) (by omega) (by simp; omega) ?_
             intro v' w2 hown' hgrow _
             obtain ⟨ao5, cap5, hf5, _⟩ := own_form hown'
             subst hf5
             have HK5 : Hid (Kept W0 w2) := (HK1.out.alloc _).grown hgrow (by intro x hx; have := own_lt HO1.out hx; omega)
             have HW : Hid (w2.ownsRow W0.heap.size 3 1 (.slice ao5 (l.length + 1) cap5) (l.length + 1) (l.flatMap numC ++ [.int .i64 (m : Int)])) := hown'
             clear hgrow hown')
          | go_values | go_skip | go_guarded | go_step | go_upon)
        refine ⟨⟨m + 1, l ++ [(m : Int)], ao5, cap5, hlt, by go_num, ?_, by simp, by simpa [List.flatMap_append, numC] using HW.out, HK5.out⟩, by simp [intOf]; omega⟩
        rw [besM_yes (HH.out.2 (HT.out.1 rfl)), HBM.out]
    · have hke : m = g.2.length := by omega
      subst hke
      repeat (first | go_values | go_skip | go_guarded | go_step | go_upon)
      refine bodyPost_ret (v := .slice ao l.length c) (by simp [results, Try.results65, go_sem]) rfl ?_
      refine ⟨⟨_, rfl, ?_⟩, K0.trans HK.out⟩
      rw [HBM.out]
      have := K0.size
      exact RowO.mono (RowO.top HO.out) this (Nat.le_refl _)

/-- What Beside answers. -/
def BesIs (g : GroundD) (k : Int) (l : List NumD) (t : Bool) : Prop := (¬ (GoodG g ∧ 0 ≤ k ∧ k < (g.2.length : Int)) ∧ l = [] ∧ t = false) ∨ (GoodG g ∧ 0 ≤ k ∧ k < (g.2.length : Int) ∧ l = besM g k.toNat g.2.length ∧ t = true)
open Classical in
noncomputable def besR (g : GroundD) (k : Int) : List NumD × Bool := if GoodG g ∧ 0 ≤ k ∧ k < (g.2.length : Int) then (besM g k.toNat g.2.length, true) else ([], false)
theorem besR_yes {g : GroundD} {k : Int} (h : GoodG g ∧ 0 ≤ k ∧ k < (g.2.length : Int)) : besR g k = (besM g k.toNat g.2.length, true) := if_pos h
theorem besR_no {g : GroundD} {k : Int} (h : ¬ (GoodG g ∧ 0 ≤ k ∧ k < (g.2.length : Int))) : besR g k = ([], false) := if_neg h
theorem faces_of {g : GroundD} (h : GoodG g) : ∀ f ∈ g.2, FaceOk g.1 f := fun f hf => by
  obtain ⟨i, hi⟩ := List.mem_iff_getElem?.1 hf
  exact good_face h hi
theorem num_nil (w : World) (lo hi : Nat) : NumO w lo hi (.slice none 0 0) [] := ⟨World.ownsRow_nil _ _ _ _, fun g hg => by simp [Value.ownBlock] at hg⟩
def BesO (g : GroundD) (k : Int) (u : World) (e : Ending) (u' : World) : Prop := (∃ v', e = .returned (.tuple #[v', .bool (besR g k).2]) ∧ NumO u' u.heap.size u'.heap.size v' (besR g k).1) ∧ Kept u u'

set_option maxHeartbeats 8000000 in
theorem ibes (g : GroundD) (v : Value) (lo hi : Nat) (w : World) (ho : GroundO w lo hi v g) (hm : g.1.length ≤ 1048576) (hn : g.2.length ≤ 1048576) (hl : ∀ f ∈ g.2, f.length ≤ 1048576) (k : Int) :
    Calls Try.prog 24 #[v, .int .i64 k] w (BesO g k w) := by
  obtain ⟨ap, cp, af, cf, hfm⟩ := ho.at.form
  subst hfm
  have HG : Hid (∀ (u : World), Kept w u → Calls Try.prog 19 #[.agg #[.slice ap g.1.length cp, .slice af g.2.length cf]] u fun e u' => Says (GoodG g) e ∧ Kept u u') := fun u k => igood g _ lo hi u (ho.kept k) hm hn hl
  have ho' := ho
  obtain ⟨pv, fv, e, hP, hF⟩ := ho'
  cases e
  have HF : Hid (LLO w lo hi (.slice af g.2.length cf) g.2) := hF
  clear ho hP hF
  go_enter Try.func24, Try.ntmps24
  repeat (first | go_values | go_skip | go_guarded | go_step | go_upon)
  refine (HG.out _ (by exact ((But.refl _ _ w).alloc _))).mono ?_
  rintro e w1 ⟨hs, k1⟩
  have KA : Kept w w1 := ((But.refl _ _ w).alloc _).trans k1
  have La := (Loc.new w [.slice ap g.1.length cp, .slice af g.2.length cf] 26).kept k1
  have a0 := La.cell 0 rfl
  have a1 := La.cell 1 rfl
  by_cases hg : GoodG g
  · have he := says_true hg hs
    subst he
    have HGG : Hid (GoodG g) := hg
    clear hg hs
    dsimp only
    repeat (first | go_values | go_skip | go_guarded | go_step | go_upon)
    go_at_call 64
    by_cases hin : 0 ≤ k ∧ k < (g.2.length : Int)
    · have hd : decide (0 ≤ k ∧ k < (g.2.length : Int)) = true := decide_eq_true hin
      refine (ihas g _ _ k _ (HF.out.kept KA).at hn).mono ?_
      rw [hd]
      rintro e w2 ⟨rfl, k2⟩
      have HIN : Hid (0 ≤ k ∧ k < (g.2.length : Int)) := hin
      have La := La.kept k2
      have KB := KA.trans k2
      clear a0 a1 k1 k2 hd hin KA
      have a0 := La.cell 0 rfl
      have a1 := La.cell 1 rfl
      dsimp only
      repeat (first | go_values | go_skip | go_guarded | go_step | go_upon)
      go_at_call 65
      obtain ⟨K, hK⟩ : ∃ K : Nat, k = (K : Int) := ⟨k.toNat, by have := HIN.out.1; omega⟩
      subst hK
      refine (ibeside g _ _ _ lo hi (HF.out.kept KB) HGG.out.2.2.1 K (by have := HIN.out.2; omega) (faces_of HGG.out)).mono ?_
      rintro e w3 ⟨⟨v', rfl, o3⟩, k3⟩
      obtain ⟨ao3, cap3, hfm⟩ := o3.form
      subst hfm
      have HO3 : Hid (NumO w3 w2.heap.size w3.heap.size _ _) := o3
      clear o3
      dsimp only
      repeat (first | go_values | go_skip | go_guarded | go_step | go_upon)
      refine bodyPost_ret (v := .tuple #[.slice ao3 (besM g K g.2.length).length cap3, .bool true]) (by simp [results, Try.results24, go_sem]) rfl ?_
      refine ⟨⟨_, by rw [besR_yes ⟨HGG.out, HIN.out⟩], ?_⟩, KB.trans k3⟩
      rw [besR_yes ⟨HGG.out, HIN.out⟩]
      exact HO3.out.mono KB.size (Nat.le_refl _)
    · have hd : decide (0 ≤ k ∧ k < (g.2.length : Int)) = false := decide_eq_false hin
      refine (ihas g _ _ k _ (HF.out.kept KA).at hn).mono ?_
      rw [hd]
      rintro e w2 ⟨rfl, k2⟩
      have HIN : Hid (¬ (GoodG g ∧ 0 ≤ k ∧ k < (g.2.length : Int))) := fun h => hin h.2
      clear hin hd
      dsimp only
      repeat (first | go_values | go_skip | go_guarded | go_step | go_upon)
      refine bodyPost_ret (v := .tuple #[.slice none 0 0, .bool false]) (by simp [results, Try.results24, go_sem]) rfl ?_
      refine ⟨⟨_, by rw [besR_no HIN.out], ?_⟩, KA.trans k2⟩
      rw [besR_no HIN.out]
      exact num_nil _ _ _
  · have he := says_false hg hs
    subst he
    have HIN : Hid (¬ (GoodG g ∧ 0 ≤ k ∧ k < (g.2.length : Int))) := fun h => hg h.1
    clear hg hs
    dsimp only
    repeat (first | go_values | go_skip | go_guarded | go_step | go_upon)
    refine bodyPost_ret (v := .tuple #[.slice none 0 0, .bool false]) (by simp [results, Try.results24, go_sem]) rfl ?_
    refine ⟨⟨_, by rw [besR_no HIN.out], ?_⟩, KA⟩
    rw [besR_no HIN.out]
    exact num_nil _ _ _

set_option maxHeartbeats 8000000 in
theorem sbes (g : GroundD) (v : Value) (lo hi : Nat) (w : World) (ho : GroundO w lo hi v g) (hm : g.1.length ≤ 1048576) (hn : g.2.length ≤ 1048576) (hl : ∀ f ∈ g.2, f.length ≤ 1048576) (k : Int) :
    Calls Try.prog 23 #[v, .int .i64 k] w (BesO g k w) := by
  obtain ⟨ap, cp, af, cf, hfm⟩ := ho.at.form
  subst hfm
  have HG : Hid (∀ (u : World), Kept w u → Calls Try.prog 17 #[.agg #[.slice ap g.1.length cp, .slice af g.2.length cf]] u fun e u' => Says (GoodG g) e ∧ Kept u u') := fun u k => sgood g _ lo hi u (ho.kept k) hm hn hl
  obtain ⟨hP, hF⟩ := ho.at.parts
  have HF : Hid (LLAt w (.slice af g.2.length cf) g.2) := hF
  clear ho hP hF
  go_enter Try.func23, Try.ntmps23
  repeat (first | go_values | go_skip | go_guarded | go_step | go_upon)
  refine (HG.out _ (by exact ((But.refl _ _ w).alloc _))).mono ?_
  rintro e w1 ⟨hs, k1⟩
  have KA : Kept w w1 := ((But.refl _ _ w).alloc _).trans k1
  have La := (Loc.new w [.slice ap g.1.length cp, .slice af g.2.length cf] 26).kept k1
  have a0 := La.cell 0 rfl
  have a1 := La.cell 1 rfl
  by_cases hg : GoodG g
  · have he := says_true hg hs
    subst he
    have HGG : Hid (GoodG g) := hg
    clear hg hs
    dsimp only
    repeat (first | go_values | go_skip | go_guarded | go_step | go_upon)
    go_at_call 62
    refine (sInG _ _ _ _).mono ?_
    by_cases hin : 0 ≤ k ∧ k < (g.2.length : Int)
    · have hd : decide (0 ≤ k ∧ k ≤ (g.2.length : Int) - 1) = true := decide_eq_true (by omega)
      rw [hd]
      rintro e w2 ⟨rfl, rfl⟩
      have HIN : Hid (0 ≤ k ∧ k < (g.2.length : Int)) := hin
      clear hd hin
      dsimp only
      repeat (first | go_values | go_skip | go_guarded | go_step | go_upon)
      go_at_call 63
      obtain ⟨K, hK⟩ : ∃ K : Nat, k = (K : Int) := ⟨k.toNat, by have := HIN.out.1; omega⟩
      subst hK
      refine (sbeside g _ _ _ (HF.out.kept KA) HGG.out.2.2.1 K (by have := HIN.out.2; omega) hl).mono ?_
      rintro e w3 ⟨⟨v', rfl, o3⟩, k3⟩
      obtain ⟨ao3, cap3, hfm⟩ := o3.form
      subst hfm
      have HO3 : Hid (NumO w3 w2.heap.size w3.heap.size _ _) := o3
      clear o3
      dsimp only
      repeat (first | go_values | go_skip | go_guarded | go_step | go_upon)
      refine bodyPost_ret (v := .tuple #[.slice ao3 (besM g K g.2.length).length cap3, .bool true]) (by simp [results, Try.results23, go_sem]) rfl ?_
      refine ⟨⟨_, by rw [besR_yes ⟨HGG.out, HIN.out⟩], ?_⟩, KA.trans k3⟩
      rw [besR_yes ⟨HGG.out, HIN.out⟩]
      exact HO3.out.mono KA.size (Nat.le_refl _)
    · have hd : decide (0 ≤ k ∧ k ≤ (g.2.length : Int) - 1) = false := decide_eq_false (by omega)
      rw [hd]
      rintro e w2 ⟨rfl, rfl⟩
      have HIN : Hid (¬ (GoodG g ∧ 0 ≤ k ∧ k < (g.2.length : Int))) := fun h => hin h.2
      clear hin hd
      dsimp only
      repeat (first | go_values | go_skip | go_guarded | go_step | go_upon)
      refine bodyPost_ret (v := .tuple #[.slice none 0 0, .bool false]) (by simp [results, Try.results23, go_sem]) rfl ?_
      refine ⟨⟨_, by rw [besR_no HIN.out], ?_⟩, KA⟩
      rw [besR_no HIN.out]
      exact num_nil _ _ _
  · have he := says_false hg hs
    subst he
    have HIN : Hid (¬ (GoodG g ∧ 0 ≤ k ∧ k < (g.2.length : Int))) := fun h => hg h.1
    clear hg hs
    dsimp only
    repeat (first | go_values | go_skip | go_guarded | go_step | go_upon)
    refine bodyPost_ret (v := .tuple #[.slice none 0 0, .bool false]) (by simp [results, Try.results23, go_sem]) rfl ?_
    refine ⟨⟨_, by rw [besR_no HIN.out], ?_⟩, KA⟩
    rw [besR_no HIN.out]
    exact num_nil _ _ _

end Go.Proofs.Ythohgehhoogpnaa
