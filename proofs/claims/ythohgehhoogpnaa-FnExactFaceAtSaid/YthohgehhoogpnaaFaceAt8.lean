/-
  The first face that has a place: in the specification and in the program.
-/
import Derived.Test.YthohgehhoogpnaaGoodI8
import Derived.WalkMore
namespace Go.Proofs.Ythohgehhoogpnaa
open Go.ChangeShapes Go.WideShapes Go.ChangeAt Go.RowKit

set_option maxRecDepth 100000
set_option linter.unusedVariables false
/-- The number of the first face that has a place, -1 where none has. -/
def FirstIs (pts : List Spot2D) (fs : List (List NumD)) (p : Spot2D) (r : Int) : Prop :=
  (r = -1 ∧ (PlaceP p → ∀ (i : Nat) f, fs[i]? = some f → ¬ HasP pts f p)) ∨ ∃ (i : Nat) (f : List NumD), r = i ∧ PlaceP p ∧ fs[i]? = some f ∧ HasP pts f p ∧ ∀ (j : Nat) f', j < i → fs[j]? = some f' → ¬ HasP pts f' p
theorem first_one {pts : List Spot2D} {fs : List (List NumD)} {p : Spot2D} {r r' : Int} (h : FirstIs pts fs p r) (h' : FirstIs pts fs p r') : r = r' := by
  rcases h with ⟨rfl, h⟩ | ⟨i, f, rfl, hp, hf, hh, hb⟩ <;> rcases h' with ⟨rfl, h'⟩ | ⟨i', f', rfl, hp', hf', hh', hb'⟩
  · rfl
  · exact absurd hh' (h hp' i' f' hf')
  · exact absurd hh (h' hp i f hf)
  · rcases Nat.lt_trichotomy i i' with k | k | k
    · exact absurd hh (hb' i f k hf)
    · rw [k]
    · exact absurd hh' (hb i' f' k hf')
def FaceIs (g : GroundD) (p : Spot2D) (r : Int) : Prop := (¬ GoodG g ∧ r = -1) ∨ (GoodG g ∧ FirstIs g.1 g.2 p r)
theorem face_one {g : GroundD} {p : Spot2D} {r r' : Int} (h : FaceIs g p r) (h' : FaceIs g p r') : r = r' := by
  rcases h with ⟨hn, rfl⟩ | ⟨hg, h⟩ <;> rcases h' with ⟨hn', rfl⟩ | ⟨hg', h'⟩
  · rfl
  · exact absurd hg' hn
  · exact absurd hg hn'
  · exact first_one h h'
noncomputable def faceR (g : GroundD) (p : Spot2D) : Int := Classical.epsilon (FaceIs g p)
theorem face_is {g : GroundD} {p : Spot2D} {r : Int} (h : FaceIs g p r) : r = faceR g p := face_one h (Classical.epsilon_spec (p := FaceIs g p) ⟨r, h⟩)

set_option maxHeartbeats 8000000 in
theorem sfaceat (g : GroundD) (v : Value) (lo hi : Nat) (w : World) (ho : GroundO w lo hi v g) (hm : g.1.length ≤ 1048576) (hn : g.2.length ≤ 1048576) (hl : ∀ f ∈ g.2, f.length ≤ 1048576) (x y : Int) :
    Calls Try.prog 21 #[v, .int .i64 x, .int .i64 y] w fun e w' => e = .returned (.int .i64 (faceR g (x, y))) ∧ Kept w w' := by
  obtain ⟨ap, cp, af, cf, hfm⟩ := ho.at.form
  subst hfm
  have HG : Hid (∀ (u : World), Kept w u → Calls Try.prog 17 #[.agg #[.slice ap g.1.length cp, .slice af g.2.length cf]] u fun e u' => Says (GoodG g) e ∧ Kept u u') := fun u k => sgood g _ lo hi u (ho.kept k) hm hn hl
  obtain ⟨hP, hF⟩ := ho.at.parts
  have HP : Hid (Spot2At w (.slice ap g.1.length cp) g.1) := hP
  have HF : Hid (LLAt w (.slice af g.2.length cf) g.2) := hF
  clear ho hP hF
  go_enter Try.func21, Try.ntmps21
  repeat (first | go_values | go_skip | go_guarded | go_step | go_upon)
  refine (HG.out _ (by exact ((But.refl _ _ w).alloc _).alloc _)).mono ?_
  rintro e w1 ⟨hs, k1⟩
  have KA : Kept w w1 := (((But.refl _ _ w).alloc _).alloc _).trans k1
  have La := ((Loc.new w [.slice ap g.1.length cp, .slice af g.2.length cf] 26).alloc (.cells #[.int .i64 x, .int .i64 y] 29)).kept k1
  have Lp := (Loc.new (w.alloc (.cells #[.slice ap g.1.length cp, .slice af g.2.length cf] 26)) [.int .i64 x, .int .i64 y] 29).kept k1
  simp only [World.size_alloc] at Lp
  have p0 := Lp.cell 0 rfl
  have p1 := Lp.cell 1 rfl
  by_cases hg : GoodG g
  · have he := says_true hg hs
    subst he
    have HGG : Hid (GoodG g) := hg
    clear hg hs
    dsimp only
    by_cases hin : PlaceP (x, y)
    · have hd : decide (PlaceP (x, y)) = true := by simpa using hin
      have HIN : Hid (PlaceP (x, y)) := hin
      repeat (first | go_values | go_skip | go_guarded | go_step | go_upon)
      go_at_call 47
      refine (splace x y _).mono ?_
      rw [hd]
      rintro e w2 ⟨rfl, k2⟩
      have La := La.kept k2
      have Lp := Lp.kept k2
      have KB := KA.trans k2
      clear p0 p1 k1 k2 hd hin KA
      have a1 := La.cell 1 rfl
      dsimp only
      repeat (first | go_values | go_skip | go_guarded | go_step | go_upon)
      clear a1
      go_loopw [23] (fun i wr => ∃ k : Nat, k ≤ g.2.length ∧ i = .int .i64 k ∧ (∀ (j : Nat) f, j < k → g.2[j]? = some f → ¬ HasP g.1 f (x, y)) ∧ Kept w2 wr) (fun i _ => g.2.length - (intOf i).toNat)
      case atStart => exact ⟨0, by omega, rfl, fun j f hj => by omega, But.refl _ _ _⟩
      case round =>
        obtain ⟨k, hk, rfl, hok, hkp⟩ := hrel
        have HNO : Hid (∀ (j : Nat) f, j < k → g.2[j]? = some f → ¬ HasP g.1 f (x, y)) := hok
        clear hok
        by_cases hlt : k < g.2.length
        · obtain ⟨f, hfk⟩ : ∃ f, g.2[k]? = some f := ⟨_, List.getElem?_eq_getElem hlt⟩
          have HFK : Hid (g.2[k]? = some f) := hfk
          have KC := KB.trans hkp
          have HSH : Hid (Calls Try.prog 48 #[.agg #[.slice ap g.1.length cp, .slice af g.2.length cf], .int .i64 (k : Int), .agg #[.int .i64 x, .int .i64 y]] wr fun e w' => Says (HasP g.1 f (x, y)) e ∧ Kept wr w') := shas g _ _ wr (HP.out.kept KC) (HF.out.kept KC) HGG.out k f hfk x y HIN.out
          have a0 := (La.kept hkp).cell 0 rfl
          have a1 := (La.kept hkp).cell 1 rfl
          have p0 := (Lp.kept hkp).cell 0 rfl
          have p1 := (Lp.kept hkp).cell 1 rfl
          have HKP : Hid (Kept w2 wr) := hkp
          have HKC : Hid (Kept w wr) := KC
          clear hfk hkp KC
          repeat (first | go_values | go_skip | go_guarded | go_step | go_upon)
          refine HSH.out.mono ?_
          rintro e w3 ⟨hs, k3⟩
          by_cases hh : HasP g.1 f (x, y)
          · have he := says_true hh hs
            subst he
            have HH : Hid (HasP g.1 f (x, y)) := hh
            clear hh hs
            dsimp only
            repeat (first | go_values | go_skip | go_guarded | go_step | go_upon)
            go_ret
            exact ⟨ret_int (face_is (.inr ⟨HGG.out, .inr ⟨k, f, rfl, HIN.out, HFK.out, HH.out, HNO.out⟩⟩)), HKC.out.trans k3⟩
          · have he := says_false hh hs
            subst he
            have HH : Hid (¬ HasP g.1 f (x, y)) := hh
            clear hh hs
            dsimp only
            repeat (first | go_values | go_skip | go_guarded | go_step | go_upon)
            refine ⟨⟨k + 1, hlt, by go_num, fun j f' hj hf' => ?_, HKP.out.trans k3⟩, by simp [intOf]; omega⟩
            rcases Nat.lt_succ_iff_lt_or_eq.1 hj with hj | rfl
            · exact HNO.out j f' hj hf'
            · rw [HFK.out] at hf'
              cases hf'
              exact HH.out
        · have hke : k = g.2.length := by omega
          subst hke
          repeat (first | go_values | go_skip | go_guarded | go_step | go_upon)
          go_ret
          exact ⟨ret_int (face_is (.inr ⟨HGG.out, .inl ⟨rfl, fun _ i f hf => HNO.out i f (List.getElem?_eq_some_iff.1 hf).1 hf⟩⟩)), KB.trans hkp⟩
    · have hd : decide (PlaceP (x, y)) = false := by simpa using hin
      repeat (first | go_values | go_skip | go_guarded | go_step | go_upon)
      go_at_call 47
      refine (splace x y _).mono ?_
      rw [hd]
      rintro e w2 ⟨rfl, k2⟩
      dsimp only
      repeat (first | go_values | go_skip | go_guarded | go_step | go_upon)
      go_ret
      exact ⟨ret_int (face_is (.inr ⟨HGG.out, .inl ⟨rfl, fun h => absurd h hin⟩⟩)), KA.trans k2⟩
  · have he := says_false hg hs
    subst he
    have HGG : Hid (¬ GoodG g) := hg
    clear hg hs
    dsimp only
    repeat (first | go_values | go_skip | go_guarded | go_step | go_upon)
    go_ret
    exact ⟨ret_int (face_is (.inl ⟨HGG.out, rfl⟩)), KA⟩

set_option maxHeartbeats 8000000 in
theorem ifirst (pts : List Spot2D) (fs : List (List NumD)) (pv fv : Value) (lo hi : Nat) (w : World) (hP : Spot2At w pv pts) (hF : LLO w lo hi fv fs) (hm : pts.length ≤ 1048576) (hn : fs.length ≤ 1048576) (hpl : ∀ p ∈ pts, PlaceP p) (hfo : ∀ f ∈ fs, FaceOk pts f) (x y : Int) :
    Calls Try.prog 61 #[pv, fv, .agg #[.int .i64 x, .int .i64 y]] w fun e w' => (∃ r, e = .returned (.int .i64 r) ∧ FirstIs pts fs (x, y) r) ∧ Kept w w' := by
  obtain ⟨ap, cp, hsl⟩ := row_nil hP
  subst hsl
  obtain ⟨af, cf, hsl⟩ := hF.form
  subst hsl
  by_cases hin : PlaceP (x, y)
  · have hd : decide (PlaceP (x, y)) = true := by simpa using hin
    go_enter Try.func61, Try.ntmps61
    repeat (first | go_values | go_skip | go_guarded | go_step | go_upon)
    go_step3
    repeat (first | go_values | go_skip | go_guarded | go_step | go_upon)
    go_at_call 80
    refine (ion x y _).mono ?_
    rw [hd]
    rintro e w1 ⟨rfl, k1⟩
    dsimp only
    repeat (first | go_values | go_skip | go_guarded | go_step | go_upon)
    go_step3
    repeat (first | go_values | go_skip | go_guarded | go_step | go_upon)
    have KA : Kept w w1 := ((But.refl _ _ w).alloc _).trans k1
    have Lp := (Loc.new w [.int .i64 x, .int .i64 y] 29).kept k1
    have HIN : Hid (PlaceP (x, y)) := hin
    clear k1 hd hin
    go_loopw [16] (fun i wr => ∃ k : Nat, k ≤ fs.length ∧ i = .int .i64 k ∧ (∀ (j : Nat) f, j < k → fs[j]? = some f → ¬ HasP pts f (x, y)) ∧ Kept w1 wr) (fun i _ => fs.length - (intOf i).toNat)
    case atStart => exact ⟨0, by omega, rfl, fun j f hj => by omega, But.refl _ _ _⟩
    case round =>
      obtain ⟨k, hk, rfl, hok, hkp⟩ := hrel
      have HNO : Hid (∀ (j : Nat) f, j < k → fs[j]? = some f → ¬ HasP pts f (x, y)) := hok
      clear hok
      by_cases hlt : k < fs.length
      · obtain ⟨f, hfk⟩ : ∃ f, fs[k]? = some f := ⟨_, List.getElem?_eq_getElem hlt⟩
        have HFK : Hid (fs[k]? = some f) := hfk
        have KC := KA.trans hkp
        have hfo1 := hfo f (List.mem_of_getElem? hfk)
        have hf3 := hfo1.1
        have hf8 := hfo1.2.1
        obtain ⟨b, o, cap1, u, e, c0, hu⟩ := lLO_get (hF.kept KC) hfk
        cases e
        obtain ⟨au, cu, hsu⟩ := row_nil hu.at
        subst hsu
        have HKP : Hid (Kept w1 wr) := hkp
        have HKC : Hid (Kept w wr) := KC
        have HED0 : Hid (Calls Try.prog 82 #[.slice au f.length cu] wr fun e w' => (∃ v' R, e = .returned v' ∧ EdAt w' v' R f ∧ wr.heap.size ≤ R) ∧ Kept wr w') := iedgesE f _ wr lo hi hu (by omega) (by omega)
        have HPT : Hid _ := face_pt hfo1 hpl
        clear hfk hkp KC hu hfo1
        repeat (first | go_values | go_skip | go_guarded | go_step | go_upon)
        refine HED0.out.mono ?_
        rintro e w2 ⟨⟨ev, R, rfl, hed, hR⟩, k2⟩
        obtain ⟨ea, ec, hef⟩ := hed.form
        subst hef
        have HED : Hid (EdAt w2 (.slice ea f.length ec) R f) := hed
        have HK2 : Hid (Kept wr w2) := k2
        clear hed k2 HED0 c0
        dsimp only
        repeat (first | go_values | go_skip | go_guarded | go_step | go_upon)
        go_loopw [24] (fun i wz => ∃ m : Nat, m ≤ f.length ∧ i = .int .i64 m ∧ (∀ j, j < m → 0 ≤ cross (ptAt pts f j) (ptAt pts f ((j + 1) % f.length)) (x, y)) ∧ Kept w2 wz) (fun i _ => f.length - (intOf i).toNat)
        case atStart => exact ⟨0, by omega, rfl, fun j hj => by omega, But.refl _ _ _⟩
        case round =>
          rename World => WZ
          obtain ⟨m, hm', rfl, hne, hkz⟩ := hrel
          have HNE : Hid (∀ j, j < m → 0 ≤ cross (ptAt pts f j) (ptAt pts f ((j + 1) % f.length)) (x, y)) := hne
          clear hne
          by_cases hmt : m < f.length
          · obtain ⟨a, ha⟩ : ∃ q : Int, f[m]? = some q := ⟨_, List.getElem?_eq_getElem hmt⟩
            obtain ⟨d, hd⟩ : ∃ q : Int, f[(m + 1) % f.length]? = some q := ⟨_, List.getElem?_eq_getElem (Nat.mod_lt _ (by omega))⟩
            obtain ⟨i1, x1, y1, e1, hs1, hP1, ht1⟩ := HPT.out m a ha
            obtain ⟨i2, x2, y2, e2, hs2, hP2, ht2⟩ := HPT.out _ d hd
            subst e1 e2
            obtain ⟨b2, o2, cap2, e, c2, r0, r1⟩ := (HED.out.kept hkz).get hmt ha hd
            cases e
            have KZ := (HKC.out.trans HK2.out).trans hkz
            obtain ⟨b6, o6, cap6, e, u0, u1⟩ := spot2_get (hP.kept KZ) hs1
            cases e
            obtain ⟨b7, o7, cap7, e, v0, v1⟩ := spot2_get (hP.kept KZ) hs2
            cases e
            dsimp only at u0 u1 v0 v1
            have l1 : (i1 : Int) < (pts.length : Int) := by have := (List.getElem?_eq_some_iff.1 hs1).1; omega
            have l2 : (i2 : Int) < (pts.length : Int) := by have := (List.getElem?_eq_some_iff.1 hs2).1; omega
            obtain ⟨C, hC⟩ : ∃ C, cross (x1, y1) (x2, y2) (x, y) = C := ⟨_, rfl⟩
            have HC : Hid (cross (ptAt pts f m) (ptAt pts f ((m + 1) % f.length)) (x, y) = C) := by
              show _ = C
              rw [ht1, ht2, hC]
            have HCR : Hid (∀ W, Calls Try.prog 76 #[.agg #[.int .i64 x1, .int .i64 y1], .agg #[.int .i64 x2, .int .i64 y2], .agg #[.int .i64 x, .int .i64 y]] W fun e w' => e = .returned (.int .i64 C) ∧ Kept W w') := fun W => by
              have := iside x1 y1 x2 y2 x y W hP1 hP2 HIN.out
              rw [hC] at this
              exact this
            have LZ := ((Lp.kept HKP.out).kept HK2.out).kept hkz
            have p0 := LZ.cell 0 rfl
            have p1 := LZ.cell 1 rfl
            have q1 := LZ.lt
            have HKZ : Hid (Kept w2 WZ) := hkz
            have q2 := cell_ltG c2
            have q3 := cell_ltG u0
            have q4 := cell_ltG r0
            clear hC hs1 hs2 ht1 ht2 hP1 hP2 hkz ha hd KZ LZ
            by_cases hc0 : C < 0
            · have dc : decide (C < 0) = true := by simpa using hc0
              repeat (first | go_values | go_skip | go_guarded | go_step | go_upon)
              refine wp_region_kept (by kernel_rfl) (by kernel_rfl) ?_
              have hcc := KW.cell_eq WZ
              repeat (go_big_quiet_step (first | (go_at_call 76; exact kw_call (HCR.out _))))
              refine wpQuiet_nil ?_
              rintro w9 ⟨⟨w8, k9⟩, h9⟩
              change w9 = w8 at h9
              subst h9
              clear hcc
              repeat (first | go_values | go_skip | go_guarded | go_step | go_upon)
              go_roundw
              case rel =>
                refine ⟨k + 1, hlt, by go_num, fun j f' hj hf' => ?_, ((HKP.out.trans HK2.out).trans HKZ.out).trans k9⟩
                rcases Nat.lt_succ_iff_lt_or_eq.1 hj with hj | rfl
                · exact HNO.out j f' hj hf'
                · rw [HFK.out] at hf'
                  cases hf'
                  intro h
                  have := h m hmt
                  rw [HC.out] at this
                  omega
              case measure => simp [intOf]; omega
            · have dc : decide (C < 0) = false := by simpa using hc0
              repeat (first | go_values | go_skip | go_guarded | go_step | go_upon)
              refine wp_region_kept (by kernel_rfl) (by kernel_rfl) ?_
              have hcc := KW.cell_eq WZ
              repeat (go_big_quiet_step (first | (go_at_call 76; exact kw_call (HCR.out _))))
              refine wpQuiet_nil ?_
              rintro w9 ⟨⟨w8, k9⟩, h9⟩
              change w9 = w8 at h9
              subst h9
              clear hcc
              repeat (first | go_values | go_skip | go_guarded | go_step | go_upon)
              refine ⟨⟨m + 1, hmt, by go_num, fun j hj => ?_, HKZ.out.trans k9⟩, by simp [intOf]; omega⟩
              rcases Nat.lt_succ_iff_lt_or_eq.1 hj with hj | rfl
              · exact HNE.out j hj
              · rw [HC.out]
                omega
          · have hme : m = f.length := by omega
            subst hme
            repeat (first | go_values | go_skip | go_guarded | go_step | go_upon)
            try rw [Exit.noGoto_ret]
            go_ret
            exact ⟨⟨k, rfl, .inr ⟨k, f, rfl, HIN.out, HFK.out, HNE.out, HNO.out⟩⟩, (HKC.out.trans HK2.out).trans hkz⟩
      · have hke : k = fs.length := by omega
        subst hke
        repeat (first | go_values | go_skip | go_guarded | go_step | go_upon)
        try rw [Exit.noGoto_ret]
        go_ret
        exact ⟨⟨-1, rfl, .inl ⟨rfl, fun _ i f hf => HNO.out i f (List.getElem?_eq_some_iff.1 hf).1 hf⟩⟩, KA.trans hkp⟩
  · have hd : decide (PlaceP (x, y)) = false := by simpa using hin
    go_enter Try.func61, Try.ntmps61
    repeat (first | go_values | go_skip | go_guarded | go_step | go_upon)
    go_step3
    repeat (first | go_values | go_skip | go_guarded | go_step | go_upon)
    go_at_call 80
    refine (ion x y _).mono ?_
    rw [hd]
    rintro e w1 ⟨rfl, k1⟩
    dsimp only
    repeat (first | go_values | go_skip | go_guarded | go_step | go_upon)
    try rw [Exit.noGoto_ret]
    go_ret
    exact ⟨⟨-1, rfl, .inl ⟨rfl, fun h => absurd h hin⟩⟩, ((But.refl _ _ _).alloc _).trans k1⟩

set_option maxHeartbeats 8000000 in
theorem ifaceat (g : GroundD) (v : Value) (lo hi : Nat) (w : World) (ho : GroundO w lo hi v g) (hm : g.1.length ≤ 1048576) (hn : g.2.length ≤ 1048576) (hl : ∀ f ∈ g.2, f.length ≤ 1048576) (x y : Int) :
    Calls Try.prog 22 #[v, .int .i64 x, .int .i64 y] w fun e w' => e = .returned (.int .i64 (faceR g (x, y))) ∧ Kept w w' := by
  obtain ⟨ap, cp, af, cf, hfm⟩ := ho.at.form
  subst hfm
  have HG : Hid (∀ (u : World), Kept w u → Calls Try.prog 19 #[.agg #[.slice ap g.1.length cp, .slice af g.2.length cf]] u fun e u' => Says (GoodG g) e ∧ Kept u u') := fun u k => igood g _ lo hi u (ho.kept k) hm hn hl
  have ho' := ho
  obtain ⟨pv, fv, e, hP, hF⟩ := ho'
  cases e
  have HP : Hid (Spot2At w (.slice ap g.1.length cp) g.1) := hP.at
  have HF : Hid (LLO w lo hi (.slice af g.2.length cf) g.2) := hF
  clear ho hP hF
  go_enter Try.func22, Try.ntmps22
  repeat (first | go_values | go_skip | go_guarded | go_step | go_upon)
  refine (HG.out _ (by exact ((But.refl _ _ w).alloc _))).mono ?_
  rintro e w1 ⟨hs, k1⟩
  have KA : Kept w w1 := ((But.refl _ _ w).alloc _).trans k1
  have La := (Loc.new w [.slice ap g.1.length cp, .slice af g.2.length cf] 26).kept k1
  by_cases hg : GoodG g
  · have he := says_true hg hs
    subst he
    have HGG : Hid (GoodG g) := hg
    have a0 := La.cell 0 rfl
    have a1 := La.cell 1 rfl
    clear hg hs
    dsimp only
    repeat (first | go_values | go_skip | go_guarded | go_step | go_upon)
    go_at_call 61
    refine (ifirst g.1 g.2 _ _ lo hi _ (HP.out.kept KA) (HF.out.kept KA) hm hn (good_pl HGG.out) (fun f hf => ?_) x y).mono ?_
    · obtain ⟨i, hi'⟩ := List.mem_iff_getElem?.1 hf
      exact good_face HGG.out hi'
    · rintro e w2 ⟨⟨r, rfl, hr⟩, k2⟩
      have HR : Hid (FirstIs g.1 g.2 (x, y) r) := hr
      clear hr
      dsimp only
      repeat (first | go_values | go_skip | go_guarded | go_step | go_upon)
      go_ret
      exact ⟨ret_int (face_is (.inr ⟨HGG.out, HR.out⟩)), KA.trans k2⟩
  · have he := says_false hg hs
    subst he
    have HGG : Hid (¬ GoodG g) := hg
    clear hg hs
    dsimp only
    repeat (first | go_values | go_skip | go_guarded | go_step | go_upon)
    go_ret
    exact ⟨ret_int (face_is (.inl ⟨HGG.out, rfl⟩)), KA⟩

end Go.Proofs.Ythohgehhoogpnaa
