/-
  What makes a ground a good one, in the specification.
-/
import Derived.Test.YthohgehhoogpnaaFace8
namespace Go.Proofs.Ythohgehhoogpnaa
open Go.ChangeShapes Go.WideShapes Go.ChangeAt Go.RowKit

set_option maxRecDepth 100000
set_option linter.unusedVariables false
theorem own_capR {w : World} {lo hi : Nat} {e : TypeId} {s : Nat} {v : Value} {m : Nat} {xs : List Value} (h : RowO w lo hi e s v m xs) : ∃ ao cap, v = .slice ao m cap ∧ m ≤ cap := by
  rcases h.1.2 with ⟨e1, e2⟩ | ⟨g, cap, cur, e, _, _, h1, _⟩
  · exact ⟨none, 0, by rw [e1, e2], by omega⟩
  · exact ⟨_, cap, e, h1⟩
def PtOk (pts : List Spot2D) (i : Nat) : Prop := ∀ p, pts[i]? = some p → PlaceP p ∧ ∀ j q, j < i → pts[j]? = some q → p ≠ q
/-- No edge of f is an edge of o. -/
def NoEdge (o f : List NumD) (k : Nat) : Prop := ∀ (p q : Int) (e : Nat), f[k]? = some p → f[(k + 1) % f.length]? = some q → ¬ EdgeAt o p q e
def FcOk (g : GroundD) (i : Nat) : Prop := ∀ f, g.2[i]? = some f → FaceOk g.1 f ∧ ∀ j o, j < i → g.2[j]? = some o → ∀ k, k < f.length → NoEdge o f k
def GoodG (g : GroundD) : Prop := g.1.length ≤ 40 ∧ 1 ≤ g.2.length ∧ g.2.length ≤ 20 ∧ (∀ i, i < g.1.length → PtOk g.1 i) ∧ ∀ i, i < g.2.length → FcOk g i
theorem edge_none {f : List NumD} {a b r : Int} (h : EdgeIs f a b r) (hr : r < 0) (e : Nat) : ¬ EdgeAt f a b e := by
  rcases h with ⟨_, h⟩ | ⟨i, rfl, _⟩
  · exact h e
  · omega
theorem edge_some {f : List NumD} {a b r : Int} (h : EdgeIs f a b r) (hr : 0 ≤ r) : ∃ e, EdgeAt f a b e := by
  rcases h with ⟨rfl, _⟩ | ⟨i, _, h, _⟩
  · omega
  · exact ⟨i, h⟩

theorem lLO_get {w : World} {lo hi : Nat} {v : Value} {fs : List (List NumD)} (h : LLO w lo hi v fs) {i : Nat} {l : List NumD} (hl : fs[i]? = some l) :
    ∃ b o cap u, v = .slice (some ⟨b, o, none⟩) fs.length cap ∧ w.cell? ⟨b, o + i, none⟩ = some u ∧ NumO w lo hi u l := by
  obtain ⟨rs, h, rfl⟩ := h
  rw [List.getElem?_map] at hl
  obtain ⟨r, hr, rfl⟩ := Option.map_eq_some_iff.1 hl
  obtain ⟨b, o, cap, e, c, _⟩ := nums_get h.at hr
  exact ⟨b, o, cap, r.1, by rw [List.length_map]; exact e, c, h.inn i r hr⟩

set_option maxHeartbeats 8000000 in
theorem sgood (g : GroundD) (v : Value) (lo hi : Nat) (w : World) (ho : GroundO w lo hi v g) (hm : g.1.length ≤ 1048576) (hn : g.2.length ≤ 1048576) (hl : ∀ f ∈ g.2, f.length ≤ 1048576) :
    Calls Try.prog 17 #[v] w fun e w' => Says (GoodG g) e ∧ Kept w w' := by
  obtain ⟨pv, fv, rfl, hP, hF⟩ := ho
  obtain ⟨ap, cp, hsl, hcp⟩ := own_capR hP
  subst hsl
  obtain ⟨af, cf, hsl, hcf⟩ : ∃ ao cap, fv = .slice ao g.2.length cap ∧ g.2.length ≤ cap := by
    obtain ⟨rs, h, hr⟩ := hF
    have := own_capR h.row
    rw [← hr, List.length_map]
    exact this
  subst hsl
  by_cases h1 : (40 : Int) < (g.1.length : Int)
  · have d1 : decide ((40 : Int) < (g.1.length : Int)) = true := by simpa using h1
    go_enter Try.func17, Try.ntmps17
    go_wp2
    go_ret
    exact ⟨says_no (fun h => by have := h.1; omega), (But.refl _ _ _).alloc _⟩
  have d1 : decide ((40 : Int) < (g.1.length : Int)) = false := by simpa using h1
  by_cases h2 : (g.2.length : Int) < 1
  · have d2 : decide ((g.2.length : Int) < 1) = true := by simpa using h2
    go_enter Try.func17, Try.ntmps17
    go_wp2
    go_ret
    exact ⟨says_no (fun h => by have := h.2.1; omega), (But.refl _ _ _).alloc _⟩
  have d2 : decide ((g.2.length : Int) < 1) = false := by simpa using h2
  by_cases h3 : (20 : Int) < (g.2.length : Int)
  · have d3 : decide ((20 : Int) < (g.2.length : Int)) = true := by simpa using h3
    go_enter Try.func17, Try.ntmps17
    go_wp2
    go_ret
    exact ⟨says_no (fun h => by have := h.2.2.1; omega), (But.refl _ _ _).alloc _⟩
  have d3 : decide ((20 : Int) < (g.2.length : Int)) = false := by simpa using h3
  go_enter Try.func17, Try.ntmps17
  go_wp2
  clear d1 d2 d3
  obtain ⟨W0, hW0⟩ : ∃ W, W = w.alloc (.cells #[.slice ap g.1.length cp, .slice af g.2.length cf] 26) := ⟨_, rfl⟩
  have K0 : Kept w W0 := by rw [hW0]; exact (But.refl _ _ _).alloc _
  have g0 : W0.cell? ⟨w.heap.size, 0, none⟩ = some (.slice ap g.1.length cp) := by rw [hW0]; simp [go_sem]
  have g0' : W0.cell? ⟨w.heap.size, 1, none⟩ = some (.slice af g.2.length cf) := by rw [hW0]; simp [go_sem]
  rw [← hW0]
  clear hW0
  have hPA := (hP.kept K0).at
  have hFO := hF.kept K0
  go_loopw [32] (fun i wr => ∃ k : Nat, k ≤ g.1.length ∧ i = .int .i64 k ∧ (∀ j, j < k → PtOk g.1 j) ∧ Kept W0 wr) (fun i _ => g.1.length - (intOf i).toNat)
  case atStart => exact ⟨0, by omega, rfl, fun j hj => by omega, But.refl _ _ _⟩
  case round =>
    obtain ⟨k, hk, rfl, hok, hkp⟩ := hrel
    have HOK : Hid (∀ j, j < k → PtOk g.1 j) := hok
    clear hok
    have g1 := Kept.cell hkp g0
    by_cases hlt : k < g.1.length
    · obtain ⟨p, hpk⟩ : ∃ p, g.1[k]? = some p := ⟨_, List.getElem?_eq_getElem hlt⟩
      obtain ⟨b, o, cap1, e, c0, c1⟩ := spot2_get (hPA.kept hkp) hpk
      cases e
      obtain ⟨px, py⟩ := p
      dsimp only at c0 c1
      have HPK : Hid (g.1[k]? = some (px, py)) := hpk
      clear hpk
      by_cases hin : PlaceP (px, py)
      · have hd : decide (PlaceP (px, py)) = true := by simpa using hin
        have hkc : (k : Int) ≤ (cp : Int) := by omega
        have KP : Kept wr (wr.alloc (.cells #[.int .i64 px, .int .i64 py] 29)) := (But.refl _ _ _).alloc _
        go_wp2_with (go_at_call 47; refine (splace px py _).mono ?_; rw [hd]; rintro e w1 ⟨rfl, k1⟩; have g2 := Kept.cell (KP.trans k1) g1; have LP := (Loc.new wr [.int .i64 px, .int .i64 py] 29).kept k1)
        have HK : Hid (Kept W0 w1) := (hkp.trans KP).trans k1
        have HLP : Hid (Loc w1 wr.heap.size [.int .i64 px, .int .i64 py]) := LP
        clear hkp k1 LP g2 KP g1
        go_loopw [45] (fun i wz => ∃ m : Nat, m ≤ k ∧ i = .int .i64 m ∧ (∀ j q, j < m → g.1[j]? = some q → (px, py) ≠ q) ∧ Kept W0 wz ∧ Loc wz wr.heap.size [.int .i64 px, .int .i64 py]) (fun i _ => k - (intOf i).toNat)
        case atStart => exact ⟨0, by omega, rfl, fun j q hj => by omega, HK.out, HLP.out⟩
        case round =>
          obtain ⟨m, hm', rfl, hne, hkz, LZ⟩ := hrel
          have HNE : Hid (∀ j q, j < m → g.1[j]? = some q → (px, py) ≠ q) := hne
          clear hne
          have z0 := LZ.cell 0 rfl
          have z1 := LZ.cell 1 rfl
          have zl := LZ.lt
          by_cases hmt : m < k
          · obtain ⟨q, hq⟩ : ∃ q, g.1[m]? = some q := ⟨_, List.getElem?_eq_getElem (by omega)⟩
            obtain ⟨b2, o2, cap2, e, c2, c3⟩ := spot2_get (hPA.kept hkz) hq
            cases e
            obtain ⟨qx, qy⟩ := q
            dsimp only at c2 c3
            have HQ : Hid (g.1[m]? = some (qx, qy)) := hq
            clear hq
            by_cases hpq : (px, py) = (qx, qy)
            · obtain ⟨e1, e2⟩ := Prod.mk.inj hpq
              subst e1 e2
              go_wp2
              go_ret
              refine ⟨says_no (fun h => ?_), (K0.trans hkz).alloc _⟩
              exact (h.2.2.2.1 k hlt _ HPK.out).2 m _ hmt HQ.out rfl
            · have HZ : Hid (Loc wr _ _) := LZ
              by_cases hx : px = qx
              · have hy : ¬ py = qy := fun hy => hpq (by rw [hx, hy])
                have dy : (py == qy) = false := beq_eq_false_iff_ne.2 hy
                have dx : (px == qx) = true := beq_iff_eq.2 hx
                have HQX : Hid (px = qx) := hx
                clear hx
                go_wp2
                exact ⟨⟨m + 1, hmt, by go_num, fun j z hj hz => by
                  rcases Nat.lt_succ_iff_lt_or_eq.1 hj with hj | rfl
                  · exact HNE.out j z hj hz
                  · rw [HQ.out] at hz
                    cases hz
                    exact hpq, hkz.alloc _, LZ.alloc _⟩, by simp [intOf]; omega⟩
              · have dx : (px == qx) = false := beq_eq_false_iff_ne.2 hx
                go_wp2
                exact ⟨⟨m + 1, hmt, by go_num, fun j z hj hz => by
                  rcases Nat.lt_succ_iff_lt_or_eq.1 hj with hj | rfl
                  · exact HNE.out j z hj hz
                  · rw [HQ.out] at hz
                    cases hz
                    exact hpq, hkz.alloc _, LZ.alloc _⟩, by simp [intOf]; omega⟩
          · have hme : m = k := by omega
            subst hme
            go_wp2
            refine ⟨⟨m + 1, hlt, by go_num, fun j hj => ?_, hkz⟩, by simp [intOf]; omega⟩
            rcases Nat.lt_succ_iff_lt_or_eq.1 hj with hj | rfl
            · exact HOK.out j hj
            · intro z hz
              rw [HPK.out] at hz
              cases hz
              exact ⟨hin, HNE.out⟩
      · have hd : decide (PlaceP (px, py)) = false := by simpa using hin
        go_wp2_with (go_at_call 47; refine (splace px py _).mono ?_; rw [hd]; rintro e w1 ⟨rfl, k1⟩)
        go_ret
        exact ⟨says_no (fun h => hin (h.2.2.2.1 k hlt _ HPK.out).1), (K0.trans (hkp.alloc _)).trans k1⟩
    · have hke : k = g.1.length := by omega
      subst hke
      have g2 := Kept.cell hkp g0'
      go_wp2
      have hpl : ∀ p ∈ g.1, PlaceP p := fun p hp' => by
        obtain ⟨i, hi'⟩ := List.mem_iff_getElem?.1 hp'
        exact (HOK.out i (List.getElem?_eq_some_iff.1 hi').1 p hi').1
      have HK1 : Hid (Kept W0 wr) := hkp
      clear hkp g1 g2 hlt
      go_loopw [57] (fun i wr => ∃ k : Nat, k ≤ g.2.length ∧ i = .int .i64 k ∧ (∀ j, j < k → FcOk g j) ∧ Kept W0 wr) (fun i _ => g.2.length - (intOf i).toNat)
      case atStart => exact ⟨0, by omega, rfl, fun j hj => by omega, HK1.out⟩
      case round =>
        obtain ⟨k, hk, rfl, hok, hkp⟩ := hrel
        have HFC : Hid (∀ j, j < k → FcOk g j) := hok
        clear hok
        by_cases hlt : k < g.2.length
        · obtain ⟨f, hfk⟩ : ∃ f, g.2[k]? = some f := ⟨_, List.getElem?_eq_getElem hlt⟩
          have g1 := Kept.cell hkp g0
          have g2 := Kept.cell hkp g0'
          obtain ⟨b, o, cap1, u, e, c0, hu⟩ := lLO_get hFO hfk
          cases e
          have c0 := Kept.cell hkp c0
          obtain ⟨au, cu, hsu⟩ := row_nil hu.at
          subst hsu
          have hfl := hl f (List.mem_of_getElem? hfk)
          have HFK : Hid (g.2[k]? = some f) := hfk
          have HSF : Hid (∀ fv, Calls Try.prog 54 #[.agg #[.slice ap g.1.length cp, fv], .slice au f.length cu] wr fun e w' => Says (FaceOk g.1 f) e ∧ Kept wr w') := fun fv => sface g.1 f _ fv _ wr (hPA.kept hkp) lo hi (hu.kept hkp) hpl hfl hm
          have HU : Hid (NumO W0 lo hi (.slice au f.length cu) f) := hu
          have HK : Hid (Kept W0 wr) := hkp
          have hkc : (k : Int) ≤ (cf : Int) := by omega
          clear hfk hkp hu
          go_wp2_with (go_at_call 54; refine (HSF.out _).mono ?_; rintro e w1 ⟨⟨t, rfl, ht⟩, k1⟩; have HT : Hid (t = true ↔ FaceOk g.1 f) := ht; clear ht; have g3 := Kept.cell k1 g1; have g4 := Kept.cell k1 g2)
          · have hb : t = false := by first | assumption | (have h9 : (!t) = true := (by assumption); simpa using h9)
            go_ret
            refine ⟨says_no (fun h => ?_), (K0.trans HK.out).trans k1⟩
            have := HT.out.2 ((h.2.2.2.2 k hlt) f HFK.out).1
            rw [hb] at this
            cases this
          · have hb : t = true := by first | assumption | (have h9 : (!t) = false := (by assumption); simpa using h9)
            have HFO : Hid (FaceOk g.1 f) := HT.out.1 hb
            have HKA : Hid (Kept W0 w1) := HK.out.trans k1
            subst hb
            clear HT k1 g3 g4 g1 g2 c0
            go_loopw [71] (fun i wz => ∃ m : Nat, m ≤ k ∧ i = .int .i64 m ∧ (∀ j o, j < m → g.2[j]? = some o → ∀ x, x < f.length → NoEdge o f x) ∧ Kept W0 wz) (fun i _ => k - (intOf i).toNat)
            case atStart => exact ⟨0, by omega, rfl, fun j o hj => by omega, HKA.out⟩
            case round =>
              obtain ⟨m, hm', rfl, hne, hkz⟩ := hrel
              have HNE : Hid (∀ j o, j < m → g.2[j]? = some o → ∀ x, x < f.length → NoEdge o f x) := hne
              clear hne
              by_cases hmt : m < k
              · obtain ⟨q, hq⟩ : ∃ q, g.2[m]? = some q := ⟨_, List.getElem?_eq_getElem (by omega)⟩
                obtain ⟨b2, o2, cap2, u2, e, c2, hu2⟩ := lLO_get (hFO.kept hkz) hq
                cases e
                obtain ⟨a2, d2, hsu⟩ := row_nil hu2.at
                subst hsu
                have hql := hl q (List.mem_of_getElem? hq)
                have HQ : Hid (g.2[m]? = some q) := hq
                have HU2 : Hid (NumAt wr (.slice a2 q.length d2) q) := hu2.at
                have HKZ : Hid (Kept W0 wr) := hkz
                clear hq hu2 hkz
                go_wp2
                clear c2
                go_loopw [77] (fun i wy => ∃ x : Nat, x ≤ f.length ∧ i = .int .i64 x ∧ (∀ j, j < x → NoEdge q f j) ∧ Kept wr wy) (fun i _ => f.length - (intOf i).toNat)
                case atStart => exact ⟨0, by omega, rfl, fun j hj => by omega, But.refl _ _ _⟩
                case round =>
                  rename World => wo
                  obtain ⟨x, hx, rfl, hnx, hky⟩ := hrel
                  have HNX : Hid (∀ j, j < x → NoEdge q f j) := hnx
                  clear hnx
                  by_cases hxt : x < f.length
                  · obtain ⟨p, hp'⟩ : ∃ p, f[x]? = some p := ⟨_, List.getElem?_eq_getElem hxt⟩
                    obtain ⟨J, hJ⟩ : ∃ J, (x + 1) % f.length = J := ⟨_, rfl⟩
                    have hJl : J < f.length := by rw [← hJ]; exact Nat.mod_lt _ (by omega)
                    obtain ⟨r, hr⟩ : ∃ q, f[J]? = some q := ⟨_, List.getElem?_eq_getElem hJl⟩
                    have hfa := (HU.out.kept (HKZ.out.trans hky)).at
                    obtain ⟨b4, o4, cap4, e, c4⟩ := num_get hfa hp'
                    cases e
                    obtain ⟨b5, o5, cap5, e, c5⟩ := num_get hfa hr
                    cases e
                    have hmod := mod_next x f.length hxt
                    rw [hJ] at hmod
                    have z0 : ((f.length : Int) == 0) = false := beq_eq_false_iff_ne.2 (by omega)
                    have HNO : Hid (∀ y : Int, EdgeIs q p r y → ((y < 0 → NoEdge q f x) ∧ (0 ≤ y → ¬ NoEdge q f x))) := fun y hy => by
                      refine ⟨fun h0 p' q' e1 h1 h2 => ?_, fun h0 h1 => ?_⟩
                      · rw [hp'] at h1
                        rw [hJ, hr] at h2
                        cases h1
                        cases h2
                        exact edge_none hy h0 e1
                      · obtain ⟨e1, he⟩ := edge_some hy h0
                        exact h1 p r e1 hp' (by rw [hJ]; exact hr) he
                    have HKY : Hid (Kept wr wo) := hky
                    clear hp' hr hJ hky hfa
                    go_wp2_with (go_at_call 55; refine (sedge q p r _ _ (HU2.out.kept HKY.out) hql).mono ?_; rintro e w9 ⟨⟨y, rfl, hy⟩, k9⟩; have HY : Hid (EdgeIs q p r y) := hy; clear hy)
                    · have hy0 : 0 ≤ y := by assumption
                      go_ret
                      refine ⟨says_no (fun h => ?_), ((K0.trans HKZ.out).trans HKY.out).trans k9⟩
                      exact (HNO.out y HY.out).2 hy0 (((h.2.2.2.2 k hlt) f HFK.out).2 m q hmt HQ.out x hxt)
                    · have hy0 : y < 0 := by assumption
                      go_roundw
                      case rel =>
                        repeat apply Exists.intro
                        refine ⟨?_, rfl⟩
                        refine ⟨x + 1, hxt, by go_num, fun j hj => ?_, HKY.out.trans k9⟩
                        rcases Nat.lt_succ_iff_lt_or_eq.1 hj with hj | rfl
                        · exact HNX.out j hj
                        · exact (HNO.out y HY.out).1 hy0
                      case measure => simp [intOf]; omega
                  · have hxe : x = f.length := by omega
                    subst hxe
                    go_wp2
                    refine ⟨⟨m + 1, hmt, by go_num, fun j z hj hz => ?_, HKZ.out.trans hky⟩, by simp [intOf]; omega⟩
                    rcases Nat.lt_succ_iff_lt_or_eq.1 hj with hj | rfl
                    · exact HNE.out j z hj hz
                    · rw [HQ.out] at hz
                      cases hz
                      exact HNX.out
              · have hme : m = k := by omega
                subst hme
                go_wp2
                refine ⟨⟨m + 1, hlt, by go_num, fun j hj => ?_, hkz⟩, by simp [intOf]; omega⟩
                rcases Nat.lt_succ_iff_lt_or_eq.1 hj with hj | rfl
                · exact HFC.out j hj
                · intro z hz
                  rw [HFK.out] at hz
                  cases hz
                  exact ⟨HFO.out, HNE.out⟩
        · have hke : k = g.2.length := by omega
          subst hke
          go_wp2
          go_ret
          exact ⟨says_yes ⟨by omega, by omega, by omega, HOK.out, HFC.out⟩, K0.trans hkp⟩

end Go.Proofs.Ythohgehhoogpnaa
