/-
  What the specification's QueryWorld answers: the Ids of the entities that match.
-/
import Derived.Test.YtajelalimiobeaaAnsI
namespace Go.Proofs.Ytajelalimiobeaa
open Go.ChangeShapes Go.WideShapes Go.ChangeAt Go.RowKit

theorem specQueryBad (D : WD) (Q : QD) (hg : ¬ (GoodW D ∧ GoodQ Q)) (hc : ecost D.2.2 ≤ 1048576) (hl : qcost Q ≤ 1048576) (v v' : Value) (w : World) (hv : WAt w v D) (hq : QAt w v' Q) :
    Calls Try.prog 15 #[v, v'] w fun e w' => e = .returned (.tuple #[.slice none 0 0, .bool false]) ∧ Kept w w' := by
  obtain ⟨ao, n, cap, hfm⟩ := hv.form
  subst hfm
  obtain ⟨q1, m1, c1, q2, m2, c2, hfm, h1, h2⟩ := id hq
  subst hfm
  have l1 : ssum Q.1 ≤ 1048576 ∧ Q.1.length ≤ 1048576 := by unfold qcost scost at hl; omega
  have l2 : ssum Q.2.1 ≤ 1048576 ∧ Q.2.1.length ≤ 1048576 := by unfold qcost scost at hl; omega
  have K0 : ∀ o o', Kept w ((w.alloc o).alloc o') := fun o o' => ((But.refl _ _ _).alloc _).alloc _
  by_cases g0 : GoodW D
  · by_cases g1 : GoodNs Q.1
    · by_cases g2 : GoodNs Q.2.1
      · have g3 : inB Q.2.2 0 1000000 = false := by
          rw [inB_false]
          exact fun h => hg ⟨g0, g1, g2, h⟩
        go_enter Try.func15, Try.ntmps15
        go_wp2_with fail
        go_at_call 25; refine (good_yes (specGood D _ _ (hv.kept (K0 _ _)) hc) g0).mono ?_; rintro e u1 ⟨rfl, k1⟩
        have L := (Loc.new (w.alloc (.cells #[.int .i64 D.1, .int .i64 D.2.1, .slice ao n cap] 25)) [.slice q1 m1 c1, .slice q2 m2 c2, .int .i64 Q.2.2] 28).kept k1
        simp only [World.size_alloc] at L
        have a0 := L.cell 0 rfl
        have K1 := (K0 _ _).trans k1
        go_wp2_with fail
        go_at_call 56; refine (good_yes (l3Names Q.1 _ _ (h1.kept K1) l1.1 l1.2) g1).mono ?_; rintro e u2 ⟨rfl, k2⟩
        have K2 := K1.trans k2
        have L := L.kept k2
        have a1 := L.cell 1 rfl
        clear a0
        go_wp2_with fail
        go_at_call 56; refine (good_yes (l3Names Q.2.1 _ _ (h2.kept K2) l2.1 l2.2) g2).mono ?_; rintro e u3 ⟨rfl, k3⟩
        have K3 := K2.trans k3
        have L := L.kept k3
        have a2 := L.cell 2 rfl
        clear a1
        go_wp2_with (go_at_call 57; refine (l1In _ _ _ _).mono ?_; rintro e w' ⟨rfl, rfl⟩)
        go_ret2
        exact ⟨rfl, K3⟩
      · go_enter Try.func15, Try.ntmps15
        go_wp2_with fail
        go_at_call 25; refine (good_yes (specGood D _ _ (hv.kept (K0 _ _)) hc) g0).mono ?_; rintro e u1 ⟨rfl, k1⟩
        have L := (Loc.new (w.alloc (.cells #[.int .i64 D.1, .int .i64 D.2.1, .slice ao n cap] 25)) [.slice q1 m1 c1, .slice q2 m2 c2, .int .i64 Q.2.2] 28).kept k1
        simp only [World.size_alloc] at L
        have a0 := L.cell 0 rfl
        have K1 := (K0 _ _).trans k1
        go_wp2_with fail
        go_at_call 56; refine (good_yes (l3Names Q.1 _ _ (h1.kept K1) l1.1 l1.2) g1).mono ?_; rintro e u2 ⟨rfl, k2⟩
        have K2 := K1.trans k2
        have L := L.kept k2
        have a1 := L.cell 1 rfl
        clear a0
        go_wp2_with fail
        go_at_call 56; refine (good_no (l3Names Q.2.1 _ _ (h2.kept K2) l2.1 l2.2) g2).mono ?_; rintro e u3 ⟨rfl, k3⟩
        have K3 := K2.trans k3
        clear a1
        go_wp2_with fail
        go_ret2
        exact ⟨rfl, K3⟩
    · go_enter Try.func15, Try.ntmps15
      go_wp2_with fail
      go_at_call 25; refine (good_yes (specGood D _ _ (hv.kept (K0 _ _)) hc) g0).mono ?_; rintro e u1 ⟨rfl, k1⟩
      have L := (Loc.new (w.alloc (.cells #[.int .i64 D.1, .int .i64 D.2.1, .slice ao n cap] 25)) [.slice q1 m1 c1, .slice q2 m2 c2, .int .i64 Q.2.2] 28).kept k1
      simp only [World.size_alloc] at L
      have a0 := L.cell 0 rfl
      have K1 := (K0 _ _).trans k1
      go_wp2_with fail
      go_at_call 56; refine (good_no (l3Names Q.1 _ _ (h1.kept K1) l1.1 l1.2) g1).mono ?_; rintro e u2 ⟨rfl, k2⟩
      have K2 := K1.trans k2
      clear a0
      go_wp2_with fail
      go_ret2
      exact ⟨rfl, K2⟩
  · go_enter Try.func15, Try.ntmps15
    go_wp2_with fail
    go_at_call 25; refine (good_no (specGood D _ _ (hv.kept (K0 _ _)) hc) g0).mono ?_; rintro e u1 ⟨rfl, k1⟩
    go_wp2_with fail
    go_ret2
    exact ⟨rfl, (K0 _ _).trans k1⟩

set_option maxRecDepth 100000 in
set_option maxHeartbeats 8000000 in
theorem specQueryOk (D : WD) (Q : QD) (hg : GoodW D) (hb : GoodQ Q) (hc : ecost D.2.2 ≤ 1048576) (hl : qcost Q ≤ 1048576) (v v' : Value) (w : World) (hv : WAt w v D) (hq : QAt w v' Q) :
    Calls Try.prog 15 #[v, v'] w fun e w' => ∃ r, e = .returned (.tuple #[r, .bool true]) ∧ OneO cI 3 w' w.heap.size w'.heap.size r (idsOf Q D.2.2) ∧ Kept w w' := by
  obtain ⟨ev, zs, rfl, he, hes⟩ := id hv
  obtain ⟨ao, cap, hsl⟩ := row_nil he.1
  subst hsl
  obtain ⟨q1, m1, c1, q2, m2, c2, hfm, h1, h2⟩ := id hq
  subst hfm
  obtain ⟨_, _, e⟩ := row_nil h1
  cases e
  obtain ⟨_, _, e⟩ := row_nil h2
  cases e
  have HE : Hid (zs.map strip = D.2.2) := hes
  have hz60 : zs.length ≤ 60 := by have := hg.2.2.2.2.1; rw [← hes] at this; simpa using this
  clear hes
  have l1 : ssum Q.1 ≤ 1048576 ∧ Q.1.length ≤ 1048576 := by unfold qcost scost at hl; omega
  have l2 : ssum Q.2.1 ≤ 1048576 ∧ Q.2.1.length ≤ 1048576 := by unfold qcost scost at hl; omega
  have l1' := l1.2
  have l2' := l2.2
  have K0 : ∀ o o', Kept w ((w.alloc o).alloc o') := fun o o' => ((But.refl _ _ _).alloc _).alloc _
  have g3 : inB Q.2.2 0 1000000 = true := inB_true.2 ⟨hb.2.2.1, hb.2.2.2⟩
  go_enter Try.func15, Try.ntmps15
  go_wp2_with fail
  go_at_call 25; refine (good_yes (specGood D _ _ (hv.kept (K0 _ _)) hc) hg).mono ?_; rintro e u1 ⟨rfl, k1⟩
  have L := (Loc.new (w.alloc (.cells #[.int .i64 D.1, .int .i64 D.2.1, .slice ao zs.length cap] 25)) [.slice q1 Q.1.length c1, .slice q2 Q.2.1.length c2, .int .i64 Q.2.2] 28).kept k1
  have M := ((Loc.new w [.int .i64 D.1, .int .i64 D.2.1, .slice ao zs.length cap] 25).alloc (.cells #[.slice q1 Q.1.length c1, .slice q2 Q.2.1.length c2, .int .i64 Q.2.2] 28)).kept k1
  simp only [World.size_alloc] at L
  have a0 := L.cell 0 rfl
  have K1 := (K0 _ _).trans k1
  have s1 := k1.size
  simp only [World.size_alloc] at s1
  go_wp2_with fail
  go_at_call 56; refine (good_yes (l3Names Q.1 _ _ (h1.kept K1) l1.1 l1.2) hb.1).mono ?_; rintro e u2 ⟨rfl, k2⟩
  have K2 := K1.trans k2
  have L := L.kept k2
  have M := M.kept k2
  have a1 := L.cell 1 rfl
  have s2 := k2.size
  clear a0
  go_wp2_with fail
  go_at_call 56; refine (good_yes (l3Names Q.2.1 _ _ (h2.kept K2) l2.1 l2.2) hb.2.1).mono ?_; rintro e u3 ⟨rfl, k3⟩
  have K3 := K2.trans k3
  have L := L.kept k3
  have M := M.kept k3
  have a2 := L.cell 2 rfl
  have m2' := M.cell 2 rfl
  have s3 := k3.size
  clear a1 k1 k2 k3 K1 K2
  go_wp2_with (go_at_call 57; refine (l1In _ _ _ _).mono ?_; rintro e w' ⟨rfl, rfl⟩)
  obtain ⟨i0, hi, hz0, hz1, hz2⟩ := info_parts info3
  go_loopw [6, 40] (fun r i wr => ∃ (k : Nat) (ao2 : Option Addr) (n2 cap2 : Nat), k ≤ zs.length ∧ i = .int .i64 k ∧ r = .slice ao2 n2 cap2 ∧ n2 = (idsOf Q ((zs.take k).map strip)).length ∧ OneO cI 3 wr (w.heap.size + 2) wr.heap.size (.slice ao2 n2 cap2) (idsOf Q ((zs.take k).map strip)) ∧ Loc wr (w.heap.size + 1) [.slice q1 Q.1.length c1, .slice q2 Q.2.1.length c2, .int .i64 Q.2.2] ∧ Kept w wr ∧ w.heap.size + 2 ≤ wr.heap.size) (fun r i _ => zs.length - (intOf i).toNat)
  case atStart => exact ⟨0, none, 0, 0, by omega, rfl, rfl, by simp [idsOf], by simpa [idsOf] using one_nil _ _ _, L, K3, by omega⟩
  case round =>
    obtain ⟨k, ao2, n2, cap2, hk, rfl, rfl, hn2, ho, hL, hkp, hsz⟩ := hrel
    have HO : Hid (n2 = (idsOf Q ((zs.take k).map strip)).length ∧ OneO cI 3 wr (w.heap.size + 2) wr.heap.size (.slice ao2 n2 cap2) (idsOf Q ((zs.take k).map strip))) := ⟨hn2, ho⟩
    have hn60 : n2 ≤ 60 := by
      have := idsOf_len Q ((zs.take k).map strip)
      simp only [List.length_map, List.length_take] at this
      omega
    clear hn2 ho L M m2' a2 g3
    by_cases hlt : k < zs.length
    · obtain ⟨z, hz⟩ : ∃ z, zs[k]? = some z := ⟨_, List.getElem?_eq_getElem hlt⟩
      have hek : D.2.2[k]? = some (strip z) := by rw [← HE.out, List.getElem?_map, hz]; rfl
      obtain ⟨b, o, cap1, ao1, n1, cap3, e1, ez, d0, d1, en, hpa⟩ := ents_get (he.kept hkp) hz
      cases e1
      subst en
      have hgp := (hg.2.2.2.2.2 k _ hek).2.2.2
      simp only [strip] at hgp
      have hp12 : z.2.2.length ≤ 1048576 := by have := hgp.1; omega
      have HS : Hid ((zs.take (k + 1)).map strip = (zs.take k).map strip ++ [strip z]) := show (_ = _) by rw [take_snoc hz]; simp
      have a0 := hL.cell 0 rfl
      have a2 := hL.cell 2 rfl
      have hlq := hL.lt
      have HL : Hid _ := hL
      have HK : Hid _ := hkp
      clear hek hgp ez hL hkp
      go_wp2_with fail
      clear a0 a2
      go_loopw [9, 10, 50] (fun okv fr i w2 => ∃ (j : Nat) (ob fb : Bool), j ≤ Q.1.length ∧ i = .int .i64 j ∧ okv = .bool ob ∧ fr = .bool fb ∧ ob = withB z.2.2 (Q.1.take j) ∧ fb = freshB z.2.2 Q.2.2 (Q.1.take j) ∧ Loc w2 wr.heap.size [.int .i64 z.1, .slice ao1 z.2.2.length cap3] ∧ Kept wr w2) (fun okv fr i _ => Q.1.length - (intOf i).toNat)
      case atStart => exact ⟨0, _, _, by omega, rfl, rfl, rfl, by simp [withB], by simp [freshB], Loc.new wr [.int .i64 z.1, .slice ao1 z.2.2.length cap3] 36, (But.refl _ _ _).alloc _⟩
      case round =>
        obtain ⟨j, ob, fb, hj, rfl, rfl, rfl, hob, hfb, hLe, hk2⟩ := hrel
        have HB : Hid (ob = withB z.2.2 (Q.1.take j) ∧ fb = freshB z.2.2 Q.2.2 (Q.1.take j)) := ⟨hob, hfb⟩
        clear hob hfb
        by_cases hjl : j < Q.1.length
        · obtain ⟨s, hs⟩ : ∃ s, Q.1[j]? = some s := ⟨_, List.getElem?_eq_getElem hjl⟩
          obtain ⟨bs, os, cap4, e, c0⟩ := (h1.kept (HK.out.trans hk2)).get hs
          cases e
          have f0 := hLe.cell 0 rfl
          have f1 := hLe.cell 1 rfl
          have HN : Hid (withB z.2.2 (Q.1.take (j + 1)) = (ob && hasB z.2.2 s) ∧ freshB z.2.2 Q.2.2 (Q.1.take (j + 1)) = (fb || freshAt z.2.2 Q.2.2 s)) := ⟨by rw [take_snoc hs, withB_snoc, HB.out.1], by rw [take_snoc hs, freshB_snoc, HB.out.2]⟩
          cases hf : lk z.2.2 s with
          | none =>
            have HT : Hid (hasB z.2.2 s = false ∧ freshAt z.2.2 Q.2.2 s = false) := ⟨by simp [hasB, hf], by simp [freshAt, hf]⟩
            have hno := lk_none hf
            clear hf
            go_wp2_with fail
            go_at_call 58; refine (l3Part s z.2.2 z.1 _ _ (hpa.kept hk2) hp12 (-1) (.inr ⟨hno, rfl⟩)).mono ?_; rintro e u5 ⟨rfl, k5⟩
            have K5 := hk2.trans k5
            have Le := hLe.kept k5
            have g1' := Le.cell 1 rfl
            have Lq := Loc.kept HL.out K5
            have x2 := Lq.cell 2 rfl
            clear f0 f1 hno
            cases ob <;> cases fb
            all_goals
              go_wp2_with fail
              go_quiet (fail)
              go_wp2_with fail
              exact ⟨⟨j + 1, _, _, hjl, by go_num, rfl, rfl, by rw [HN.out.1, HT.out.1]; rfl, by rw [HN.out.2, HT.out.2]; rfl, Le.kept ((But.refl _ _ _).drewN _), K5.drewN _⟩, by simp [intOf]; omega⟩
          | some y =>
            obtain ⟨kk, hy, hye, hfirst⟩ := lk_some hf
            have hkl := (List.getElem?_eq_some_iff.1 hy).1
            have HT : Hid (hasB z.2.2 s = true ∧ freshAt z.2.2 Q.2.2 s = decide (Q.2.2 ≤ y.2.2)) := ⟨by simp [hasB, hf], by simp [freshAt, hf]⟩
            clear hf
            go_wp2_with fail
            go_at_call 58; refine (l3Part s z.2.2 z.1 _ _ (hpa.kept hk2) hp12 (kk : Nat) (.inl ⟨kk, y, hy, hye, hfirst, rfl⟩)).mono ?_; rintro e u5 ⟨rfl, k5⟩
            have K5 := hk2.trans k5
            have Le := hLe.kept k5
            obtain ⟨b2, o2, cap5, e2, _, _, y2⟩ := parts_get (hpa.kept K5) hy
            cases e2
            have g1' := Le.cell 1 rfl
            have Lq := Loc.kept HL.out K5
            have x2 := Lq.cell 2 rfl
            have hkl' : (kk : Int) < (z.2.2.length : Int) := by omega
            have hki : (0 : Int) ≤ (kk : Int) := by omega
            clear f0 f1 hfirst hye
            cases ob <;> cases fb
            all_goals
              go_wp2_with fail
              go_quiet (fail)
              go_wp2_with fail
              exact ⟨⟨j + 1, _, _, hjl, by go_num, rfl, rfl, by rw [HN.out.1, HT.out.1]; rfl, by rw [HN.out.2, HT.out.2]; rfl, Le.kept ((But.refl _ _ _).drewN _), K5.drewN _⟩, by simp [intOf]; omega⟩
        · have hje : j = Q.1.length := by omega
          subst hje
          have HB : Hid (ob = withB z.2.2 Q.1 ∧ fb = freshB z.2.2 Q.2.2 Q.1) := by have := HB.out; rw [List.take_length] at this; exact this
          have Lq := Loc.kept HL.out hk2
          have x1 := Lq.cell 1 rfl
          have hlq2 := Lq.lt
          go_wp2_with fail
          clear x1
          go_loopw [9, 82] (fun okv i w3 => ∃ (j : Nat) (ob2 : Bool), j ≤ Q.2.1.length ∧ i = .int .i64 j ∧ okv = .bool ob2 ∧ ob2 = (ob && outB z.2.2 (Q.2.1.take j)) ∧ Kept wr w3) (fun okv i _ => Q.2.1.length - (intOf i).toNat)
          case atStart => exact ⟨0, _, by omega, rfl, rfl, by simp [outB], But.refl _ _ _⟩
          case round =>
            obtain ⟨j, ob2, hj2, rfl, rfl, hob2, hk3⟩ := hrel
            have HC : Hid (ob2 = (ob && outB z.2.2 (Q.2.1.take j))) := hob2
            clear hob2
            by_cases hjl2 : j < Q.2.1.length
            · obtain ⟨s, hs⟩ : ∃ s, Q.2.1[j]? = some s := ⟨_, List.getElem?_eq_getElem hjl2⟩
              obtain ⟨bs, os, cap4, e, c0⟩ := (h2.kept (HK.out.trans (hk2.trans hk3))).get hs
              cases e
              have Le := hLe.kept hk3
              have f0 := Le.cell 0 rfl
              have f1 := Le.cell 1 rfl
              have HN : Hid ((ob && outB z.2.2 (Q.2.1.take (j + 1))) = (ob2 && !hasB z.2.2 s)) := show (_ = _) by rw [take_snoc hs, outB_snoc, HC.out, Bool.and_assoc]
              have hpa3 := hpa.kept (hk2.trans hk3)
              cases ob2 with
              | false =>
                go_wp2_with fail
                exact ⟨⟨j + 1, _, hjl2, by go_num, rfl, by rw [HN.out]; rfl, hk3⟩, by simp [intOf]; omega⟩
              | true =>
                cases hf : lk z.2.2 s with
                | none =>
                  have HT : Hid (hasB z.2.2 s = false) := show (_ = _) by simp [hasB, hf]
                  have hno := lk_none hf
                  clear hf
                  go_wp2_with (go_at_call 58; refine (l3Part s z.2.2 z.1 _ _ hpa3 hp12 (-1) (.inr ⟨hno, rfl⟩)).mono ?_; rintro e u5 ⟨rfl, k5⟩)
                  exact ⟨⟨j + 1, _, hjl2, by go_num, rfl, by rw [HN.out, HT.out]; rfl, hk3.trans k5⟩, by simp [intOf]; omega⟩
                | some y =>
                  obtain ⟨kk, hy, hye, hfirst⟩ := lk_some hf
                  have HT : Hid (hasB z.2.2 s = true) := show (_ = _) by simp [hasB, hf]
                  have hki : decide ((kk : Int) < 0) = false := by simp
                  clear hf
                  go_wp2_with (go_at_call 58; refine (l3Part s z.2.2 z.1 _ _ hpa3 hp12 (kk : Nat) (.inl ⟨kk, y, hy, hye, hfirst, rfl⟩)).mono ?_; rintro e u5 ⟨rfl, k5⟩)
                  exact ⟨⟨j + 1, _, hjl2, by go_num, rfl, by rw [HN.out, HT.out]; rfl, hk3.trans k5⟩, by simp [intOf]; omega⟩
            · have hje : j = Q.2.1.length := by omega
              subst hje
              have HM : Hid (mB Q z.2.2 = (ob2 && fb)) := show (_ = _) by
                have := HC.out
                rw [List.take_length] at this
                rw [mB, this, HB.out.1, HB.out.2]
              have K5 := hk2.trans hk3
              have Le := hLe.kept hk3
              have e0 := Le.cell 0 rfl
              have hlw := Le.lt
              have HL5 : Hid _ := Loc.kept HL.out K5
              have HK5 : Hid _ := HK.out.trans K5
              have s5 := K5.size
              have hor : Hid (wr.ownsRow (w.heap.size + 2) 3 1 (.slice ao2 n2 cap2) n2 ((idsOf Q ((zs.take k).map strip)).map cI)) := by
                have h := (OneO.kept HO.out.2 K5).1
                rw [← HO.out.1] at h
                exact h
              clear K5 Le Lq hLe hlq2 HB HC
              have hway : (ob2 && fb) = false ∨ (ob2 = true ∧ fb = true) := by cases ob2 <;> cases fb <;> simp
              rcases hway with hm | ⟨hm1, hm2⟩
              · have HMF : Hid (mB Q z.2.2 = false) := show (_ = _) by rw [HM.out, hm]
                clear HM
                cases ob2 <;> cases fb <;> first | (exfalso; simp at hm; done) | skip
                all_goals
                  go_wp2_with fail
                  refine ⟨⟨k + 1, ao2, n2, cap2, hlt, by go_num, rfl, ?_, ?_, HL5.out, HK5.out, by omega⟩, by simp [intOf]; omega⟩
                  · rw [HS.out, idsOf_no _ _ _ (by exact HMF.out)]; exact HO.out.1
                  · rw [HS.out, idsOf_no _ _ _ (by exact HMF.out)]
                    have h := RowO.top hor.out
                    rw [HO.out.1] at h
                    rw [HO.out.1]
                    exact h
              · subst hm1 hm2
                have hm : mB Q z.2.2 = true := HM.out
                go_wp2_with (first
                  | (at_builtin; refine wpList_append_own _ rfl _ _ 31 rfl (w.heap.size + 2) 3 i0 (.int .i64 0) 1 8 Try.underlying31 hi hz0 hz1 hz2 rfl (by decide) _ _ _ rfl (own_kept hor.out ((But.refl _ _ wr).alloc _)) ⟨_, 0, none⟩ 1 1 [.int .i64 z.1] rfl rfl (news1 _ _ _ _ (by simp)) (one1 _) (by unfold maxLen; omega) (by omega) (by simp; omega) ?_
                     intro v' w1 hown' hgrow _
                     obtain ⟨ao5, cap5, hf5, _⟩ := own_form hown'
                     subst hf5
                     have HM : Hid _ := (Loc.alloc HL5.out _).grown hgrow (by intro hx; have := own_lt hor.out hx; omega)
                     have HK1 : Hid (Kept w w1) := (HK5.out.alloc _).grown hgrow (by intro x hx; have := own_lt hor.out hx; omega)
                     have s6 := hgrow.size
                     simp only [World.size_alloc] at s6
                     have HW : Hid _ := hown'
                     clear hgrow hown'))
                have HI : idsOf Q ((zs.take (k + 1)).map strip) = idsOf Q ((zs.take k).map strip) ++ [z.1] := by rw [HS.out, idsOf_yes _ _ _ (by exact hm)]; rfl
                refine ⟨⟨k + 1, ao5, n2 + 1, cap5, hlt, by go_num, rfl, ?_, ?_, HM.out, HK1.out, by omega⟩, by simp [intOf]; omega⟩
                · rw [HI, HO.out.1]; simp
                · rw [HI]
                  have h := RowO.top HW.out
                  unfold OneO
                  rw [List.length_append, List.length_singleton, List.map_append, ← HO.out.1]
                  exact h
    · have hke : k = zs.length := by omega
      subst hke
      go_wp2_with fail
      go_ret2
      refine ⟨_, rfl, ?_, hkp⟩
      have h := HO.out.2
      rw [List.take_length, HE.out] at h
      exact h.mono (by omega) (Nat.le_refl _)
end Go.Proofs.Ytajelalimiobeaa
