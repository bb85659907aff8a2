/-
  What GoodWorld answers in the specification: whether a world is good.
-/
import Derived.Test.YtajelalimiobeaaGood
import Derived.Deep.QuietTactic
import Derived.BigQuiet
namespace Go.Proofs.Ytajelalimiobeaa
open Go.ChangeShapes Go.WideShapes Go.ChangeAt Go.RowKit

def inB (n lo hi : Int) : Bool := decide (lo ≤ n) && decide (n ≤ hi)
theorem inB_true {n lo hi : Int} : inB n lo hi = true ↔ lo ≤ n ∧ n ≤ hi := by simp [inB]
theorem inB_false {n lo hi : Int} : inB n lo hi = false ↔ ¬ (lo ≤ n ∧ n ≤ hi) := by rw [← inB_true]; simp
theorem l1In (n lo hi : Int) (w : World) : Calls Try.prog 57 #[.int .i64 n, .int .i64 lo, .int .i64 hi] w fun e w' => e = .returned (.bool (inB n lo hi)) ∧ w' = w := by
  go_enter Try.func57, Try.ntmps57
  go_wp2
  all_goals
    go_ret
    exact ⟨ret_bool (by rw [Bool.eq_iff_iff]; simp [inB] <;> omega), rfl⟩

set_option maxRecDepth 20000 in
set_option maxHeartbeats 8000000 in
theorem specGood (D : WD) (v : Value) (w : World) (hv : WAt w v D) (hc : ecost D.2.2 ≤ 1048576) :
    Calls Try.prog 25 #[v] w fun e w' => BoolEnd (GoodW D) e ∧ Kept w w' := by
  obtain ⟨ev, zs, rfl, he, hes⟩ := hv
  obtain ⟨ao, cap, hsl⟩ := row_nil he.1
  subst hsl
  have hzl : zs.length = D.2.2.length := by rw [← hes]; simp
  have HE : Hid (zs.map strip = D.2.2 ∧ zs.length = D.2.2.length) := ⟨hes, hzl⟩
  by_cases hh : inB D.1 1 1000000 = true ∧ inB D.2.1 0 1000000 = true ∧ decide (60 < (zs.length : Int)) = false
  · obtain ⟨g1, g2, g3⟩ := hh
    have i1 := inB_true.1 g1
    have i2 := inB_true.1 g2
    have hz60 : zs.length ≤ 60 := by simp at g3; omega
    clear hes hzl
    go_enter Try.func25, Try.ntmps25
    go_wp2_with (go_at_call 57; refine (l1In _ _ _ _).mono ?_; rintro e w' ⟨rfl, rfl⟩)
    go_loopw [26] (fun i wr => ∃ (k : Nat), k ≤ zs.length ∧ i = .int .i64 k ∧ (∀ j e, j < k → D.2.2[j]? = some e → okE D j e) ∧ Loc wr w.heap.size [.int .i64 D.1, .int .i64 D.2.1, .slice ao zs.length cap] ∧ Kept w wr) (fun i _ => zs.length - (intOf i).toNat)
    case atStart => exact ⟨0, by omega, rfl, fun j p hj => by omega, Loc.new _ [.int .i64 D.1, .int .i64 D.2.1, .slice ao zs.length cap] _, (But.refl _ _ _).alloc _⟩
    case round =>
      obtain ⟨k, hk, rfl, hok, hL, hkp⟩ := hrel
      by_cases hlt : k < zs.length
      · obtain ⟨z, hz⟩ : ∃ z, zs[k]? = some z := ⟨_, List.getElem?_eq_getElem hlt⟩
        have hek : D.2.2[k]? = some (strip z) := by rw [← HE.out.1, List.getElem?_map, hz]; rfl
        obtain ⟨b, o, cap1, ao1, n1, cap2, e1, ez, c0, c1, en, hpa⟩ := ents_get (he.kept hkp) hz
        cases e1
        subst en
        have l0 := hL.cell 0 rfl
        have l1 := hL.cell 1 rfl
        have l2 := hL.cell 2 rfl
        have hlw := hL.lt
        have hcost := parts_le hek
        simp only [strip] at hcost
        have hp1 : psum z.2.2 ≤ 1048576 := by unfold pcost at hcost; unfold ecost at hc; omega
        have hp2 : z.2.2.length ≤ 1048576 := by unfold pcost at hcost; unfold ecost at hc; omega
        have HO : Hid ((∀ j e, j < k → D.2.2[j]? = some e → okE D j e) ∧ D.2.2[k]? = some (strip z)) := ⟨hok, hek⟩
        have HL : Hid _ := hL
        have HK : Hid _ := hkp
        have hw1 : IntKind.i64.wrap (D.1 - 1) = D.1 - 1 := by rw [IntKind.wrap_i64]; omega
        clear hok hek hL hcost ez g1 g2 g3 hkp
        have hway : inB z.1 1 (D.1 - 1) = false ∨ (inB z.1 1 (D.1 - 1) = true ∧ decide (0 < k) = false ∧ 12 < (z.2.2.length : Int)) ∨ (∃ k' y, inB z.1 1 (D.1 - 1) = true ∧ k = k' + 1 ∧ zs[k']? = some y ∧ z.1 ≤ y.1) ∨ (∃ k' y, inB z.1 1 (D.1 - 1) = true ∧ k = k' + 1 ∧ zs[k']? = some y ∧ decide (z.1 ≤ y.1) = false ∧ 12 < (z.2.2.length : Int)) ∨
            (inB z.1 1 (D.1 - 1) = true ∧ decide (0 < k) = false ∧ decide (12 < (z.2.2.length : Int)) = false) ∨ (∃ k' y, inB z.1 1 (D.1 - 1) = true ∧ k = k' + 1 ∧ zs[k']? = some y ∧ decide (z.1 ≤ y.1) = false ∧ decide (12 < (z.2.2.length : Int)) = false) := by
          cases q1 : inB z.1 1 (D.1 - 1) with
          | false => exact .inl rfl
          | true =>
            refine .inr ?_
            by_cases q2 : k = 0
            · by_cases q3 : 12 < (z.2.2.length : Int)
              · exact .inl ⟨rfl, by simp; omega, q3⟩
              · exact .inr (.inr (.inr (.inl ⟨rfl, by simp; omega, by simpa using q3⟩)))
            · obtain ⟨k', rfl⟩ : ∃ k', k = k' + 1 := ⟨k - 1, by omega⟩
              obtain ⟨y, hy⟩ : ∃ y, zs[k']? = some y := ⟨_, List.getElem?_eq_getElem (by omega)⟩
              by_cases q4 : z.1 ≤ y.1
              · exact .inr (.inl ⟨k', y, rfl, rfl, hy, q4⟩)
              · by_cases q3 : 12 < (z.2.2.length : Int)
                · exact .inr (.inr (.inl ⟨k', y, rfl, rfl, hy, by simpa using q4, q3⟩))
                · exact .inr (.inr (.inr (.inr ⟨k', y, rfl, rfl, hy, by simpa using q4, by simpa using q3⟩)))
        have HPrev : Hid (∀ k' y, k = k' + 1 → zs[k']? = some y → okE D k (strip z) → y.1 < z.1) := fun k' y hk' hy h => by
          subst hk'
          exact h.2.2.1 (strip y) (by omega) (by rw [Nat.add_sub_cancel, ← HE.out.1, List.getElem?_map, hy]; rfl)
        rcases hway with h1 | ⟨h1, hk0, h2⟩ | ⟨k', y, h1, hkk, hy, h2⟩ | ⟨k', y, h1, hkk, hy, h2, h3⟩ | hgo
        · go_wp2_with fail
          go_quiet (first | (go_at_call 57; exact Calls.quiet_of_same (l1In _ _ _ _)))
          go_wp2_with fail
          go_ret
          exact ⟨be_no rfl (fun h => by have h3 := h.2.2.2.2.2 _ _ HO.out.2; exact inB_false.1 h1 ⟨h3.1, h3.2.1⟩), (HK.out.alloc _).drewN _⟩
        · have hk0' : decide ((0 : Int) < (k : Int)) = false := by simp at hk0 ⊢; omega
          go_wp2_with fail
          go_quiet (first | (go_at_call 57; exact Calls.quiet_of_same (l1In _ _ _ _)))
          go_wp2_with fail
          go_ret
          exact ⟨be_no rfl (fun h => by have h3 := (h.2.2.2.2.2 _ _ HO.out.2).2.2.2.1; simp only [strip] at h3; omega), (HK.out.alloc _).drewN _⟩
        · obtain ⟨b', o', cap3, ao3, n3, cap4, e1, _, c0', _⟩ := ents_get (he.kept HK.out) hy
          cases e1
          have hw2 : IntKind.i64.wrap ((k : Int) - 1) = (k' : Int) := by rw [IntKind.wrap_i64]; omega
          have hwk : (k' : Int) < zs.length := by omega
          have hwp : 0 < k := by omega
          have hwp' : (0 : Int) < (k : Int) := by omega
          have HKK : Hid _ := hkk
          clear hkk
          have hlb := World.block_lt_of_cell? wr _ c0'
          go_wp2_with fail
          go_quiet (first | (go_at_call 57; exact Calls.quiet_of_same (l1In _ _ _ _)))
          go_wp2_with fail
          go_ret
          exact ⟨be_no rfl (fun h => by have h3 := HPrev.out k' y HKK.out hy (h.2.2.2.2.2 _ _ HO.out.2); omega), (HK.out.alloc _).drewN _⟩
        · obtain ⟨b', o', cap3, ao3, n3, cap4, e1, _, c0', _⟩ := ents_get (he.kept HK.out) hy
          cases e1
          have hw2 : IntKind.i64.wrap ((k : Int) - 1) = (k' : Int) := by rw [IntKind.wrap_i64]; omega
          have hwk : (k' : Int) < zs.length := by omega
          have hwp : 0 < k := by omega
          have hwp' : (0 : Int) < (k : Int) := by omega
          have HKK : Hid _ := hkk
          clear hkk
          have hlb := World.block_lt_of_cell? wr _ c0'
          go_wp2_with fail
          go_quiet (first | (go_at_call 57; exact Calls.quiet_of_same (l1In _ _ _ _)))
          go_wp2_with fail
          go_ret
          exact ⟨be_no rfl (fun h => by have h4 := (h.2.2.2.2.2 _ _ HO.out.2).2.2.2.1; simp only [strip] at h4; omega), (HK.out.alloc _).drewN _⟩
        · have HGood : Hid (okE D k (strip z) ↔ GoodPs D.2.1 z.2.2) := by
            refine ⟨fun h => h.2.2.2, fun h => ?_⟩
            rcases hgo with ⟨h1, h2, _⟩ | ⟨k', y, h1, rfl, hy, h2, _⟩
            · have := inB_true.1 h1
              exact ⟨this.1, this.2, fun q hq => by simp at h2; omega, h⟩
            · have := inB_true.1 h1
              refine ⟨this.1, this.2, fun q _ hq => ?_, h⟩
              rw [Nat.add_sub_cancel, ← HE.out.1, List.getElem?_map, hy] at hq
              cases hq
              simp only [strip]
              simpa using h2
          have h12 : z.2.2.length ≤ 12 := by
            rcases hgo with ⟨_, _, h2⟩ | ⟨_, _, _, _, _, _, h2⟩
            · simp at h2; omega
            · simp at h2; omega
          rcases hgo with ⟨h1, hk0, h2⟩ | ⟨k', y, h1, hkk, hy, h2, h3⟩
          case' inr =>
            obtain ⟨b', o', cap3, ao3, n3, cap4, e1, _, c0', _⟩ := ents_get (he.kept HK.out) hy
            cases e1
            have hw2 : IntKind.i64.wrap ((k : Int) - 1) = (k' : Int) := by rw [IntKind.wrap_i64]; omega
            have hwk : (k' : Int) < zs.length := by omega
            have hwp : 0 < k := by omega
            have hwp' : (0 : Int) < (k : Int) := by omega
            have HKK : Hid _ := hkk
            clear hkk
            have hlb := World.block_lt_of_cell? wr _ c0'
          case' inl => have hk0' : decide ((0 : Int) < (k : Int)) = false := by simp at hk0 ⊢; omega
          all_goals
            go_wp2_with fail
            go_quiet (first | (go_at_call 57; exact Calls.quiet_of_same (l1In _ _ _ _)))
            try clear hk0 hk0'
            go_wp2_with fail
            clear h1
            go_loopw [63] (fun i w2 => ∃ (j : Nat), j ≤ z.2.2.length ∧ i = .int .i64 j ∧ (∀ i p, i < j → z.2.2[i]? = some p → okP D.2.1 z.2.2 i p) ∧ Loc w2 wr.heap.size [.int .i64 z.1, .slice ao1 z.2.2.length cap2] ∧ Kept wr w2) (fun i _ => z.2.2.length - (intOf i).toNat)
            case atStart => exact ⟨0, by omega, rfl, fun i p hi => by omega, ((Loc.new wr [.int .i64 z.1, .slice ao1 z.2.2.length cap2] 36).kept ((But.refl _ _ _).drewN _)), ((But.refl _ _ _).alloc _).drewN _⟩
            case round =>
              obtain ⟨j, hj, rfl, hokj, hLe, hk2⟩ := hrel
              have HP : Hid (∀ i p, i < j → z.2.2[i]? = some p → okP D.2.1 z.2.2 i p) := hokj
              clear hokj
              by_cases hjl : j < z.2.2.length
              · obtain ⟨p, hp⟩ : ∃ p, z.2.2[j]? = some p := ⟨_, List.getElem?_eq_getElem hjl⟩
                obtain ⟨b2, o2, cap5, e2, d0, d1, d2⟩ := parts_get (hpa.kept hk2) hp
                cases e2
                have m1 := hLe.cell 1 rfl
                have hlt2 := hLe.lt
                have n1 := (Loc.kept HL.out hk2).cell 1 rfl
                have hlt3 := (Loc.kept HL.out hk2).lt
                have hnl : p.1.size ≤ 1048576 := by have := name_le hp; omega
                have HLe : Hid _ := hLe
                have HK2 : Hid _ := hk2
                clear hLe
                have hway : nameB p.1 = false ∨ (nameB p.1 = true ∧ inB p.2.2 0 D.2.1 = false) ∨ (∃ j' q, nameB p.1 = true ∧ inB p.2.2 0 D.2.1 = true ∧ j = j' + 1 ∧ z.2.2[j']? = some q ∧ Op.bytesLess q.1.toList p.1.toList = false) ∨
                    (nameB p.1 = true ∧ inB p.2.2 0 D.2.1 = true ∧ decide (0 < j) = false) ∨ (∃ j' q, nameB p.1 = true ∧ inB p.2.2 0 D.2.1 = true ∧ j = j' + 1 ∧ z.2.2[j']? = some q ∧ Op.bytesLess q.1.toList p.1.toList = true) := by
                  cases q1 : nameB p.1 with
                  | false => exact .inl rfl
                  | true =>
                    refine .inr ?_
                    cases q2 : inB p.2.2 0 D.2.1 with
                    | false => exact .inl ⟨rfl, rfl⟩
                    | true =>
                      refine .inr ?_
                      by_cases q3 : j = 0
                      · exact .inr (.inl ⟨rfl, rfl, by simp; omega⟩)
                      · obtain ⟨j', rfl⟩ : ∃ j', j = j' + 1 := ⟨j - 1, by omega⟩
                        obtain ⟨q, hq⟩ : ∃ q, z.2.2[j']? = some q := ⟨_, List.getElem?_eq_getElem (by omega)⟩
                        cases q4 : Op.bytesLess q.1.toList p.1.toList with
                        | false => exact .inl ⟨j', q, rfl, rfl, rfl, hq, q4⟩
                        | true => exact .inr (.inr ⟨j', q, rfl, rfl, rfl, hq, q4⟩)
                rcases hway with q1 | ⟨q1, q2⟩ | ⟨j', q, q1, q2, hjj, hq, q3⟩ | hgo2
                · go_wp2_with fail
                  go_quiet (first | (go_at_call 57; exact Calls.quiet_of_same (l1In _ _ _ _)) | (go_at_call 69; exact Calls.quiet_of_same (sname _ _ hnl)))
                  go_wp2_with fail
                  go_ret
                  exact ⟨be_no rfl (fun h => by have h5 := (HGood.out.1 (h.2.2.2.2.2 _ _ HO.out.2)).2 _ p hp; rw [h5.1] at q1; cases q1), HK.out.trans ((HK2.out.alloc _).drewN _)⟩
                · go_wp2_with fail
                  go_quiet (first | (go_at_call 57; exact Calls.quiet_of_same (l1In _ _ _ _)) | (go_at_call 69; exact Calls.quiet_of_same (sname _ _ hnl)))
                  go_wp2_with fail
                  go_ret
                  exact ⟨be_no rfl (fun h => by have h5 := (HGood.out.1 (h.2.2.2.2.2 _ _ HO.out.2)).2 _ p hp; exact inB_false.1 q2 ⟨h5.2.1, h5.2.2.1⟩), HK.out.trans ((HK2.out.alloc _).drewN _)⟩
                · obtain ⟨b3, o3, cap6, e3, d0', _⟩ := parts_get (hpa.kept HK2.out) hq
                  cases e3
                  have hw2 : IntKind.i64.wrap ((j : Int) - 1) = (j' : Int) := by rw [IntKind.wrap_i64]; omega
                  have hwj : (j' : Int) < z.2.2.length := by omega
                  have hwp : 0 < j := by omega
                  have hwp' : (0 : Int) < (j : Int) := by omega
                  have HJJ : Hid _ := hjj
                  clear hjj
                  have hlb2 := World.block_lt_of_cell? _ _ d0'
                  go_wp2_with fail
                  go_quiet (first | (go_at_call 57; exact Calls.quiet_of_same (l1In _ _ _ _)) | (go_at_call 69; exact Calls.quiet_of_same (sname _ _ hnl)))
                  go_wp2_with fail
                  go_ret
                  exact ⟨be_no rfl (fun h => by have h5 := ((HGood.out.1 (h.2.2.2.2.2 _ _ HO.out.2)).2 _ p hp).2.2.2 q (by omega) (by rw [HJJ.out, Nat.add_sub_cancel]; exact hq); unfold less at h5; rw [h5] at q3; cases q3), HK.out.trans ((HK2.out.alloc _).drewN _)⟩
                · have hokp : okP D.2.1 z.2.2 j p := by
                    rcases hgo2 with ⟨q1, q2, q3⟩ | ⟨j', q, q1, q2, rfl, hq, q3⟩
                    · exact ⟨q1, (inB_true.1 q2).1, (inB_true.1 q2).2, fun q hq => by simp at q3; omega⟩
                    · refine ⟨q1, (inB_true.1 q2).1, (inB_true.1 q2).2, fun q' _ hq' => ?_⟩
                      rw [Nat.add_sub_cancel, hq] at hq'
                      cases hq'
                      exact q3
                  have HOK : Hid _ := hokp
                  clear hokp
                  rcases hgo2 with ⟨q1, q2, q3⟩ | ⟨j', q, q1, q2, hjj, hq, q3⟩
                  case' inl => have hj0' : decide ((0 : Int) < (j : Int)) = false := by simp at q3 ⊢; omega
                  case' inr =>
                    obtain ⟨b3, o3, cap6, e3, d0', _⟩ := parts_get (hpa.kept HK2.out) hq
                    cases e3
                    have hw2 : IntKind.i64.wrap ((j : Int) - 1) = (j' : Int) := by rw [IntKind.wrap_i64]; omega
                    have hwj : (j' : Int) < z.2.2.length := by omega
                    have hwp : 0 < j := by omega
                    have hwp' : (0 : Int) < (j : Int) := by omega
                    have HJJ : Hid _ := hjj
                    clear hjj
                    have hlb2 := World.block_lt_of_cell? _ _ d0'
                  all_goals
                    go_wp2_with fail
                    go_quiet (first | (go_at_call 57; exact Calls.quiet_of_same (l1In _ _ _ _)) | (go_at_call 69; exact Calls.quiet_of_same (sname _ _ hnl)))
                    clear q3
                    try clear hj0'
                    go_wp2_with fail
                    refine ⟨⟨j + 1, hjl, by go_num, fun i x hi hx => ?_, (Loc.alloc HLe.out _).kept ((But.refl _ _ _).drewN _), (HK2.out.alloc _).drewN _⟩, by simp [intOf]; omega⟩
                    by_cases e : i < j
                    · exact HP.out i x e hx
                    · obtain rfl : i = j := by omega
                      rw [hp] at hx
                      cases hx
                      exact HOK.out
              · have hje : j = z.2.2.length := by omega
                have hjd : decide ((j : Int) < (z.2.2.length : Int)) = false := by simp; omega
                have hlt3 := (Loc.kept HL.out hk2).lt
                have HGo : Hid (okE D k (strip z)) := HGood.out.2 ⟨h12, fun i p hp => HP.out i p (by rw [hje]; exact (List.getElem?_eq_some_iff.1 hp).1) hp⟩
                clear hje h12 hp1 hp2
                try clear h2
                try clear h3
                go_wp2_with fail
                refine ⟨⟨k + 1, hlt, by go_num, fun i x hi hx => ?_, Loc.kept HL.out hk2, HK.out.trans hk2⟩, by simp [intOf]; omega⟩
                by_cases e : i < k
                · exact HO.out.1 i x e hx
                · obtain rfl : i = k := by omega
                  rw [HO.out.2] at hx
                  cases hx
                  exact HGo.out
      · have hke : k = zs.length := by omega
        subst hke
        go_wp2_with fail
        go_ret
        refine ⟨be_yes rfl ⟨i1.1, i1.2, i2.1, i2.2, by rw [← HE.out.2]; exact hz60, fun i e he => hok i e ?_ he⟩, hkp⟩
        rw [HE.out.2]
        exact (List.getElem?_eq_some_iff.1 he).1
  · have hway : inB D.1 1 1000000 = false ∨ (inB D.1 1 1000000 = true ∧ inB D.2.1 0 1000000 = false) ∨ (inB D.1 1 1000000 = true ∧ inB D.2.1 0 1000000 = true ∧ 60 < (zs.length : Int)) := by
      cases q1 : inB D.1 1 1000000 with
      | false => exact .inl rfl
      | true =>
        cases q2 : inB D.2.1 0 1000000 with
        | false => exact .inr (.inl ⟨rfl, rfl⟩)
        | true => exact .inr (.inr ⟨rfl, rfl, Int.not_le.1 fun q3 => hh ⟨q1, q2, by simpa using q3⟩⟩)
    have HN : Hid (¬ GoodW D) := fun h => hh ⟨inB_true.2 ⟨h.1, h.2.1⟩, inB_true.2 ⟨h.2.2.1, h.2.2.2.1⟩, by have := h.2.2.2.2.1; simp; omega⟩
    clear hh hes hzl
    rcases hway with h1 | ⟨h1, h2⟩ | ⟨h1, h2, h3⟩
    all_goals
      go_enter Try.func25, Try.ntmps25
      go_wp2_with (go_at_call 57; refine (l1In _ _ _ _).mono ?_; rintro e w' ⟨rfl, rfl⟩)
      go_ret
      exact ⟨be_no rfl HN.out, (But.refl _ _ _).alloc _⟩
end Go.Proofs.Ytajelalimiobeaa
