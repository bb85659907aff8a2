/-
  The filling, in the program.
-/
import Derived.Test.YtopakblckajdmaaNextI14
namespace Go.Proofs.Ytopakblckajdmaa
open Go.ChangeShapes Go.WideShapes Go.ChangeAt Go.RowKit

set_option maxRecDepth 100000
set_option linter.unusedVariables false
theorem til_own {wb w : World} {r : RulesD} {A B : Int} {l : List Int} {a1 a2 : Option Addr} {c1 c2 g cap N lo hi : Nat} (h1 : LLAt wb (.slice a1 r.2.1.length c1) r.2.1) (h2 : LLAt wb (.slice a2 r.2.2.length c2) r.2.2) (k : Kept wb w) (ho : NumO w lo hi (.slice (some ⟨g, 0, none⟩) N cap) l) (hN : l.length = N) : TilAt w (.agg #[.int .i64 r.1, .slice a1 r.2.1.length c1, .slice a2 r.2.2.length c2, .int .i64 A, .int .i64 B, .slice (some ⟨g, 0, none⟩) N cap]) r (A, B, l) := by
  subst hN
  exact ⟨a1, c1, a2, c2, _, cap, rfl, h1.kept k, h2.kept k, ho.at⟩
set_option maxHeartbeats 8000000 in
theorem ifill (r : RulesD) (A B : Int) (op l : List Int) (a1 a2 pa : Option Addr) (c1 c2 pc g cap N lo hi lo2 hi2 : Nat) (wb w : World) (h1 : LLAt wb (.slice a1 r.2.1.length c1) r.2.1) (h2 : LLAt wb (.slice a2 r.2.2.length c2) r.2.2) (hkb : Kept wb w) (hgb : wb.heap.size ≤ g) (hN : l.length = N) (ho : NumO w lo hi (.slice (some ⟨g, 0, none⟩) N cap) l) (hp : NumO w lo2 hi2 (.slice pa op.length pc) op) (hsep : hi2 ≤ g ∨ g + 1 ≤ lo2) (hg : GoodP r (A, B, l)) (hop : ∀ k, k < op.length → ∃ i : Nat, op[k]? = some (i : Int) ∧ i < N) (hopl : op.length ≤ 36) :
    Calls Try.prog 46 #[.agg #[.int .i64 r.1, .slice a1 r.2.1.length c1, .slice a2 r.2.2.length c2, .int .i64 A, .int .i64 B, .slice (some ⟨g, 0, none⟩) N cap], .slice pa op.length pc] w fun e w' => ∃ l', e = .returned (.tuple #[.int .i64 ((fillR r A B op l 0 0).2.2 : Int), .bool (fillR r A B op l 0 0).1]) ∧ ((fillR r A B op l 0 0).1 = true → l' = (fillR r A B op l 0 0).2.1) ∧ l'.length = N ∧ NumO w' lo hi (.slice (some ⟨g, 0, none⟩) N cap) l' ∧ But g (g + 1) w w' := by
  obtain ⟨X, hX⟩ : ∃ x, fillR r A B op l 0 0 = x := ⟨_, rfl⟩
  rw [hX]
  have HS : Hid (l.length = N ∧ GoodP r (A, B, l) ∧ fillR r A B op l 0 0 = X) := ⟨hN, hg, hX⟩
  have hs := hg.1.1
  have hNl : N ≤ 36 := by rw [← hN]; exact good_len hg
  have hgl := (own_lt ho.1 (g := g) rfl).2
  clear hX hN hg
  go_enter Try.func46, Try.ntmps46
  go_upto_region 1 with fail
  obtain ⟨W, hW⟩ : ∃ x, x = w.alloc (.cells #[.int .i64 r.1, .slice a1 r.2.1.length c1, .slice a2 r.2.2.length c2, .int .i64 A, .int .i64 B, .slice (some ⟨g, 0, none⟩) N cap] 66) := ⟨_, rfl⟩
  have kz : Kept w W := by rw [hW]; exact (But.refl _ _ _).alloc _
  have L0 : Loc W w.heap.size [.int .i64 r.1, .slice a1 r.2.1.length c1, .slice a2 r.2.2.length c2, .int .i64 A, .int .i64 B, .slice (some ⟨g, 0, none⟩) N cap] := by rw [hW]; exact Loc.new _ _ _
  rw [← hW]
  clear hW
  have ho := ho.kept kz
  have hp := hp.kept kz
  have hkb := hkb.trans kz
  repeat (first | go_values | go_skip | go_guarded | go_step | go_upon)
  go_loopw [6, 7] (fun tv dv wr => ∃ (k tr : Nat) (l' : List Int), tv = .int .i64 tr ∧ dv = .int .i64 k ∧ k ≤ op.length ∧ tr ≤ 5000 ∧ Hid (l'.length = N ∧ GoodP r (A, B, l') ∧ fillR r A B op l' k tr = X) ∧ Hid (NumO wr lo hi (.slice (some ⟨g, 0, none⟩) N cap) l') ∧ Hid (But g (g + 1) W wr)) (fun tv dv _ => 2 * (5000 - (intOf tv).toNat) + (intOf dv).toNat)
  case atStart => exact ⟨0, 0, l, rfl, rfl, by omega, by omega, HS, ho, But.refl _ _ _⟩
  case round =>
    obtain ⟨k, tr, l', rfl, rfl, hk, htr, HI, HO, HB⟩ := hrel
    have KB : Kept wb wr := hkb.onto HB.out hgb
    have M0 := L0.but HB.out (by omega)
    have hp := hp.but HB.out hsep
    have p0 := M0.cell 0 rfl
    have p1 := M0.cell 1 rfl
    have p2 := M0.cell 2 rfl
    have p3 := M0.cell 3 rfl
    have p4 := M0.cell 4 rfl
    have p5 := M0.cell 5 rfl
    by_cases hlt : k < op.length
    · obtain ⟨i, hi, hiN⟩ := hop k hlt
      obtain ⟨b, oc, cap1, ee, c0⟩ := num_get hp.at hi
      cases ee
      have hil : i < l'.length := by rw [HI.out.1]; exact hiN
      obtain ⟨o, hoo⟩ : ∃ o : Int, l'[i]? = some o := ⟨_, List.getElem?_eq_getElem hil⟩
      obtain ⟨dc, dz⟩ := HO.out.cells hoo
      have dz0 := dz i
      have HOO : Hid (l'[i]? = some o ∧ op[k]? = some (i : Int)) := ⟨hoo, hi⟩
      have hti := til_own (A := A) (B := B) h1 h2 KB HO.out HI.out.1
      have HT : Hid _ := hti
      have hil' : i < (A, B, l').2.2.length := hil
      clear dz hoo hi hti
      cases hx : nextT r (A, B, l') i o with
      | none =>
        by_cases hk0 : k = 0
        · have d1 : ((k : Int) == 0) = true := by simp; omega
          have HK0 : Hid (k = 0) := hk0
          clear hk0
          repeat (first | (go_at_call 73; refine (inext _ r (A, B, l') i o _ HT.out HI.out.2.1 hil' HOO.out.1).mono ?_; rintro e u1 ⟨rfl, k1⟩; rw [hx]; dsimp only [nextV, Option.isSome]) | go_values | go_skip | go_guarded | go_step | go_upon)
          go_returns
          have hX := HI.out.2.2
          rw [fillR_stuck hlt HOO.out.2 HOO.out.1 hx HK0.out] at hX
          subst hX
          exact ⟨l', rfl, (fun h => by cases h), HI.out.1, HO.out.kept k1, ((But.of kz).trans HB.out).trans (But.of k1)⟩
        · have d1 : ((k : Int) == 0) = false := by simp; omega
          have HK0 : Hid (k ≠ 0) := hk0
          have hw : IntKind.i64.wrap ((k : Int) - 1) = ((k - 1 : Nat) : Int) := by rw [IntKind.wrap_i64]; omega
          have hw' : (k : Int) - 1 = ((k - 1 : Nat) : Int) := by omega
          obtain ⟨k', hk'⟩ : ∃ k', k - 1 = k' := ⟨_, rfl⟩
          rw [hk'] at hw hw'
          have HK' : Hid (k - 1 = k') := hk'
          clear hk' hk0
          repeat (first | (go_at_call 73; refine (inext _ r (A, B, l') i o _ HT.out HI.out.2.1 hil' HOO.out.1).mono ?_; rintro e u1 ⟨rfl, k1⟩; rw [hx]; have p5 := Kept.cell k1 p5; have dz1 : u1.frozen? ⟨g, i, none⟩ = false := (by rw [k1.frozen_eq _ _ (cell_ltG dc)]; exact dz0); have dc1 := Kept.cell k1 dc; dsimp only [nextV, Option.isSome]) | go_values | go_skip | go_guarded | go_step | go_upon)
          refine ⟨⟨k', tr, l'.set i (-1), rfl, rfl, by have := HK'.out; omega, htr, ?_, ?_, ?_⟩, by have := HK'.out; have := HK0.out; simp [intOf]; omega⟩
          · refine ⟨by rw [List.length_set]; exact HI.out.1, ⟨HI.out.2.1.1, field_set HI.out.2.1.2 (by omega)⟩, ?_⟩
            rw [← HI.out.2.2, ← HK'.out]
            exact (fillR_back hlt HOO.out.2 HOO.out.1 hx HK0.out).symm
          · exact (HO.out.kept k1).set HI.out.1.symm HOO.out.1 (-1)
          · exact (HB.out.trans (But.of k1)).trans ((But.refl _ _ _).setCell (by simp) (by simp) _)
      | some t =>
        have htl := next_lt hx
        by_cases ht5 : tr = 5000
        · have d1 : ((tr : Int) == 5000) = true := by simp; omega
          have HT5 : Hid (tr = 5000) := ht5
          clear ht5
          repeat (first | (go_at_call 73; refine (inext _ r (A, B, l') i o _ HT.out HI.out.2.1 hil' HOO.out.1).mono ?_; rintro e u1 ⟨rfl, k1⟩; rw [hx]; dsimp only [nextV, Option.isSome]) | go_values | go_skip | go_guarded | go_step | go_upon)
          go_returns
          have hX := HI.out.2.2
          rw [fillR_full hlt HOO.out.2 HOO.out.1 hx HT5.out] at hX
          subst hX
          exact ⟨l', rfl, (fun h => by cases h), HI.out.1, HO.out.kept k1, ((But.of kz).trans HB.out).trans (But.of k1)⟩
        · have d1 : ((tr : Int) == 5000) = false := by simp; omega
          have HT5 : Hid (tr < 5000) := show tr < 5000 by omega
          clear ht5
          repeat (first | (go_at_call 73; refine (inext _ r (A, B, l') i o _ HT.out HI.out.2.1 hil' HOO.out.1).mono ?_; rintro e u1 ⟨rfl, k1⟩; rw [hx]; have p5 := Kept.cell k1 p5; have dz1 : u1.frozen? ⟨g, i, none⟩ = false := (by rw [k1.frozen_eq _ _ (cell_ltG dc)]; exact dz0); have dc1 := Kept.cell k1 dc; dsimp only [nextV, Option.isSome]) | go_values | go_skip | go_guarded | go_step | go_upon)
          refine ⟨⟨k + 1, tr + 1, l'.set i (t : Int), by go_num, by go_num, by omega, by have := HT5.out; omega, ?_, ?_, ?_⟩, by have := HT5.out; simp [intOf]; omega⟩
          · refine ⟨by rw [List.length_set]; exact HI.out.1, ⟨HI.out.2.1.1, field_set HI.out.2.1.2 (by omega)⟩, ?_⟩
            rw [← HI.out.2.2]
            exact (fillR_lay hlt HOO.out.2 HOO.out.1 hx HT5.out).symm
          · exact (HO.out.kept k1).set HI.out.1.symm HOO.out.1 (t : Int)
          · exact (HB.out.trans (But.of k1)).trans ((But.refl _ _ _).setCell (by simp) (by simp) _)
    · repeat (first | go_values | go_skip | go_guarded | go_step | go_upon)
      go_returns
      have hX := HI.out.2.2
      rw [fillR_end hlt] at hX
      subst hX
      exact ⟨l', rfl, fun _ => rfl, HI.out.1, HO.out, (But.of kz).trans HB.out⟩

end Go.Proofs.Ytopakblckajdmaa
