/-
  What the program's QueryWorld answers: the Ids of the entities that match.
-/
import Derived.Test.YtajelalimiobeaaMatch
import Derived.Test.YtajelalimiobeaaReach
namespace Go.Proofs.Ytajelalimiobeaa
open Go.ChangeShapes Go.WideShapes Go.ChangeAt Go.RowKit

theorem info3 : (Try.prog.info? 3).map (fun i => (i.zero, i.size, i.bytes)) = some (some (.int .i64 0), 1, 8) := by kernel_rfl
theorem news1 (w : World) (g : Nat) (a : Value) (t : TypeId) (hg : g = w.heap.size) : ∀ j u, ([a] : List Value)[j]? = some u → (w.alloc (.cells #[a] t)).cell? ((⟨g, 0, none⟩ : Addr).add j) = some u := by
  intro j u hu
  subst hg
  rw [Go.WideShapes.add_plain, Nat.zero_add]
  exact (Loc.new w [a] t).cell j hu
theorem one1 (x : Int) : ∀ u ∈ ([.int .i64 x] : List Value), u.oneCell' = true := by
  intro u hu
  simp at hu
  subst hu
  rfl
def idsOf (Q : QD) (es : List ED) : List Int := (es.filter (fun e => mB Q e.2)).map (·.1)
theorem idsOf_yes (Q : QD) (es : List ED) (e : ED) (h : mB Q e.2 = true) : idsOf Q (es ++ [e]) = idsOf Q es ++ [e.1] := by simp [idsOf, List.filter_append, h]
theorem idsOf_no (Q : QD) (es : List ED) (e : ED) (h : mB Q e.2 = false) : idsOf Q (es ++ [e]) = idsOf Q es := by simp [idsOf, List.filter_append, h]
theorem idsOf_len (Q : QD) (es : List ED) : (idsOf Q es).length ≤ es.length := by simp [idsOf, List.length_filter_le]
theorem one_nil (w : World) (lo hi : Nat) : OneO cI 3 w lo hi (.slice none 0 0) [] := ⟨World.ownsRow_nil _ _ _ _, fun g hg => by simp [Value.ownBlock] at hg⟩

theorem implQueryBadW (D : WD) (Q : QD) (hg : ¬ GoodW D) (hc : ecost D.2.2 ≤ 1048576) (v v' : Value) (w : World) (hv : WAt w v D) (hq : QAt w v' Q) :
    Calls Try.prog 14 #[v, v'] w fun e w' => e = .returned (.tuple #[.slice none 0 0, .bool false]) ∧ Kept w w' := by
  obtain ⟨ao, n, cap, hfm⟩ := hv.form
  subst hfm
  obtain ⟨q1, m1, c1, q2, m2, c2, hfm⟩ := hq.form
  subst hfm
  go_enter Try.func14, Try.ntmps14
  go_wp2_with fail
  go_at_call 27; refine (good_no (implGood D _ _ (hv.kept (((But.refl _ _ _).alloc _).alloc _)) hc) hg).mono ?_; rintro e u1 ⟨rfl, k1⟩
  go_wp2_with fail
  go_ret2
  exact ⟨rfl, (((But.refl _ _ _).alloc _).alloc _).trans k1⟩
theorem implQueryBadQ (D : WD) (Q : QD) (hg : GoodW D) (hb : ¬ GoodQ Q) (hc : ecost D.2.2 ≤ 1048576) (hl : qcost Q ≤ 1048576) (v v' : Value) (w : World) (hv : WAt w v D) (hq : QAt w v' Q) :
    Calls Try.prog 14 #[v, v'] w fun e w' => e = .returned (.tuple #[.slice none 0 0, .bool false]) ∧ Kept w w' := by
  obtain ⟨ao, n, cap, hfm⟩ := hv.form
  subst hfm
  obtain ⟨q1, m1, c1, q2, m2, c2, hfm⟩ := hq.form
  subst hfm
  have K0 : ∀ o o', Kept w ((w.alloc o).alloc o') := fun o o' => ((But.refl _ _ _).alloc _).alloc _
  go_enter Try.func14, Try.ntmps14
  go_wp2_with fail
  go_at_call 27; refine (good_yes (implGood D _ _ (hv.kept (K0 _ _)) hc) hg).mono ?_; rintro e u1 ⟨rfl, k1⟩
  have L := (Loc.new (w.alloc (.cells #[.int .i64 D.1, .int .i64 D.2.1, .slice ao n cap] 25)) [.slice q1 m1 c1, .slice q2 m2 c2, .int .i64 Q.2.2] 28).kept k1
  simp only [World.size_alloc] at L
  have a0 := L.cell 0 rfl
  have a1 := L.cell 1 rfl
  have a2 := L.cell 2 rfl
  have K1 := (K0 _ _).trans k1
  go_wp2_with fail
  go_at_call 54; refine (good_no (goodQuery Q _ _ (hq.kept K1) hl) hb).mono ?_; rintro e u2 ⟨rfl, k2⟩
  go_wp2_with fail
  go_ret2
  exact ⟨rfl, K1.trans k2⟩

set_option maxRecDepth 100000 in
set_option maxHeartbeats 4000000 in
theorem implQueryOk (D : WD) (Q : QD) (hg : GoodW D) (hb : GoodQ Q) (hc : ecost D.2.2 ≤ 1048576) (hl : qcost Q ≤ 1048576) (v v' : Value) (w : World) (hv : WAt w v D) (hq : QAt w v' Q) :
    Calls Try.prog 14 #[v, v'] w fun e w' => ∃ r, e = .returned (.tuple #[r, .bool true]) ∧ OneO cI 3 w' w.heap.size w'.heap.size r (idsOf Q D.2.2) ∧ Kept w w' := by
  obtain ⟨ev, zs, rfl, he, hes⟩ := id hv
  obtain ⟨ao, cap, hsl⟩ := row_nil he.1
  subst hsl
  obtain ⟨q1, m1, c1, q2, m2, c2, hfm⟩ := hq.form
  subst hfm
  have HE : Hid (zs.map strip = D.2.2) := hes
  have hz60 : zs.length ≤ 60 := by have := hg.2.2.2.2.1; rw [← hes] at this; simpa using this
  clear hes
  have K0 : ∀ o o', Kept w ((w.alloc o).alloc o') := fun o o' => ((But.refl _ _ _).alloc _).alloc _
  go_enter Try.func14, Try.ntmps14
  go_wp2_with fail
  go_at_call 27; refine (good_yes (implGood D _ _ (hv.kept (K0 _ _)) hc) hg).mono ?_; rintro e u1 ⟨rfl, k1⟩
  have L := (Loc.new (w.alloc (.cells #[.int .i64 D.1, .int .i64 D.2.1, .slice ao zs.length cap] 25)) [.slice q1 m1 c1, .slice q2 m2 c2, .int .i64 Q.2.2] 28).kept k1
  have M := ((Loc.new w [.int .i64 D.1, .int .i64 D.2.1, .slice ao zs.length cap] 25).alloc (.cells #[.slice q1 m1 c1, .slice q2 m2 c2, .int .i64 Q.2.2] 28)).kept k1
  simp only [World.size_alloc] at L
  have a0 := L.cell 0 rfl
  have a1 := L.cell 1 rfl
  have a2 := L.cell 2 rfl
  have K1 := (K0 _ _).trans k1
  have s1 := k1.size
  simp only [World.size_alloc] at s1
  go_wp2_with fail
  go_at_call 54; refine (good_yes (goodQuery Q _ _ (hq.kept K1) hl) hb).mono ?_; rintro e u2 ⟨rfl, k2⟩
  have L := L.kept k2
  have M := M.kept k2
  have m2' := M.cell 2 rfl
  have K2 := K1.trans k2
  have s2 := k2.size
  clear a0 a1 a2 k1 k2 K1
  go_wp2_with fail
  obtain ⟨i0, hi, hz0, hz1, hz2⟩ := info_parts info3
  go_loopw [6, 20] (fun r i wr => ∃ (k : Nat) (ao2 : Option Addr) (n2 cap2 : Nat), k ≤ zs.length ∧ i = .int .i64 k ∧ r = .slice ao2 n2 cap2 ∧ n2 = (idsOf Q ((zs.take k).map strip)).length ∧ OneO cI 3 wr (w.heap.size + 2) wr.heap.size (.slice ao2 n2 cap2) (idsOf Q ((zs.take k).map strip)) ∧ Loc wr (w.heap.size + 1) [.slice q1 m1 c1, .slice q2 m2 c2, .int .i64 Q.2.2] ∧ Kept w wr ∧ w.heap.size + 2 ≤ wr.heap.size) (fun r i _ => zs.length - (intOf i).toNat)
  case atStart => exact ⟨0, none, 0, 0, by omega, rfl, rfl, by simp [idsOf], by simpa [idsOf] using one_nil _ _ _, L, K2, by omega⟩
  case round =>
    obtain ⟨k, ao2, n2, cap2, hk, rfl, rfl, hn2, ho, hL, hkp, hsz⟩ := hrel
    have HO : Hid (n2 = (idsOf Q ((zs.take k).map strip)).length ∧ OneO cI 3 wr (w.heap.size + 2) wr.heap.size (.slice ao2 n2 cap2) (idsOf Q ((zs.take k).map strip))) := ⟨hn2, ho⟩
    have hn60 : n2 ≤ 60 := by
      have := idsOf_len Q ((zs.take k).map strip)
      simp only [List.length_map, List.length_take] at this
      omega
    clear hn2 ho L M m2'
    by_cases hlt : k < zs.length
    · obtain ⟨z, hz⟩ : ∃ z, zs[k]? = some z := ⟨_, List.getElem?_eq_getElem hlt⟩
      have hek : D.2.2[k]? = some (strip z) := by rw [← HE.out, List.getElem?_map, hz]; rfl
      obtain ⟨b, o, cap1, ao1, n1, cap3, e1, ez, d0, d1, en, hpa⟩ := ents_get (he.kept hkp) hz
      cases e1
      subst en
      have hgp := (hg.2.2.2.2.2 k _ hek).2.2.2
      simp only [strip] at hgp
      have hp12 : z.2.2.length ≤ 1048576 := by have := hgp.1; omega
      have hrp := riseP_of hgp
      have HS : Hid ((zs.take (k + 1)).map strip = (zs.take k).map strip ++ [strip z]) := show (_ = _) by rw [take_snoc hz]; simp
      have a0 := hL.cell 0 rfl
      have a1 := hL.cell 1 rfl
      have a2 := hL.cell 2 rfl
      have hlq := hL.lt
      clear hek hgp ez
      go_wp2_with fail
      go_at_call 55; refine (matches_ Q z.2.2 _ _ _ (hpa.kept ((But.refl _ _ wr).alloc _)) (hq.kept (hkp.alloc _)) hrp hp12 hl).mono ?_; rintro e u3 ⟨rfl, k3⟩
      have k3' : Kept wr u3 := ((But.refl _ _ wr).alloc _).trans k3
      have LE := (Loc.new wr [.int .i64 z.1, .slice ao1 z.2.2.length cap3] 36).kept k3
      have e0 := LE.cell 0 rfl
      have hlw := LE.lt
      have HL : Hid _ := hL.kept k3'
      have HK : Hid _ := hkp.trans k3'
      have s3 := k3'.size
      have hor : Hid (u3.ownsRow (w.heap.size + 2) 3 1 (.slice ao2 n2 cap2) n2 ((idsOf Q ((zs.take k).map strip)).map cI)) := by
        have h := (OneO.kept HO.out.2 k3').1
        rw [← HO.out.1] at h
        exact h
      clear k3 k3' LE hL hkp a0 a1 a2 d0 d1 hpa
      cases hm : mB Q z.2.2 with
      | false =>
        go_wp2_with fail
        refine ⟨⟨k + 1, ao2, n2, cap2, hlt, by go_num, rfl, ?_, ?_, HL.out, HK.out, by omega⟩, by simp [intOf]; omega⟩
        · rw [HS.out, idsOf_no _ _ _ (by exact hm)]; exact HO.out.1
        · rw [HS.out, idsOf_no _ _ _ (by exact hm)]
          have h := RowO.top hor.out
          rw [HO.out.1] at h
          rw [HO.out.1]
          exact h
      | true =>
        go_wp2_with (first
          | (at_builtin; refine wpList_append_own _ rfl _ _ 31 rfl (w.heap.size + 2) 3 i0 (.int .i64 0) 1 8 Try.underlying31 hi hz0 hz1 hz2 rfl (by decide) _ _ _ rfl (own_kept hor.out ((But.refl _ _ u3).alloc _)) ⟨_, 0, none⟩ 1 1 [.int .i64 z.1] rfl rfl (news1 _ _ _ _ (by simp)) (one1 _) (by unfold maxLen; omega) (by omega) (by simp; omega) ?_
             intro v' w1 hown' hgrow _
             obtain ⟨ao5, cap5, hf5, _⟩ := own_form hown'
             subst hf5
             have HM : Hid _ := (Loc.alloc HL.out _).grown hgrow (by intro hx; have := own_lt hor.out hx; omega)
             have HK1 : Hid (Kept w w1) := (HK.out.alloc _).grown hgrow (by intro x hx; have := own_lt hor.out hx; omega)
             have s5 := hgrow.size
             simp only [World.size_alloc] at s5
             have HW : Hid _ := hown'
             clear hgrow hown'))
        have HI : idsOf Q ((zs.take (k + 1)).map strip) = idsOf Q ((zs.take k).map strip) ++ [z.1] := by rw [HS.out, idsOf_yes _ _ _ (by exact hm)]; rfl
        refine ⟨⟨k + 1, ao5, n2 + 1, cap5, hlt, by go_num, rfl, ?_, ?_, HM.out, HK1.out, by omega⟩, by simp [intOf]; omega⟩
        · rw [HI, HO.out.1]; simp
        · rw [HI]
          have h := RowO.top HW.out
          unfold OneO
          rw [List.length_append, List.length_singleton, List.map_append, ← HO.out.1]
          exact h
    · have hke : k = zs.length := by omega
      subst hke
      go_wp2_with fail
      go_ret2
      refine ⟨_, rfl, ?_, hkp⟩
      have h := HO.out.2
      rw [List.take_length, HE.out] at h
      exact h.mono (by omega) (Nat.le_refl _)
end Go.Proofs.Ytajelalimiobeaa
