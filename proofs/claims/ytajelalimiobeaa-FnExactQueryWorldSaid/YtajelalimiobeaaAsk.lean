/-
  Queries: copied, told of an argument; which are good.
-/
import Derived.Test.YtajelalimiobeaaQuery
import Derived.Test.YtajelalimiobeaaTick
namespace Go.Proofs.Ytajelalimiobeaa
open Go.ChangeShapes Go.WideShapes Go.ChangeAt Go.RowKit Go.Deep

theorem OneO.but {α : Type} {c : α → Value} {e : TypeId} {w w' : World} {lo hi lo' hi' : Nat} {v : Value} {l : List α} (h : OneO c e w lo hi v l) (k : But lo' hi' w w') (ho : hi ≤ lo' ∨ hi' ≤ lo) : OneO c e w' lo hi v l := RowO.but h k ho
theorem OneO.mono {α : Type} {c : α → Value} {e : TypeId} {w : World} {lo hi lo' hi' : Nat} {v : Value} {l : List α} (h : OneO c e w lo hi v l) (h1 : lo' ≤ lo) (h2 : hi ≤ hi') : OneO c e w lo' hi' v l := RowO.mono h h1 h2

set_option maxHeartbeats 1000000 in
theorem toQuery (Q : QD) (v : Value) (w : World) (hv : QAt w v Q) (hl : qcost Q ≤ 1048576) :
    Calls Try.prog 39 #[v] w fun e w' => ∃ v', e = .returned v' ∧ QO w' w.heap.size w'.heap.size v' Q ∧ Kept w w' := by
  obtain ⟨ao, n, cap, ao', n', cap', rfl, h1, h2⟩ := hv
  have l1 : Q.1.length ≤ 1048576 := by unfold qcost scost at hl; omega
  have l2 : Q.2.1.length ≤ 1048576 := by unfold qcost scost at hl; omega
  have K0 : ∀ o o' o'', Kept w (((w.alloc o).alloc o').alloc o'') := fun o o' o'' => (((But.refl _ _ _).alloc _).alloc _).alloc _
  go_enter Try.func39, Try.ntmps39
  go_wp2_with fail
  go_at_call 82; refine (toStringS Q.1 _ _ (h1.kept (K0 _ _ _)) l1).mono ?_; rintro e u1 ⟨v1, rfl, o1, k1⟩
  obtain ⟨bo, c1, hf⟩ := o1.form
  subst hf
  have L0 := (((Loc.new w [.slice ao n cap, .slice ao' n' cap', .int .i64 Q.2.2] 66).alloc (.cells #[.slice none 0 0, .slice none 0 0, .int .i64 0] 28)).alloc (.cells #[.slice none 0 0, .slice none 0 0, .int .i64 0] 28)).kept k1
  have L1 := ((Loc.new (w.alloc (.cells #[.slice ao n cap, .slice ao' n' cap', .int .i64 Q.2.2] 66)) [.slice none 0 0, .slice none 0 0, .int .i64 0] 28).alloc (.cells #[.slice none 0 0, .slice none 0 0, .int .i64 0] 28)).kept k1
  have L2 := (Loc.new ((w.alloc (.cells #[.slice ao n cap, .slice ao' n' cap', .int .i64 Q.2.2] 66)).alloc (.cells #[.slice none 0 0, .slice none 0 0, .int .i64 0] 28)) [.slice none 0 0, .slice none 0 0, .int .i64 0] 28).kept k1
  have K1 := (K0 _ _ _).trans k1
  have s1 := k1.size
  simp only [World.size_alloc] at L1 L2 s1 o1
  have a1 := L0.cell 1 rfl
  have a2 := L0.cell 2 rfl
  have b0 := L2.cell 0 rfl
  have b0z := L2.frozen 0
  clear k1
  go_wp2_with fail
  have B1 : But w.heap.size (w.heap.size + 3) u1 (u1.setCell ⟨w.heap.size + 1 + 1, 0, none⟩ (.slice bo Q.1.length c1)) := (But.refl _ _ _).setCell (by simp; omega) (by simp) _
  go_at_call 82; refine (toStringS Q.2.1 _ _ (h2.kept (K1.onto B1 (by omega))) l2).mono ?_; rintro e u2 ⟨v2, rfl, o2, k2⟩
  have L0 := (L0.other (b' := w.heap.size + 1 + 1) (j := 0) (by omega) (.slice bo Q.1.length c1)).kept k2
  have L1 := (L1.other (b' := w.heap.size + 1 + 1) (j := 0) (by omega) (.slice bo Q.1.length c1)).kept k2
  have L2 := (L2.set 0 (.slice bo Q.1.length c1)).kept k2
  have o1 := (o1.but B1 (by omega)).kept k2
  have K2 := (K1.onto B1 (by omega)).trans k2
  have s2 := k2.size
  simp only [World.size_setCell] at o2 s2
  obtain ⟨bo2, c2, hf⟩ := o2.form
  subst hf
  clear k2 B1 a1 a2 b0 b0z
  have a2 := L0.cell 2 rfl
  have b0 := L2.cell 0 rfl
  have b1 := L2.cell 1 rfl
  have b2 := L2.cell 2 rfl
  have b1z := L2.frozen 1
  have b2z := L2.frozen 2
  have d0 := L1.cell 0 rfl
  have d1 := L1.cell 1 rfl
  have d2 := L1.cell 2 rfl
  have d0z := L1.frozen 0
  have d1z := L1.frozen 1
  have d2z := L1.frozen 2
  have HO1 : Hid _ := o1
  have HO2 : Hid _ := o2
  have HK : Hid _ := K2
  clear o1 o2 K2 K1 L0 L1 L2
  go_wp2
  have B : But w.heap.size (w.heap.size + 3) u2 (((((u2.setCell ⟨w.heap.size + 1 + 1, 1, none⟩ (.slice bo2 Q.2.1.length c2)).setCell ⟨w.heap.size + 1 + 1, 2, none⟩ (.int .i64 Q.2.2)).setCell ⟨w.heap.size + 1, 0, none⟩ (.slice bo Q.1.length c1)).setCell ⟨w.heap.size + 1, 1, none⟩ (.slice bo2 Q.2.1.length c2)).setCell ⟨w.heap.size + 1, 2, none⟩ (.int .i64 Q.2.2)) :=
    (((((But.refl _ _ _).setCell (by simp; omega) (by simp) _).setCell (by simp; omega) (by simp) _).setCell (by simp) (by simp) _).setCell (by simp) (by simp) _).setCell (by simp) (by simp) _
  have s3 := B.size
  have p1 := RowO.but HO1.out B (by omega)
  have p2 := RowO.but HO2.out B (by omega)
  refine bodyPost_ret (v := .agg #[.slice bo Q.1.length c1, .slice bo2 Q.2.1.length c2, .int .i64 Q.2.2]) (by simp [results, Try.results39, go_sem, d0, d1, d2]) rfl ?_
  exact ⟨_, rfl, ⟨bo, _, c1, bo2, _, c2, rfl, RowO.mono p1 (by omega) (by omega), RowO.mono p2 (by omega) (by omega), ap_low p1 p2 (by omega)⟩, HK.out.onto B (Nat.le_refl _)⟩

theorem cells26 : Try.prog.cellsOf 26 = 1 := by kernel_rfl
theorem cells66 : Try.prog.cellsOf 66 = 3 := by kernel_rfl
section
variable {H : Type} {enc : TypeId × Value → H} {w : World} {base : Nat} {spare : Nat → Bool} {held : Bool}
theorem open_text {fuel : Nat} {cs : List Value} {x : DataW H × List MemPlace} (h : DataW.trod enc Try.prog w base spare held fuel 9 cs = some x) : ∃ p : ByteArray, cs = [cS p] ∧ p.size ≤ maxLen := by
  obtain ⟨s, e0, _, hs⟩ := DataW.trod_string Try.underlying9 h
  exact ⟨s, e0, hs⟩
set_option maxRecDepth 100000 in
theorem open_query {v : Value} {d : DataW H} {ps : List MemPlace} {r : Reach} {b0 : Nat} (hval : Value.okWide Try.prog w r b0 66 v) (hd : DataW.Trod enc Try.prog w base spare held 66 v d ps) : ∃ Q : QD, QAt w v Q ∧ FitsQ Q := by
  obtain ⟨cs, rfl, hsz⟩ := okWide_struct Try.underlying66 hval
  rw [cells66] at hsz
  obtain ⟨l⟩ := cs
  obtain ⟨fuel, hf⟩ := hd
  obtain ⟨y0, y1, y2, m, _, hl, h0, h1, h2⟩ := trod_struct3 Try.underlying66 hf
  obtain ⟨v0, l0, e0, r0, q0, n0⟩ := open_rows Try.underlying26 cells9 (by omega) (fun s : ByteArray => [cS s]) (fun _ => rfl) (fun s => s.size ≤ maxLen) (fun _ _ _ => open_text) h0
  obtain ⟨v1, l1, e1, r1, q1, n1⟩ := open_rows Try.underlying26 cells9 (by omega) (fun s : ByteArray => [cS s]) (fun _ => rfl) (fun s => s.size ≤ maxLen) (fun _ _ _ => open_text) h1
  obtain ⟨a, e2, _, _⟩ := DataW.trod_int Try.underlying3 h2
  match l, hsz with
  | [c0, c1, c2], _ =>
    simp [Value.cells, cells3, cells26] at e0 e1 e2
    subst e0 e1 e2
    have r0 : OneAt cS w c0 l0 := by unfold OneAt; rw [← List.flatMap_singleton' (l0.map cS), List.flatMap_map]; exact r0
    have r1 : OneAt cS w c1 l1 := by unfold OneAt; rw [← List.flatMap_singleton' (l1.map cS), List.flatMap_map]; exact r1
    obtain ⟨ao, cap, f0⟩ := row_nil r0
    obtain ⟨ao', cap', f1⟩ := row_nil r1
    subst f0 f1
    exact ⟨(l0, l1, a), ⟨_, _, _, _, _, _, rfl, r0, r1⟩, ⟨n0, q0⟩, ⟨n1, q1⟩⟩
end

def asP (s : ByteArray) : PD := (s, 0, 0)
def GoodNs (ss : List ByteArray) : Prop := GoodPs 0 (ss.map asP)

set_option maxHeartbeats 2000000 in
theorem risingNames (ss : List ByteArray) (v : Value) (w : World) (hv : OneAt cS w v ss) (hs : ssum ss ≤ 1048576) (hn : ss.length ≤ 1048576) :
    Calls Try.prog 92 #[v, .int .i64 12] w fun e w' => BoolEnd (GoodNs ss) e ∧ Kept w w' := by
  obtain ⟨ao, cap, hsl⟩ := row_nil hv
  subst hsl
  by_cases h12 : 12 < ss.length
  · go_enter Try.func92, Try.ntmps92
    go_wp2
    go_ret
    exact ⟨be_no rfl (fun h => by have := h.1; rw [List.length_map] at this; omega), But.refl _ _ _⟩
  have h12' : decide (12 < (ss.length : Int)) = false := by simp; omega
  go_enter Try.func92, Try.ntmps92
  go_wp2
  clear h12'
  go_loopw [5, 14] (fun l i wr => ∃ (k : Nat) (s : ByteArray), k ≤ ss.length ∧ i = .int .i64 k ∧ l = .string s ∧ (∀ j p, j < k → (ss.map asP)[j]? = some p → okP 0 (ss.map asP) j p) ∧ (k = 0 → s = ⟨#[]⟩) ∧ (∀ q, 0 < k → (ss.map asP)[k - 1]? = some q → s = q.1) ∧ Kept w wr) (fun l i _ => ss.length - (intOf i).toNat)
  case atStart => exact ⟨0, _, by omega, rfl, rfl, fun j p hj => by omega, fun _ => rfl, fun q h => by omega, But.refl _ _ _⟩
  case round =>
    obtain ⟨k, s, hk, rfl, rfl, hok, hs0, hsq, hkp⟩ := hrel
    by_cases hlt : k < ss.length
    · obtain ⟨p, hp⟩ : ∃ p, ss[k]? = some p := ⟨_, List.getElem?_eq_getElem hlt⟩
      obtain ⟨b, o, cap1, e, c0⟩ := (hv.kept hkp).get hp
      cases e
      have hpp : (ss.map asP)[k]? = some (asP p) := by rw [List.getElem?_map, hp]; rfl
      have hnl : p.size ≤ 1048576 := by have := text_le hp; omega
      have hiff := okP_iff (T := 0) hpp hs0 hsq
      simp only [asP, Int.le_refl, and_self, and_true] at hiff
      have HO : Hid ((∀ j p, j < k → (ss.map asP)[j]? = some p → okP 0 (ss.map asP) j p) ∧ (ss.map asP)[k]? = some (p, 0, 0)) := ⟨hok, hpp⟩
      clear hok hs0 hsq hv hpp
      by_cases hg : okP 0 (ss.map asP) k (p, 0, 0)
      · obtain ⟨g1, g2, g3⟩ := hiff.1 hg
        have g3' : (p.toList == s.toList) = false := by simpa using g3
        have HG : Hid _ := hg
        clear hg hiff g3
        go_wp2_with (go_at_call 104; refine (iname _ _ hnl).mono ?_; rintro e w' ⟨rfl, rfl⟩)
        refine ⟨⟨k + 1, _, hlt, by go_num, rfl, fun j x hj hx => ?_, fun h => by omega, fun q _ hq => ?_, hkp⟩, by simp [intOf]; omega⟩
        · by_cases e : j = k
          · subst e
            rw [HO.out.2] at hx
            cases hx
            exact HG.out
          · exact HO.out.1 j x (by omega) hx
        · rw [Nat.add_sub_cancel, HO.out.2] at hq
          cases hq
          rfl
      · have hway : nameB p = false ∨ (nameB p = true ∧ Op.bytesLess p.toList s.toList = true) ∨ (nameB p = true ∧ Op.bytesLess p.toList s.toList = false ∧ (p.toList == s.toList) = true) := by
          cases q1 : nameB p with
          | false => exact .inl rfl
          | true =>
            refine .inr ?_
            cases q2 : Op.bytesLess p.toList s.toList with
            | true => exact .inl ⟨rfl, rfl⟩
            | false =>
              refine .inr ⟨rfl, rfl, ?_⟩
              cases q3 : (p.toList == s.toList) with
              | true => rfl
              | false => exact absurd (hiff.2 ⟨q1, q2, by simpa using q3⟩) hg
        have HG : Hid (¬ okP 0 (ss.map asP) k (p, 0, 0)) := hg
        clear hg hiff
        rcases hway with h1 | ⟨h1, h2⟩ | ⟨h1, h2, h3⟩
        all_goals
          go_wp2_with (go_at_call 104; refine (iname _ _ hnl).mono ?_; rintro e w' ⟨rfl, rfl⟩)
          go_ret
          exact ⟨be_no rfl (fun h => HG.out (h.2 k _ HO.out.2)), hkp⟩
    · have hke : k = ss.length := by omega
      subst hke
      go_wp2
      go_ret
      exact ⟨be_yes rfl ⟨by rw [List.length_map]; omega, fun i p hp => hok i p (by have := (List.getElem?_eq_some_iff.1 hp).1; rw [List.length_map] at this; exact this) hp⟩, hkp⟩

set_option maxHeartbeats 2000000 in
theorem l3Names (ss : List ByteArray) (v : Value) (w : World) (hv : OneAt cS w v ss) (hs : ssum ss ≤ 1048576) (hn : ss.length ≤ 1048576) :
    Calls Try.prog 56 #[v, .int .i64 12] w fun e w' => BoolEnd (GoodNs ss) e ∧ Kept w w' := by
  obtain ⟨ao, cap, hsl⟩ := row_nil hv
  subst hsl
  by_cases h12 : 12 < ss.length
  · go_enter Try.func56, Try.ntmps56
    go_wp2
    go_ret
    exact ⟨be_no rfl (fun h => by have := h.1; rw [List.length_map] at this; omega), But.refl _ _ _⟩
  have h12' : decide (12 < (ss.length : Int)) = false := by simp; omega
  go_enter Try.func56, Try.ntmps56
  go_wp2
  clear h12'
  go_loopw [13] (fun i wr => ∃ (k : Nat), k ≤ ss.length ∧ i = .int .i64 k ∧ (∀ j p, j < k → (ss.map asP)[j]? = some p → okP 0 (ss.map asP) j p) ∧ Kept w wr) (fun i _ => ss.length - (intOf i).toNat)
  case atStart => exact ⟨0, by omega, rfl, fun j p hj => by omega, But.refl _ _ _⟩
  case round =>
    obtain ⟨k, hk, rfl, hok, hkp⟩ := hrel
    by_cases hlt : k < ss.length
    · obtain ⟨p, hp⟩ : ∃ p, ss[k]? = some p := ⟨_, List.getElem?_eq_getElem hlt⟩
      obtain ⟨b, o, cap1, e, c0⟩ := (hv.kept hkp).get hp
      cases e
      have hpp : (ss.map asP)[k]? = some (asP p) := by rw [List.getElem?_map, hp]; rfl
      have hnl : p.size ≤ 1048576 := by have := text_le hp; omega
      have HO : Hid ((∀ j p, j < k → (ss.map asP)[j]? = some p → okP 0 (ss.map asP) j p) ∧ (ss.map asP)[k]? = some (asP p)) := ⟨hok, hpp⟩
      clear hok hpp
      have hway : nameB p = false ∨ (∃ k' q, nameB p = true ∧ k = k' + 1 ∧ ss[k']? = some q ∧ Op.bytesLess q.toList p.toList = false) ∨ (nameB p = true ∧ decide (0 < k) = false) ∨ (∃ k' q, nameB p = true ∧ k = k' + 1 ∧ ss[k']? = some q ∧ Op.bytesLess q.toList p.toList = true) := by
        cases q1 : nameB p with
        | false => exact .inl rfl
        | true =>
          refine .inr ?_
          by_cases q3 : k = 0
          · exact .inr (.inl ⟨rfl, by simp; omega⟩)
          · obtain ⟨k', rfl⟩ : ∃ k', k = k' + 1 := ⟨k - 1, by omega⟩
            obtain ⟨q, hq⟩ : ∃ q, ss[k']? = some q := ⟨_, List.getElem?_eq_getElem (by omega)⟩
            cases q4 : Op.bytesLess q.toList p.toList with
            | false => exact .inl ⟨k', q, rfl, rfl, hq, q4⟩
            | true => exact .inr (.inr ⟨k', q, rfl, rfl, hq, q4⟩)
      rcases hway with q1 | ⟨k', q, q1, hkk, hq, q3⟩ | hgo
      · go_wp2_with (go_at_call 69; refine (sname _ _ hnl).mono ?_; rintro e w' ⟨rfl, rfl⟩)
        go_ret
        exact ⟨be_no rfl (fun h => by have h5 := (h.2 _ _ HO.out.2).1; simp only [asP] at h5; rw [h5] at q1; cases q1), hkp⟩
      · obtain ⟨b3, o3, cap6, e3, d0⟩ := (hv.kept hkp).get hq
        cases e3
        have hw2 : IntKind.i64.wrap ((k : Int) - 1) = (k' : Int) := by rw [IntKind.wrap_i64]; omega
        have hwk : (k' : Int) < ss.length := by omega
        have hwp : 0 < k := by omega
        have hwp' : (0 : Int) < (k : Int) := by omega
        have HKK : Hid _ := hkk
        clear hkk
        go_wp2_with (go_at_call 69; refine (sname _ _ hnl).mono ?_; rintro e w' ⟨rfl, rfl⟩)
        go_ret
        exact ⟨be_no rfl (fun h => by have h5 := (h.2 _ _ HO.out.2).2.2.2 (asP q) (by omega) (by rw [HKK.out, Nat.add_sub_cancel, List.getElem?_map, hq]; rfl); unfold less asP at h5; simp only at h5; rw [h5] at q3; cases q3), hkp⟩
      · have hokp : okP 0 (ss.map asP) k (asP p) := by
          rcases hgo with ⟨q1, q3⟩ | ⟨k', q, q1, rfl, hq, q3⟩
          · exact ⟨q1, Int.le_refl _, Int.le_refl _, fun q hq => by simp at q3; omega⟩
          · refine ⟨q1, Int.le_refl _, Int.le_refl _, fun q' _ hq' => ?_⟩
            rw [Nat.add_sub_cancel, List.getElem?_map, hq] at hq'
            cases hq'
            exact q3
        have HOK : Hid _ := hokp
        clear hokp
        rcases hgo with ⟨q1, q3⟩ | ⟨k', q, q1, hkk, hq, q3⟩
        case' inl => have hj0' : decide ((0 : Int) < (k : Int)) = false := by simp at q3 ⊢; omega
        case' inr =>
          obtain ⟨b3, o3, cap6, e3, d0⟩ := (hv.kept hkp).get hq
          cases e3
          have hw2 : IntKind.i64.wrap ((k : Int) - 1) = (k' : Int) := by rw [IntKind.wrap_i64]; omega
          have hwk : (k' : Int) < ss.length := by omega
          have hwp : 0 < k := by omega
          have hwp' : (0 : Int) < (k : Int) := by omega
          have HKK : Hid _ := hkk
          clear hkk
        all_goals
          go_wp2_with (go_at_call 69; refine (sname _ _ hnl).mono ?_; rintro e w' ⟨rfl, rfl⟩)
          refine ⟨⟨k + 1, hlt, by go_num, fun i x hi hx => ?_, hkp⟩, by simp [intOf]; omega⟩
          by_cases e : i < k
          · exact HO.out.1 i x e hx
          · obtain rfl : i = k := by omega
            rw [HO.out.2] at hx
            cases hx
            exact HOK.out
    · have hke : k = ss.length := by omega
      subst hke
      go_wp2_with fail
      go_ret
      exact ⟨be_yes rfl ⟨by rw [List.length_map]; omega, fun i p hp => hok i p (by have := (List.getElem?_eq_some_iff.1 hp).1; rw [List.length_map] at this; exact this) hp⟩, hkp⟩

def GoodQ (Q : QD) : Prop := GoodNs Q.1 ∧ GoodNs Q.2.1 ∧ 0 ≤ Q.2.2 ∧ Q.2.2 ≤ 1000000

theorem goodQuery (Q : QD) (v : Value) (w : World) (hv : QAt w v Q) (hl : qcost Q ≤ 1048576) :
    Calls Try.prog 54 #[v] w fun e w' => BoolEnd (GoodQ Q) e ∧ Kept w w' := by
  obtain ⟨ao, n, cap, ao', n', cap', rfl, h1, h2⟩ := hv
  have l1 : ssum Q.1 ≤ 1048576 ∧ Q.1.length ≤ 1048576 := by unfold qcost scost at hl; omega
  have l2 : ssum Q.2.1 ≤ 1048576 ∧ Q.2.1.length ≤ 1048576 := by unfold qcost scost at hl; omega
  by_cases g1 : GoodNs Q.1
  · by_cases g2 : GoodNs Q.2.1
    · have hway : decide (0 ≤ Q.2.2) = false ∨ 0 ≤ Q.2.2 := by by_cases h : 0 ≤ Q.2.2 <;> simp [h]
      rcases hway with g3 | g3
      all_goals
        go_enter Try.func54, Try.ntmps54
        go_wp2_with fail
        go_at_call 92; refine (good_yes (risingNames Q.1 _ _ (h1.kept ((But.refl _ _ _).alloc _)) l1.1 l1.2) g1).mono ?_; rintro e u1 ⟨rfl, k1⟩
        have L := (Loc.new w [.slice ao n cap, .slice ao' n' cap', .int .i64 Q.2.2] 28).kept k1
        have a1 := L.cell 1 rfl
        have K1 : Kept w u1 := ((But.refl _ _ _).alloc _).trans k1
        go_wp2_with fail
        go_at_call 92; refine (good_yes (risingNames Q.2.1 _ _ (h2.kept K1) l2.1 l2.2) g2).mono ?_; rintro e u2 ⟨rfl, k2⟩
        have L := L.kept k2
        have a2 := L.cell 2 rfl
        have K2 := K1.trans k2
        clear a1
        go_wp2_with fail
        go_ret
        refine ⟨⟨_, rfl, ?_⟩, K2⟩
        simp [GoodQ, g1, g2]
        try simp at g3
        try omega
    · go_enter Try.func54, Try.ntmps54
      go_wp2_with fail
      go_at_call 92; refine (good_yes (risingNames Q.1 _ _ (h1.kept ((But.refl _ _ _).alloc _)) l1.1 l1.2) g1).mono ?_; rintro e u1 ⟨rfl, k1⟩
      have L := (Loc.new w [.slice ao n cap, .slice ao' n' cap', .int .i64 Q.2.2] 28).kept k1
      have a1 := L.cell 1 rfl
      have K1 : Kept w u1 := ((But.refl _ _ _).alloc _).trans k1
      go_wp2_with fail
      go_at_call 92; refine (good_no (risingNames Q.2.1 _ _ (h2.kept K1) l2.1 l2.2) g2).mono ?_; rintro e u2 ⟨rfl, k2⟩
      clear a1
      go_wp2_with fail
      go_ret
      exact ⟨be_no rfl (fun h => g2 h.2.1), K1.trans k2⟩
  · go_enter Try.func54, Try.ntmps54
    go_wp2_with fail
    go_at_call 92; refine (good_no (risingNames Q.1 _ _ (h1.kept ((But.refl _ _ _).alloc _)) l1.1 l1.2) g1).mono ?_; rintro e u1 ⟨rfl, k1⟩
    go_wp2_with fail
    go_ret
    exact ⟨be_no rfl (fun h => g1 h.1), ((But.refl _ _ _).alloc _).trans k1⟩
end Go.Proofs.Ytajelalimiobeaa
