/-
  Whether buses are good: the program.
-/
import Derived.Test.YtghmnhohdbombaaBsm16
import Derived.Test.YtghmnhohdbombaaQuiet
import Derived.Test.YtghmnhohdbombaaReal16
namespace Go.Proofs.Ytghmnhohdbombaa
open Go.ChangeShapes Go.WideShapes Go.ChangeAt Go.RowKit Ieee

set_option maxRecDepth 100000
set_option linter.unusedVariables false
set_option maxHeartbeats 8000000 in
theorem igoodBs (l : List BusD) (v : Value) (w : World) (hv : BusAt w v l) (hx : ∀ p ∈ l, BusOk p) (hn : l.length ≤ 1048576) :
    Calls Try.prog 63 #[v] w fun e w' => ∃ b, e = .returned (.bool b) ∧ (b = true ↔ goodBs l) ∧ Kept w w' := by
  obtain ⟨ao, cap, hsl⟩ := row_nil hv
  subst hsl
  have HV : Hid (BusAt w (.slice ao l.length cap) l) := hv
  clear hv
  by_cases h : l.length ≤ 8
  · have hd : decide ((8 : Int) < (l.length : Int)) = false := by simp; omega
    go_enter Try.func63, Try.ntmps63
    repeat (first | go_values | go_skip | go_guarded | go_step | go_upon)
    clear hd
    go_loopw [11] (fun i wr => ∃ k : Nat, k ≤ l.length ∧ i = .int .i64 k ∧ Hid (∀ j p, j < k → l[j]? = some p → goodB1 l.length j p = true) ∧ Kept w wr) (fun i _ => l.length - (intOf i).toNat)
    case atStart => exact ⟨0, by omega, rfl, (fun j p hj => by omega : ∀ j p, j < 0 → l[j]? = some p → goodB1 l.length j p = true), But.refl _ _ _⟩
    case round =>
      obtain ⟨k, hk, rfl, HB, hkp⟩ := hrel
      have HK : Hid (Kept w wr) := hkp
      by_cases hlt : k < l.length
      · obtain ⟨⟨p0, p1, p2, p3, p4, p5, p6⟩, hxk⟩ : ∃ x, l[k]? = some x := ⟨_, List.getElem?_eq_getElem hlt⟩
        obtain ⟨b, o, cap', e, c0, c1, c2, c3, c4, c5, c6⟩ := bus_get (HV.out.kept hkp) hxk
        cases e
        obtain ⟨hb0, hb1, hb2, hb3, hb4, hb5⟩ := hx _ (List.mem_of_getElem? hxk)
        dsimp only at c0 c1 c2 c3 c4 c5 c6 hb0 hb1 hb2 hb3 hb4 hb5
        have HX : Hid (l[k]? = some (p0, p1, p2, p3, p4, p5, p6)) := hxk
        clear hxk hkp
        by_cases i1 : (k : Int) < p6
        · by_cases i2 : p6 < (l.length : Int)
          · have HI : Hid ((k : Int) < p6 ∧ p6 < (l.length : Int)) := ⟨i1, i2⟩
            have d1 : decide ((k : Int) < p6) = true := by (simp <;> omega)
            have d2 : decide (p6 < (l.length : Int)) = true := by (simp <;> omega)
            have hgi : goodI l.length k p6 = true := by simp only [goodI]; (simp <;> omega)
            have HGI : Hid (goodI l.length k p6 = true) := hgi
            clear hgi
            repeat (first | go_values | go_skip | go_guarded | go_step | go_upon)
            go_at_call 52
            refine (implGood p0 hb0 _).mono ?_
            rintro e w1 ⟨rfl, rfl⟩
            cases hg0 : good p0 with
            | false =>
              dsimp only
              repeat (first | go_values | go_skip | go_guarded | go_step | go_upon)
              go_ret
              exact ⟨_, rfl, by
                simp only [Bool.false_eq_true, false_iff]
                intro hg
                have := hg.2 k _ HX.out
                simp only [goodB1, hg0, Bool.false_and] at this
                (cases this), by (repeat (first | with_reducible exact But.refl _ _ _ | with_reducible exact HK.out | with_reducible apply But.drewN | with_reducible apply But.drew | with_reducible apply But.alloc))⟩
            | true =>
              dsimp only
              repeat (first | go_values | go_skip | go_guarded | go_step | go_upon)
              go_at_call 15
              refine (igoodF p1 p2 p3 p4 p5 hb1 hb2 hb3 hb4 hb5 _).mono ?_
              rintro e w2 ⟨rfl, k2⟩
              rw [show (good p1 && good p2 && good p3 && good p4 && good p5) = goodF (filtOf (p0, p1, p2, p3, p4, p5, p6)) from rfl]
              have HK2 : Hid (Kept w w2) := But.trans (by (repeat (first | with_reducible exact But.refl _ _ _ | with_reducible exact HK.out | with_reducible apply But.drewN | with_reducible apply But.drew | with_reducible apply But.alloc))) k2
              have hc := k2.cell_eq
              have hn := k2.size
              simp only [World.size_alloc] at hn
              have hn2 : wr.heap.size < w2.heap.size := by omega
              have c6 : w2.cell? ⟨wr.heap.size, 6, none⟩ = some (.int .i64 p6) := ((Loc.new wr [.float .f64 p0, .float .f64 p1, .float .f64 p2, .float .f64 p3, .float .f64 p4, .float .f64 p5, .int .i64 p6] 94).kept k2).cell 6 rfl
              clear hc k2
              cases hg1 : goodF (filtOf (p0, p1, p2, p3, p4, p5, p6)) with
              | false =>
                dsimp only
                repeat (first | go_values | go_skip | go_guarded | go_step | go_upon)
                go_ret
                exact ⟨_, rfl, by
                  simp only [Bool.false_eq_true, false_iff]
                  intro hg
                  have := hg.2 k _ HX.out
                  simp only [goodB1, hg1, Bool.and_false, Bool.false_and] at this
                  (cases this), HK2.out⟩
              | true =>
                have HB1 : Hid (goodB1 l.length k (p0, p1, p2, p3, p4, p5, p6) = goodI l.length k p6) := by
                  show _ = _
                  simp only [goodB1, hg0, hg1, Bool.and_self, Bool.true_and]
                  rfl
                clear hg0 hg1
                dsimp only
                repeat (first | go_values | go_skip | go_guarded | go_step | go_upon)
                refine ⟨⟨k + 1, hlt, by go_num, ?_, HK2.out⟩, by simp [intOf]; omega⟩
                show ∀ j p, j < k + 1 → l[j]? = some p → goodB1 l.length j p = true
                intro j p hj hp
                by_cases e : j = k
                · subst e
                  rw [HX.out] at hp
                  cases hp
                  rw [HB1.out, HGI.out]
                · exact HB.out j p (by omega) hp
          · have i3 : p6 ≠ -1 := by omega
            have d1 : decide ((k : Int) < p6) = true := by (simp <;> omega)
            have d2 : decide (p6 < (l.length : Int)) = false := by (simp <;> omega)
            have d3 : (p6 != -1) = true := by (simp <;> omega)
            have hgi : goodI l.length k p6 = false := by simp only [goodI]; (simp <;> omega)
            have HGI : Hid (goodI l.length k p6 = false) := hgi
            clear hgi
            repeat (first | go_values | go_skip | go_guarded | go_step | go_upon)
            go_at_call 52
            refine (implGood p0 hb0 _).mono ?_
            rintro e w1 ⟨rfl, rfl⟩
            cases hg0 : good p0 with
            | false =>
              dsimp only
              repeat (first | go_values | go_skip | go_guarded | go_step | go_upon)
              go_ret
              exact ⟨_, rfl, by
                simp only [Bool.false_eq_true, false_iff]
                intro hg
                have := hg.2 k _ HX.out
                simp only [goodB1, hg0, Bool.false_and] at this
                (cases this), by (repeat (first | with_reducible exact But.refl _ _ _ | with_reducible exact HK.out | with_reducible apply But.drewN | with_reducible apply But.drew | with_reducible apply But.alloc))⟩
            | true =>
              dsimp only
              repeat (first | go_values | go_skip | go_guarded | go_step | go_upon)
              go_at_call 15
              refine (igoodF p1 p2 p3 p4 p5 hb1 hb2 hb3 hb4 hb5 _).mono ?_
              rintro e w2 ⟨rfl, k2⟩
              rw [show (good p1 && good p2 && good p3 && good p4 && good p5) = goodF (filtOf (p0, p1, p2, p3, p4, p5, p6)) from rfl]
              have HK2 : Hid (Kept w w2) := But.trans (by (repeat (first | with_reducible exact But.refl _ _ _ | with_reducible exact HK.out | with_reducible apply But.drewN | with_reducible apply But.drew | with_reducible apply But.alloc))) k2
              have hc := k2.cell_eq
              have hn := k2.size
              simp only [World.size_alloc] at hn
              have hn2 : wr.heap.size < w2.heap.size := by omega
              have c6 : w2.cell? ⟨wr.heap.size, 6, none⟩ = some (.int .i64 p6) := ((Loc.new wr [.float .f64 p0, .float .f64 p1, .float .f64 p2, .float .f64 p3, .float .f64 p4, .float .f64 p5, .int .i64 p6] 94).kept k2).cell 6 rfl
              clear hc k2
              cases hg1 : goodF (filtOf (p0, p1, p2, p3, p4, p5, p6)) with
              | false =>
                dsimp only
                repeat (first | go_values | go_skip | go_guarded | go_step | go_upon)
                go_ret
                exact ⟨_, rfl, by
                  simp only [Bool.false_eq_true, false_iff]
                  intro hg
                  have := hg.2 k _ HX.out
                  simp only [goodB1, hg1, Bool.and_false, Bool.false_and] at this
                  (cases this), HK2.out⟩
              | true =>
                have HB1 : Hid (goodB1 l.length k (p0, p1, p2, p3, p4, p5, p6) = goodI l.length k p6) := by
                  show _ = _
                  simp only [goodB1, hg0, hg1, Bool.and_self, Bool.true_and]
                  rfl
                clear hg0 hg1
                dsimp only
                repeat (first | go_values | go_skip | go_guarded | go_step | go_upon)
                go_ret
                exact ⟨_, rfl, by
                  simp only [Bool.false_eq_true, false_iff]
                  intro hg
                  have := hg.2 k _ HX.out
                  rw [HB1.out, HGI.out] at this
                  (cases this), HK2.out⟩
        · by_cases i3 : p6 = -1
          · subst i3
            have d1 : decide ((k : Int) < -1) = false := by (simp <;> omega)
            have hgi : goodI l.length k (-1) = true := by simp only [goodI]; (simp <;> omega)
            have HGI : Hid (goodI l.length k (-1) = true) := hgi
            clear hgi
            repeat (first | go_values | go_skip | go_guarded | go_step | go_upon)
            go_at_call 52
            refine (implGood p0 hb0 _).mono ?_
            rintro e w1 ⟨rfl, rfl⟩
            cases hg0 : good p0 with
            | false =>
              dsimp only
              repeat (first | go_values | go_skip | go_guarded | go_step | go_upon)
              go_ret
              exact ⟨_, rfl, by
                simp only [Bool.false_eq_true, false_iff]
                intro hg
                have := hg.2 k _ HX.out
                simp only [goodB1, hg0, Bool.false_and] at this
                (cases this), by (repeat (first | with_reducible exact But.refl _ _ _ | with_reducible exact HK.out | with_reducible apply But.drewN | with_reducible apply But.drew | with_reducible apply But.alloc))⟩
            | true =>
              dsimp only
              repeat (first | go_values | go_skip | go_guarded | go_step | go_upon)
              go_at_call 15
              refine (igoodF p1 p2 p3 p4 p5 hb1 hb2 hb3 hb4 hb5 _).mono ?_
              rintro e w2 ⟨rfl, k2⟩
              rw [show (good p1 && good p2 && good p3 && good p4 && good p5) = goodF (filtOf (p0, p1, p2, p3, p4, p5, (-1))) from rfl]
              have HK2 : Hid (Kept w w2) := But.trans (by (repeat (first | with_reducible exact But.refl _ _ _ | with_reducible exact HK.out | with_reducible apply But.drewN | with_reducible apply But.drew | with_reducible apply But.alloc))) k2
              have hc := k2.cell_eq
              have hn := k2.size
              simp only [World.size_alloc] at hn
              have hn2 : wr.heap.size < w2.heap.size := by omega
              have c6 : w2.cell? ⟨wr.heap.size, 6, none⟩ = some (.int .i64 (-1)) := ((Loc.new wr [.float .f64 p0, .float .f64 p1, .float .f64 p2, .float .f64 p3, .float .f64 p4, .float .f64 p5, .int .i64 (-1)] 94).kept k2).cell 6 rfl
              clear hc k2
              cases hg1 : goodF (filtOf (p0, p1, p2, p3, p4, p5, (-1))) with
              | false =>
                dsimp only
                repeat (first | go_values | go_skip | go_guarded | go_step | go_upon)
                go_ret
                exact ⟨_, rfl, by
                  simp only [Bool.false_eq_true, false_iff]
                  intro hg
                  have := hg.2 k _ HX.out
                  simp only [goodB1, hg1, Bool.and_false, Bool.false_and] at this
                  (cases this), HK2.out⟩
              | true =>
                have HB1 : Hid (goodB1 l.length k (p0, p1, p2, p3, p4, p5, (-1)) = goodI l.length k (-1)) := by
                  show _ = _
                  simp only [goodB1, hg0, hg1, Bool.and_self, Bool.true_and]
                  rfl
                clear hg0 hg1
                dsimp only
                repeat (first | go_values | go_skip | go_guarded | go_step | go_upon)
                refine ⟨⟨k + 1, hlt, by go_num, ?_, HK2.out⟩, by simp [intOf]; omega⟩
                show ∀ j p, j < k + 1 → l[j]? = some p → goodB1 l.length j p = true
                intro j p hj hp
                by_cases e : j = k
                · subst e
                  rw [HX.out] at hp
                  cases hp
                  rw [HB1.out, HGI.out]
                · exact HB.out j p (by omega) hp
          · skip
            have d1 : decide ((k : Int) < p6) = false := by (simp <;> omega)
            have d3 : (p6 != -1) = true := by (simp <;> omega)
            have hgi : goodI l.length k p6 = false := by simp only [goodI]; (simp <;> omega)
            have HGI : Hid (goodI l.length k p6 = false) := hgi
            clear hgi
            repeat (first | go_values | go_skip | go_guarded | go_step | go_upon)
            go_at_call 52
            refine (implGood p0 hb0 _).mono ?_
            rintro e w1 ⟨rfl, rfl⟩
            cases hg0 : good p0 with
            | false =>
              dsimp only
              repeat (first | go_values | go_skip | go_guarded | go_step | go_upon)
              go_ret
              exact ⟨_, rfl, by
                simp only [Bool.false_eq_true, false_iff]
                intro hg
                have := hg.2 k _ HX.out
                simp only [goodB1, hg0, Bool.false_and] at this
                (cases this), by (repeat (first | with_reducible exact But.refl _ _ _ | with_reducible exact HK.out | with_reducible apply But.drewN | with_reducible apply But.drew | with_reducible apply But.alloc))⟩
            | true =>
              dsimp only
              repeat (first | go_values | go_skip | go_guarded | go_step | go_upon)
              go_at_call 15
              refine (igoodF p1 p2 p3 p4 p5 hb1 hb2 hb3 hb4 hb5 _).mono ?_
              rintro e w2 ⟨rfl, k2⟩
              rw [show (good p1 && good p2 && good p3 && good p4 && good p5) = goodF (filtOf (p0, p1, p2, p3, p4, p5, p6)) from rfl]
              have HK2 : Hid (Kept w w2) := But.trans (by (repeat (first | with_reducible exact But.refl _ _ _ | with_reducible exact HK.out | with_reducible apply But.drewN | with_reducible apply But.drew | with_reducible apply But.alloc))) k2
              have hc := k2.cell_eq
              have hn := k2.size
              simp only [World.size_alloc] at hn
              have hn2 : wr.heap.size < w2.heap.size := by omega
              have c6 : w2.cell? ⟨wr.heap.size, 6, none⟩ = some (.int .i64 p6) := ((Loc.new wr [.float .f64 p0, .float .f64 p1, .float .f64 p2, .float .f64 p3, .float .f64 p4, .float .f64 p5, .int .i64 p6] 94).kept k2).cell 6 rfl
              clear hc k2
              cases hg1 : goodF (filtOf (p0, p1, p2, p3, p4, p5, p6)) with
              | false =>
                dsimp only
                repeat (first | go_values | go_skip | go_guarded | go_step | go_upon)
                go_ret
                exact ⟨_, rfl, by
                  simp only [Bool.false_eq_true, false_iff]
                  intro hg
                  have := hg.2 k _ HX.out
                  simp only [goodB1, hg1, Bool.and_false, Bool.false_and] at this
                  (cases this), HK2.out⟩
              | true =>
                have HB1 : Hid (goodB1 l.length k (p0, p1, p2, p3, p4, p5, p6) = goodI l.length k p6) := by
                  show _ = _
                  simp only [goodB1, hg0, hg1, Bool.and_self, Bool.true_and]
                  rfl
                clear hg0 hg1
                dsimp only
                repeat (first | go_values | go_skip | go_guarded | go_step | go_upon)
                go_ret
                exact ⟨_, rfl, by
                  simp only [Bool.false_eq_true, false_iff]
                  intro hg
                  have := hg.2 k _ HX.out
                  rw [HB1.out, HGI.out] at this
                  (cases this), HK2.out⟩
      · have hke : k = l.length := by omega
        subst hke
        have HG : Hid (goodBs l) := ⟨h, fun j p hp => HB.out j p (List.getElem?_eq_some_iff.1 hp).1 hp⟩
        repeat (first | go_values | go_skip | go_guarded | go_step | go_upon)
        go_ret
        exact ⟨_, rfl, by simp only [true_iff]; exact HG.out, hkp⟩
  · have hd : decide ((8 : Int) < (l.length : Int)) = true := by simp; omega
    go_enter Try.func63, Try.ntmps63
    repeat (first | go_values | go_skip | go_guarded | go_step | go_upon)
    go_ret
    exact ⟨_, rfl, by
      simp only [Bool.false_eq_true, false_iff]
      intro hg
      exact h hg.1, But.refl _ _ _⟩

end Go.Proofs.Ytghmnhohdbombaa
