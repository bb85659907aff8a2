/-
  Release in the specification.
-/
import Derived.Test.YtipgffikmnebnaaOwn21
import Derived.Test.YtipgffikmnebnaaRelP21
import Derived.Test.YtipgffikmnebnaaSGood21
import Derived.Deep.Cut
namespace Go.Proofs.Ytipgffikmnebnaa
open Go.ChangeShapes Go.WideShapes Go.ChangeAt Go.RowKit

set_option maxRecDepth 100000
set_option linter.unusedVariables false
set_option linter.unusedSimpArgs false

theorem forgetW2 {P : Program} {c : Go.Code} {Q : Exit → Act → World → Prop} {a : Act} {W : World} (F : World → Prop) (hF : F W) (h : ∀ W', F W' → Code.wp P c Q a W') : Code.wp P c Q a W := h W hF
set_option maxHeartbeats 8000000 in
theorem srel (c : StoreD) (nm : ByteArray) (v : Value) (lo hi : Nat) (w : World) (hv : StoreO w lo hi v c) (hn : c.2.2.length ≤ 1048576) (hs : ∀ r ∈ c.2.2, r.1.size ≤ 1048576) :
    Calls Try.prog 46 #[v, .string nm] w fun e w' => ∃ v', e = .returned (.tuple #[v', .int .i64 (relC c nm)]) ∧ StoreO w' w.heap.size w'.heap.size v' (relS c nm) ∧ Kept w w' := by
  have HV : Hid (StoreO w lo hi v c) := hv
  have HS : Hid (∀ r ∈ c.2.2, r.1.size ≤ 1048576) := hs
  obtain ⟨ao, cap, hfm⟩ := hv.form
  subst hfm
  clear hv hs
  cases hg : storeB c with
  | false =>
    have hcode : relC c nm = 1 := by unfold relC; rw [if_neg (by rw [hg]; simp)]
    have hst : relS c nm = store0 := by unfold relS; rw [if_neg (by rw [hg]; simp)]
    rw [hcode, hst]
    have HG : Hid (∀ u v', Kept w u → StoreO u lo hi v' c → Calls Try.prog 40 #[v'] u fun e w' => e = .returned (.bool false) ∧ Kept u w') := fun u v' k h => by rw [← hg]; exact sgood c v' lo hi u h hn HS.out
    clear hg hcode hst
    go_enter Try.func46, Try.ntmps46
    repeat (first | go_values | go_skip | go_guarded | go_step | go_upon)
    go_at_call 40
    refine (HG.out _ _ (((But.refl _ _ _).alloc _).alloc _) (HV.out.kept (((But.refl _ _ _).alloc _).alloc _))).mono ?_
    rintro e u1 ⟨rfl, k1⟩
    have R1 := (Loc.new (w.alloc (.cells #[.int .i64 c.1, .int .i64 c.2.1, .slice ao c.2.2.length cap] 33)) [.int .i64 0, .int .i64 0, .slice none 0 0] 33).kept k1
    simp only [World.size_alloc] at R1
    have r0 := R1.cell 0 rfl
    have r1 := R1.cell 1 rfl
    have r2 := R1.cell 2 rfl
    have f0 := R1.frozen 0
    have f1 := R1.frozen 1
    have f2 := R1.frozen 2
    have rl := R1.lt
    have HK1 : Hid (Kept w u1) := (((But.refl _ _ _).alloc _).alloc _).trans k1
    clear R1 k1
    dsimp only
    repeat (first | go_values | go_skip | go_guarded | go_step | go_upon)
    have B : But (w.heap.size + 1) (w.heap.size + 2) u1 (((u1.setCell ⟨w.heap.size + 1, 0, none⟩ (.int .i64 0)).setCell ⟨w.heap.size + 1, 1, none⟩ (.int .i64 0)).setCell ⟨w.heap.size + 1, 2, none⟩ (.slice none 0 0)) := (((But.refl _ _ _).setCell (by simp) (by simp) _).setCell (by simp) (by simp) _).setCell (by simp) (by simp) _
    refine bodyPost_ret (v := .tuple #[.agg #[.int .i64 0, .int .i64 0, .slice none 0 0], .int .i64 1]) (by simp [results, Try.results46, go_sem, *]) rfl ?_
    exact ⟨_, rfl, ⟨_, rfl, nil_resident _ _ _⟩, HK1.out.onto B (by omega)⟩
  | true =>
    have HCY : Hid (∀ i, relAt nm c.2.2 = some i → relC c nm = 0 ∧ relS c nm = (c.1, c.2.1, less1 c.2.2 i)) := fun i h => by unfold relC relS; rw [if_pos hg, if_pos hg, h]; exact ⟨rfl, rfl⟩
    have HCN : Hid (relAt nm c.2.2 = none → relC c nm = 5 ∧ relS c nm = c) := fun h => by unfold relC relS; rw [if_pos hg, if_pos hg, h]; exact ⟨rfl, rfl⟩
    have HRP : Hid (∀ r ∈ c.2.2, ResP c.2.1 r) := res_of_rows (store_iff.1 hg).2.2.2.1
    have HG : Hid (∀ u v', Kept w u → StoreO u lo hi v' c → Calls Try.prog 40 #[v'] u fun e w' => e = .returned (.bool true) ∧ Kept u w') := fun u v' k h => by rw [← hg]; exact sgood c v' lo hi u h hn HS.out
    generalize relC c nm = CC at *
    generalize relS c nm = RR at *
    clear hg
    go_enter Try.func46, Try.ntmps46
    repeat (first | go_values | go_skip | go_guarded | go_step | go_upon)
    go_at_call 40
    refine (HG.out _ _ (((But.refl _ _ _).alloc _).alloc _) (HV.out.kept (((But.refl _ _ _).alloc _).alloc _))).mono ?_
    rintro e u1 ⟨rfl, k1⟩
    have A1 := ((Loc.new w [.int .i64 c.1, .int .i64 c.2.1, .slice ao c.2.2.length cap] 33).alloc (.cells #[.int .i64 0, .int .i64 0, .slice none 0 0] 33)).kept k1
    have R1 := (Loc.new (w.alloc (.cells #[.int .i64 c.1, .int .i64 c.2.1, .slice ao c.2.2.length cap] 33)) [.int .i64 0, .int .i64 0, .slice none 0 0] 33).kept k1
    simp only [World.size_alloc] at R1
    have a0 := A1.cell 0 rfl
    have a1 := A1.cell 1 rfl
    have a2 := A1.cell 2 rfl
    have al := A1.lt
    have HR1 : Hid (Loc u1 (w.heap.size + 1) [.int .i64 0, .int .i64 0, .slice none 0 0]) := R1
    have HA1 : Hid (Loc u1 w.heap.size [.int .i64 c.1, .int .i64 c.2.1, .slice ao c.2.2.length cap]) := A1
    have HK1 : Hid (Kept w u1) := (((But.refl _ _ _).alloc _).alloc _).trans k1
    clear R1 A1 k1
    dsimp only
    repeat (first | go_values | go_skip | go_guarded | go_step | go_upon)
    go_at_call 72
    refine (sown c _ _ (HV.out.at.kept HK1.out) hn).mono ?_
    rintro e u2 ⟨v2, rfl, o2, k2⟩
    obtain ⟨ao2, cap2, hf2⟩ := o2.form
    subst hf2
    have A2 := HA1.out.kept k2
    have a0 := A2.cell 0 rfl
    have a1 := A2.cell 1 rfl
    have a2 := A2.cell 2 rfl
    have b0 := A2.frozen 0
    have b1 := A2.frozen 1
    have b2 := A2.frozen 2
    have al := A2.lt
    have HA2 : Hid (Loc u2 w.heap.size [.int .i64 c.1, .int .i64 c.2.1, .slice ao c.2.2.length cap]) := A2
    have HR2 : Hid (Loc u2 (w.heap.size + 1) [.int .i64 0, .int .i64 0, .slice none 0 0]) := HR1.out.kept k2
    have HO2 : Hid (StoreO u2 (u1.heap.size + 2) u2.heap.size (.agg #[.int .i64 c.1, .int .i64 c.2.1, .slice ao2 c.2.2.length cap2]) c) := o2
    have HK2 : Hid (Kept w u2) := HK1.out.trans k2
    have HSZ : Hid (w.heap.size + 2 ≤ u1.heap.size) := HR1.out.lt
    clear A2 o2 k2
    dsimp only
    repeat (go_not_at_region 4; first | go_values | go_skip | go_guarded | go_step | go_upon)
    refine forgetW2 (fun W => Loc W w.heap.size [.int .i64 c.1, .int .i64 c.2.1, .slice ao2 c.2.2.length cap2] ∧ Loc W (w.heap.size + 1) [.int .i64 0, .int .i64 0, .slice none 0 0] ∧ ResidentO W (w.heap.size + 2) u2.heap.size (.slice ao2 c.2.2.length cap2) c.2.2 ∧ Kept w W ∧ u2.heap.size ≤ W.heap.size) ?_ ?_
    · have B : But w.heap.size (w.heap.size + 1) u2 (((u2.setCell ⟨w.heap.size, 0, none⟩ (.int .i64 c.1)).setCell ⟨w.heap.size, 1, none⟩ (.int .i64 c.2.1)).setCell ⟨w.heap.size, 2, none⟩ (.slice ao2 c.2.2.length cap2)) := (((But.refl _ _ _).setCell (by simp) (by simp) _).setCell (by simp) (by simp) _).setCell (by simp) (by simp) _
      exact ⟨((HA2.out.set 0 _).set 1 _).set 2 _, HR2.out.but B (by omega), (HO2.out.row.but B (.inr (by have := HSZ.out; omega))).mono (by have := HSZ.out; omega) (Nat.le_refl _), HK2.out.onto B (by omega), B.size⟩
    intro W3 hW3
    have HW3 : Hid _ := hW3
    have a0 := hW3.1.cell 0 rfl
    have a1 := hW3.1.cell 1 rfl
    have a2 := hW3.1.cell 2 rfl
    have al := hW3.1.lt
    clear b0 b1 b2 hW3
    obtain ⟨BR, hBR⟩ : ∃ x, x = u2.heap.size := ⟨_, rfl⟩
    rw [← hBR] at HW3
    clear hBR
    repeat (first | go_values | go_skip | go_guarded | go_step | go_upon)
    clear a0 a1 a2 al
    go_loopw [17] (fun i wr => ∃ (k : Nat), k ≤ c.2.2.length ∧ i = .int .i64 k ∧ Hid (∀ j d, j < k → c.2.2[j]? = some d → relP nm d = false) ∧ Kept W3 wr) (fun i _ => c.2.2.length - (intOf i).toNat)
    case atStart => exact ⟨0, by omega, rfl, fun j d hj => by omega, But.refl _ _ _⟩
    case round =>
      obtain ⟨k, hk, rfl, HB, hkp⟩ := hrel
      have L1 := HW3.out.1.kept hkp
      have L2 := HW3.out.2.1.kept hkp
      have hO := HW3.out.2.2.1.kept hkp
      have a0 := L1.cell 0 rfl
      have a1 := L1.cell 1 rfl
      have a2 := L1.cell 2 rfl
      have al := L1.lt
      have r0 := L2.cell 0 rfl
      have r1 := L2.cell 1 rfl
      have r2 := L2.cell 2 rfl
      have f0 := L2.frozen 0
      have f1 := L2.frozen 1
      have f2 := L2.frozen 2
      have rl := L2.lt
      have HKR : Hid (Kept w wr) := HW3.out.2.2.2.1.trans hkp
      have hBRw : BR ≤ wr.heap.size := Nat.le_trans HW3.out.2.2.2.2 hkp.size
      have HKP : Hid (Kept W3 wr) := hkp
      clear L1 L2 hkp
      by_cases hlt : k < c.2.2.length
      · obtain ⟨d, hd⟩ : ∃ p, c.2.2[k]? = some p := ⟨_, List.getElem?_eq_getElem hlt⟩
        obtain ⟨b, o, cap1, e, q0, q1, q2, q3⟩ := resident_get hO.at hd
        cases e
        obtain ⟨cap3, hfm⟩ : ∃ cap3, Value.slice (some ⟨b, o, none⟩) c.2.2.length cap2 = .slice (some ⟨b, 0, none⟩) c.2.2.length cap3 := by
          rcases hO.1.2 with ⟨hv, _⟩ | ⟨g, c2, cur, hv, _⟩
          · cases hv
          · cases hv; exact ⟨_, rfl⟩
        cases hfm
        simp only [Nat.zero_add] at q0 q1 q2 q3
        have ql := World.block_lt_of_cell? _ _ q2
        have qf := (hO.cells hd).2.2.2.2 (k * 4 + 2)
        have hbl := (own_lt hO.1 (g := b) rfl)
        have hbh : b < BR := hO.2 b rfl
        have HO : Hid (ResidentO wr (w.heap.size + 2) BR (.slice (some ⟨b, 0, none⟩) c.2.2.length cap2) c.2.2) := hO
        have hrp := (HRP.out d (List.mem_of_getElem? hd)).2.2.1
        have HD : Hid (c.2.2[k]? = some d) := hd
        have z0 : (0 : Int) ≤ (k : Int) := by omega
        have z1 : (k : Int) < (c.2.2.length : Int) := by omega
        have hb1 : b ≠ w.heap.size := by omega
        have hb2 : b ≠ w.heap.size + 1 := by omega
        have hb3 : w.heap.size ≠ b := by omega
        have hb4 : w.heap.size + 1 ≠ b := by omega
        have hb5 : b ≠ wr.heap.size := by omega
        have hb6 : wr.heap.size ≠ b := by omega
        obtain ⟨y0, y1, y2, y3⟩ := d
        dsimp only at q0 q1 q2 q3 hrp
        have hRP : relP nm (y0, y1, y2, y3) = ((y0.toList == nm.toList) && decide (0 < y2)) := rfl
        have HRPE : Hid (relP nm (y0, y1, y2, y3) = ((y0.toList == nm.toList) && decide (0 < y2))) := hRP
        have hbl1 := hbl.1
        clear hd hO hbl hRP
        cases e1 : (y0.toList == nm.toList) with
        | false =>
          repeat (first | go_values | go_skip | go_guarded | go_step | go_upon)
          exact ⟨⟨k + 1, hlt, by go_num, idx_more HB.out HD.out (by rw [HRPE.out, e1]; rfl), HKP.out.alloc _⟩, by simp [intOf]; omega⟩
        | true =>
          by_cases h0 : 0 < y2
          · have d0 : decide (0 < y2) = true := decide_eq_true h0
            have hat : relAt nm c.2.2 = some k := idx_yes HB.out HD.out (by rw [HRPE.out, e1, d0]; rfl)
            obtain ⟨hc1, hc2⟩ := HCY.out k hat
            rw [less1_eq HD.out] at hc2
            subst hc1
            have HC2 : Hid (RR = (c.1, c.2.1, c.2.2.set k (y0, y1, y2 - 1, y3))) := hc2
            have hwr : IntKind.i64.wrap (y2 - 1) = y2 - 1 := IntWalk.i64_in _ (by omega)
            clear hat hc2
            repeat (first | go_values | go_skip | go_guarded | go_step | go_upon)
            have B1 : But b (b + 1) wr (wr.setCell ⟨b, k * 4 + 2, none⟩ (.int .i64 (y2 - 1))) := (But.refl _ _ _).setCell (by simp) (by simp) _
            have K8 : Kept w (wr.setCell ⟨b, k * 4 + 2, none⟩ (.int .i64 (y2 - 1))) := But.onto HKR.out B1 (by omega)
            have OS : ResidentO (wr.setCell ⟨b, k * 4 + 2, none⟩ (.int .i64 (y2 - 1))) (w.heap.size + 2) BR (.slice (some ⟨b, 0, none⟩) c.2.2.length cap2) (c.2.2.set k (y0, y1, y2 - 1, y3)) := HO.out.set rfl HD.out 2 (by omega) (.int .i64 (y2 - 1)) (q := (y0, y1, y2 - 1, y3)) rfl
            have B : But (w.heap.size + 1) (w.heap.size + 2) (wr.setCell ⟨b, k * 4 + 2, none⟩ (.int .i64 (y2 - 1))) ((((wr.setCell ⟨b, k * 4 + 2, none⟩ (.int .i64 (y2 - 1))).setCell ⟨w.heap.size + 1, 0, none⟩ (.int .i64 c.1)).setCell ⟨w.heap.size + 1, 1, none⟩ (.int .i64 c.2.1)).setCell ⟨w.heap.size + 1, 2, none⟩ (.slice (some ⟨b, 0, none⟩) c.2.2.length cap2)) := (((But.refl _ _ _).setCell (by simp) (by simp) _).setCell (by simp) (by simp) _).setCell (by simp) (by simp) _
            refine bodyPost_ret (v := .tuple #[.agg #[.int .i64 c.1, .int .i64 c.2.1, .slice (some ⟨b, 0, none⟩) c.2.2.length cap2], .int .i64 0]) (by simp [results, Try.results46, go_sem, *]) rfl ?_
            refine ⟨_, rfl, ?_, (K8.onto B (by omega)).alloc _⟩
            rw [HC2.out]
            exact ⟨_, rfl, (((OS.but B (.inr (by omega))).mono (by omega) (Nat.le_refl _)).kept ((But.refl _ _ _).alloc _)).low⟩
          · have d0 : decide (0 < y2) = false := decide_eq_false h0
            repeat (first | go_values | go_skip | go_guarded | go_step | go_upon)
            exact ⟨⟨k + 1, hlt, by go_num, idx_more HB.out HD.out (by rw [HRPE.out, e1, d0]; rfl), HKP.out.alloc _⟩, by simp [intOf]; omega⟩
      · have hke : k = c.2.2.length := by omega
        subst hke
        obtain ⟨hc1, hc2⟩ := HCN.out (idx_no HB.out)
        subst hc1
        have HC2 : Hid (RR = c) := hc2
        have HO : Hid (ResidentO wr (w.heap.size + 2) BR (.slice ao2 c.2.2.length cap2) c.2.2) := hO
        clear hc2 hO
        repeat (first | go_values | go_skip | go_guarded | go_step | go_upon)
        have B : But (w.heap.size + 1) (w.heap.size + 2) wr (((wr.setCell ⟨w.heap.size + 1, 0, none⟩ (.int .i64 c.1)).setCell ⟨w.heap.size + 1, 1, none⟩ (.int .i64 c.2.1)).setCell ⟨w.heap.size + 1, 2, none⟩ (.slice ao2 c.2.2.length cap2)) := (((But.refl _ _ _).setCell (by simp) (by simp) _).setCell (by simp) (by simp) _).setCell (by simp) (by simp) _
        refine bodyPost_ret (v := .tuple #[.agg #[.int .i64 c.1, .int .i64 c.2.1, .slice ao2 c.2.2.length cap2], .int .i64 5]) (by simp [results, Try.results46, go_sem, *]) rfl ?_
        refine ⟨_, rfl, ?_, HKR.out.onto B (by omega)⟩
        rw [HC2.out]
        exact ⟨_, rfl, ((HO.out.but B (.inr (by omega))).mono (by omega) (Nat.le_refl _)).low⟩

end Go.Proofs.Ytipgffikmnebnaa
