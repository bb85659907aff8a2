/-
  Lists of good shapes, as the specification says it.
-/
import Derived.Test.YtfibikkbhbmfkaaSpec9
namespace Go.Proofs.Ytfibikkbhbmfkaa
open Go.ChangeShapes Go.WideShapes Go.ChangeAt Go.RowKit

set_option maxRecDepth 100000
def shapeB (p : ShapeD) : Bool := decide (ShapeP p)
def shapesB (ps : List ShapeD) : Bool := decide (ps.length ≤ 40) && ps.all shapeB

set_option maxHeartbeats 2000000 in
theorem sshapes (ps : List ShapeD) (v : Value) (w : World) (hv : ShapeAt w v ps) (hn : ps.length ≤ 1048576) :
    Calls Try.prog 41 #[v] w fun e w' => e = .returned (.bool (shapesB ps)) ∧ Kept w w' := by
  obtain ⟨ao, cap, hsl⟩ := row_nil hv
  subst hsl
  by_cases hc : 40 < ps.length
  · have d : decide ((40 : Int) < (ps.length : Int)) = true := by simp; omega
    go_enter Try.func41, Try.ntmps41
    go_wp2
    go_ret
    exact ⟨ret_boolG (by simp [shapesB]; omega), But.refl _ _ _⟩
  · have d : decide ((40 : Int) < (ps.length : Int)) = false := by simp; omega
    go_enter Try.func41, Try.ntmps41
    go_wp2
    go_loopw [10] (fun i wr => ∃ k : Nat, k ≤ ps.length ∧ i = .int .i64 k ∧ (ps.take k).all shapeB = true ∧ Kept w wr) (fun i _ => ps.length - (intOf i).toNat)
    case atStart => exact ⟨0, by omega, rfl, by simp, But.refl _ _ _⟩
    case round =>
      obtain ⟨j, hk, rfl, hb, hkp⟩ := hrel
      by_cases hlt : j < ps.length
      · obtain ⟨p, hp⟩ : ∃ p, ps[j]? = some p := ⟨_, List.getElem?_eq_getElem hlt⟩
        obtain ⟨bb, o, cap', e, c0, c1, c2, c3, c4⟩ := shape_get (hv.kept hkp) hp
        cases e
        have hbn : (ps.take (j + 1)).all shapeB = shapeB p := by rw [take_snoc hp, List.all_append, hb]; simp
        have HB : Hid _ := hbn
        clear hbn
        obtain ⟨k, x, y, a, b⟩ := p
        have HK : Hid _ := hkp
        clear hb hkp hp
        cases ha : decide (ShapeP (k, x, y, a, b))
        · go_wp2_with (go_at_call 10; refine (sgood _ _ _ _ _ _).mono ?_; rw [ha]; rintro e w1 ⟨rfl, k1⟩)
          go_ret
          refine ⟨ret_boolG ?_, ?_⟩
          · have := HB.out
            rw [shapeB, ha] at this
            have h2 : ps.all shapeB = false := by
              rw [← List.take_append_drop (j + 1) ps, List.all_append, this]; rfl
            simp [shapesB, h2]
          · refine But.trans ?_ k1
            repeat (first | with_reducible exact HK.out | with_reducible apply But.alloc | (with_reducible refine But.setNew ?_ (by have := HK.out.size; simp; try omega) _))
        · go_wp2_with (go_at_call 10; refine (sgood _ _ _ _ _ _).mono ?_; rw [ha]; rintro e w1 ⟨rfl, k1⟩)
          refine ⟨⟨j + 1, hlt, by go_num, by rw [HB.out]; exact ha, ?_⟩, by simp [intOf]; omega⟩
          refine But.trans ?_ k1
          repeat (first | with_reducible exact HK.out | with_reducible apply But.alloc | (with_reducible refine But.setNew ?_ (by have := HK.out.size; simp; try omega) _))
      · have hke : j = ps.length := by omega
        subst hke
        rw [List.take_length] at hb
        have HB : Hid _ := hb
        clear hb
        go_wp2
        go_ret
        exact ⟨ret_boolG (by simp [shapesB, HB.out]; omega), hkp⟩

end Go.Proofs.Ytfibikkbhbmfkaa
