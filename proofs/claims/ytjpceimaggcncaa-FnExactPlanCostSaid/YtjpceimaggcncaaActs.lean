/-
  Lists of actions that are good: what goodActions and l7Actions answer.
-/
import Derived.Test.YtjpceimaggcncaaAct
namespace Go.Proofs.Ytjpceimaggcncaa
open Go.ChangeShapes Go.WideShapes Go.ChangeAt Go.RowKit
set_option maxRecDepth 100000

def actsB (ps : List ActionD) : Bool := decide (ps.length ≤ 12) && ps.all actB

set_option maxHeartbeats 2000000 in
theorem iacts (ps : List ActionD) (v : Value) (w : World) (hv : ActionAt w v ps) (hq : ∀ p ∈ ps, p.1.size ≤ 1048576) (hn : ps.length ≤ 1048576) :
    Calls Try.prog 45 #[v] w fun e w' => e = .returned (.bool (actsB ps)) ∧ Kept w w' := by
  obtain ⟨ao, cap, hsl⟩ := row_nil hv
  subst hsl
  by_cases hc : 12 < ps.length
  · have d : decide ((12 : Int) < (ps.length : Int)) = true := by simp; omega
    go_enter Try.func45, Try.ntmps45
    go_wp2
    go_ret
    exact ⟨ret_bool (by simp [actsB]; omega), But.refl _ _ _⟩
  · have d : decide ((12 : Int) < (ps.length : Int)) = false := by simp; omega
    go_enter Try.func45, Try.ntmps45
    go_wp2
    go_loopw [10] (fun i wr => ∃ k : Nat, k ≤ ps.length ∧ i = .int .i64 k ∧ (ps.take k).all actB = true ∧ Kept w wr) (fun i _ => ps.length - (intOf i).toNat)
    case atStart => exact ⟨0, by omega, rfl, by simp, But.refl _ _ _⟩
    case round =>
      obtain ⟨k, hk, rfl, hb, hkp⟩ := hrel
      by_cases hlt : k < ps.length
      · obtain ⟨p, hp⟩ : ∃ p, ps[k]? = some p := ⟨_, List.getElem?_eq_getElem hlt⟩
        obtain ⟨b, o, cap', e, c0, c1, c2, c3, c4, c5⟩ := action_get (hv.kept hkp) hp
        cases e
        have hs := hq p (List.mem_of_getElem? hp)
        have hpk := (List.getElem?_eq_some_iff.1 hp)
        have hbn : (ps.take (k + 1)).all actB = actB p := by rw [take_snoc hp, List.all_append, hb]; simp
        have HB : Hid _ := hbn
        clear hbn
        obtain ⟨nm, co, ne, la, ga, lo⟩ := p
        have HK : Hid _ := hkp
        clear hb hpk hkp hp
        cases ha : actB (nm, co, ne, la, ga, lo)
        · go_wp2_with (go_at_call 20; refine (iact _ _ _ _ _ _ _ hs).mono ?_; rw [ha]; rintro e w1 ⟨rfl, k1⟩)
          go_ret
          refine ⟨ret_bool ?_, ?_⟩
          · have := HB.out
            rw [ha] at this
            have h2 : ps.all actB = false := by
              rw [← List.take_append_drop (k + 1) ps, List.all_append, this]; rfl
            simp [actsB, h2]
          · refine But.trans ?_ k1
            repeat (first | with_reducible exact HK.out | with_reducible apply But.alloc | (with_reducible refine But.setNew ?_ (by have := HK.out.size; simp; try omega) _))
        · go_wp2_with (go_at_call 20; refine (iact _ _ _ _ _ _ _ hs).mono ?_; rw [ha]; rintro e w1 ⟨rfl, k1⟩)
          refine ⟨⟨k + 1, hlt, by go_num, by rw [HB.out]; exact ha, ?_⟩, by simp [intOf]; omega⟩
          refine But.trans ?_ k1
          repeat (first | with_reducible exact HK.out | with_reducible apply But.alloc | (with_reducible refine But.setNew ?_ (by have := HK.out.size; simp; try omega) _))
      · have hke : k = ps.length := by omega
        subst hke
        rw [List.take_length] at hb
        have HB : Hid _ := hb
        clear hb
        go_wp2
        go_ret
        exact ⟨ret_bool (by simp [actsB, HB.out]; omega), hkp⟩

set_option maxHeartbeats 2000000 in
theorem sacts (ps : List ActionD) (v : Value) (w : World) (hv : ActionAt w v ps) (hq : ∀ p ∈ ps, p.1.size ≤ 1048576) (hn : ps.length ≤ 1048576) :
    Calls Try.prog 51 #[v] w fun e w' => e = .returned (.bool (actsB ps)) ∧ Kept w w' := by
  obtain ⟨ao, cap, hsl⟩ := row_nil hv
  subst hsl
  by_cases hc : 12 < ps.length
  · have d : decide ((12 : Int) < (ps.length : Int)) = true := by simp; omega
    go_enter Try.func51, Try.ntmps51
    go_wp2
    go_ret
    exact ⟨ret_bool (by simp [actsB]; omega), But.refl _ _ _⟩
  · have d : decide ((12 : Int) < (ps.length : Int)) = false := by simp; omega
    go_enter Try.func51, Try.ntmps51
    go_wp2
    go_loopw [10] (fun i wr => ∃ k : Nat, k ≤ ps.length ∧ i = .int .i64 k ∧ (ps.take k).all actB = true ∧ Kept w wr) (fun i _ => ps.length - (intOf i).toNat)
    case atStart => exact ⟨0, by omega, rfl, by simp, But.refl _ _ _⟩
    case round =>
      obtain ⟨k, hk, rfl, hb, hkp⟩ := hrel
      by_cases hlt : k < ps.length
      · obtain ⟨p, hp⟩ : ∃ p, ps[k]? = some p := ⟨_, List.getElem?_eq_getElem hlt⟩
        obtain ⟨b, o, cap', e, c0, c1, c2, c3, c4, c5⟩ := action_get (hv.kept hkp) hp
        cases e
        have hs := hq p (List.mem_of_getElem? hp)
        have hpk := (List.getElem?_eq_some_iff.1 hp)
        have hbn : (ps.take (k + 1)).all actB = actB p := by rw [take_snoc hp, List.all_append, hb]; simp
        have HB : Hid _ := hbn
        clear hbn
        obtain ⟨nm, co, ne, la, ga, lo⟩ := p
        have HK : Hid _ := hkp
        clear hb hpk hkp hp
        cases ha : actB (nm, co, ne, la, ga, lo)
        · go_wp2_with (go_at_call 15; refine (sact _ _ _ _ _ _ _ hs).mono ?_; rw [ha]; rintro e w1 ⟨rfl, k1⟩)
          go_ret
          refine ⟨ret_bool ?_, ?_⟩
          · have := HB.out
            rw [ha] at this
            have h2 : ps.all actB = false := by
              rw [← List.take_append_drop (k + 1) ps, List.all_append, this]; rfl
            simp [actsB, h2]
          · refine But.trans ?_ k1
            repeat (first | with_reducible exact HK.out | with_reducible apply But.alloc | (with_reducible refine But.setNew ?_ (by have := HK.out.size; simp; try omega) _))
        · go_wp2_with (go_at_call 15; refine (sact _ _ _ _ _ _ _ hs).mono ?_; rw [ha]; rintro e w1 ⟨rfl, k1⟩)
          refine ⟨⟨k + 1, hlt, by go_num, by rw [HB.out]; exact ha, ?_⟩, by simp [intOf]; omega⟩
          refine But.trans ?_ k1
          repeat (first | with_reducible exact HK.out | with_reducible apply But.alloc | (with_reducible refine But.setNew ?_ (by have := HK.out.size; simp; try omega) _))
      · have hke : k = ps.length := by omega
        subst hke
        rw [List.take_length] at hb
        have HB : Hid _ := hb
        clear hb
        go_wp2
        go_ret
        exact ⟨ret_bool (by simp [actsB, HB.out]; omega), hkp⟩
end Go.Proofs.Ytjpceimaggcncaa
