/-
  That alike ones are found alike.
-/
import Derived.Test.YtnfkgnbhdhpnmaaRows
import Derived.Test.YtnfkgnbhdhpnmaaQuad
namespace Go.Proofs.Ytnfkgnbhdhpnmaa
open Go.ChangeShapes Go.WideShapes Go.ChangeAt Go.RowKit

theorem eqQuad (f0 : Int) (f1 : Int) (f2 : Int) (f3 : Int) (f4 : Int) (f5 : Int) (f6 : Int) (w : World) :
    Calls Try.prog 53 #[.agg #[.int .i64 f0, .int .i64 f1, .int .i64 f2, .int .i64 f3, .int .i64 f4, .int .i64 f5, .int .i64 f6], .agg #[.int .i64 f0, .int .i64 f1, .int .i64 f2, .int .i64 f3, .int .i64 f4, .int .i64 f5, .int .i64 f6]] w fun e w' => e = .returned (.bool true) ∧ Kept w w' := by
  go_enter Try.func53, Try.ntmps53
  go_wp2
  go_ret
  exact ⟨rfl, ((But.refl _ _ _).alloc _).alloc _⟩

set_option maxHeartbeats 2000000 in
theorem eqQuadS (ps : List QuadD) (v v' : Value) (w : World) (hv : QuadAt w v ps) (hv' : QuadAt w v' ps) (hn : ps.length ≤ 9000000000000000000) :
    Calls Try.prog 31 #[v, v'] w fun e w' => e = .returned (.bool true) ∧ Kept w w' := by
  obtain ⟨ao, cap, hsl⟩ := row_nil hv
  subst hsl
  obtain ⟨ao', cap', hsl⟩ := row_nil hv'
  subst hsl
  go_enter Try.func31, Try.ntmps31
  go_wp2
  go_loopw [5] (fun i wr => ∃ (k : Nat), k ≤ ps.length ∧ i = .int .i64 k ∧ Kept w wr) (fun i _ => ps.length - (intOf i).toNat)
  case atStart => exact ⟨0, by omega, rfl, But.refl _ _ _⟩
  case round =>
    obtain ⟨k, hk, rfl, hkp⟩ := hrel
    by_cases hlt : k < ps.length
    · obtain ⟨p, hp⟩ : ∃ p, ps[k]? = some p := ⟨_, List.getElem?_eq_getElem hlt⟩
      obtain ⟨b, o, cap1, e, c0, c1, c2, c3, c4, c5, c6⟩ := quad_get (hv.kept hkp) hp
      cases e
      obtain ⟨b', o', cap1', e, c0', c1', c2', c3', c4', c5', c6'⟩ := quad_get (hv'.kept hkp) hp
      cases e
      have z1 : (0 : Int) ≤ (k : Int) := by omega
      have z2 : (k : Int) < (ps.length : Int) := by omega
      have HK : Hid _ := hkp
      clear hkp
      go_wp2_with fail
      go_region_held3 (fun w' => w'.cell? ⟨b, o + k * 7, none⟩ = some (.int .i64 p.1) ∧ w'.cell? ⟨b, o + k * 7 + 1, none⟩ = some (.int .i64 p.2.1) ∧ w'.cell? ⟨b, o + k * 7 + 2, none⟩ = some (.int .i64 p.2.2.1) ∧ w'.cell? ⟨b, o + k * 7 + 3, none⟩ = some (.int .i64 p.2.2.2.1) ∧ w'.cell? ⟨b, o + k * 7 + 4, none⟩ = some (.int .i64 p.2.2.2.2.1) ∧ w'.cell? ⟨b, o + k * 7 + 5, none⟩ = some (.int .i64 p.2.2.2.2.2.1) ∧ w'.cell? ⟨b, o + k * 7 + 6, none⟩ = some (.int .i64 p.2.2.2.2.2.2) ∧ w'.cell? ⟨b', o' + k * 7, none⟩ = some (.int .i64 p.1) ∧ w'.cell? ⟨b', o' + k * 7 + 1, none⟩ = some (.int .i64 p.2.1) ∧ w'.cell? ⟨b', o' + k * 7 + 2, none⟩ = some (.int .i64 p.2.2.1) ∧ w'.cell? ⟨b', o' + k * 7 + 3, none⟩ = some (.int .i64 p.2.2.2.1) ∧ w'.cell? ⟨b', o' + k * 7 + 4, none⟩ = some (.int .i64 p.2.2.2.2.1) ∧ w'.cell? ⟨b', o' + k * 7 + 5, none⟩ = some (.int .i64 p.2.2.2.2.2.1) ∧ w'.cell? ⟨b', o' + k * 7 + 6, none⟩ = some (.int .i64 p.2.2.2.2.2.2)) (simp [go_sem, *])
        (first | (go_at_call 53; refine (eqQuad _ _ _ _ _ _ _ _).mono ?_; rintro e w' ⟨rfl, hk2⟩; have c0 := Kept.cell hk2 c0; have c1 := Kept.cell hk2 c1; have c2 := Kept.cell hk2 c2; have c3 := Kept.cell hk2 c3; have c4 := Kept.cell hk2 c4; have c5 := Kept.cell hk2 c5; have c6 := Kept.cell hk2 c6; have c0' := Kept.cell hk2 c0'; have c1' := Kept.cell hk2 c1'; have c2' := Kept.cell hk2 c2'; have c3' := Kept.cell hk2 c3'; have c4' := Kept.cell hk2 c4'; have c5' := Kept.cell hk2 c5'; have c6' := Kept.cell hk2 c6'))
      go_wp2
      exact ⟨⟨k + 1, hlt, by go_num, HK.out.trans ((But.refl _ _ wr).drew.trans hk2)⟩, by simp [intOf]; omega⟩
    · have hke : k = ps.length := by omega
      subst hke
      go_wp2
      go_ret
      exact ⟨rfl, hkp⟩

end Go.Proofs.Ytnfkgnbhdhpnmaa
