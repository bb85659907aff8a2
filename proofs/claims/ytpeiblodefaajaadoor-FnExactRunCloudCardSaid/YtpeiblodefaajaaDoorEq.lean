/-
  That alike ones are found alike.
-/
import Derived.Test.YtpeiblodefaajaaDoorRows
import Derived.Test.YtpeiblodefaajaaDoorSpark
namespace Go.Proofs.YtpeiblodefaajaaDoor
open Go.ChangeShapes Go.WideShapes Go.ChangeAt Go.RowKit

theorem eqSpark (f0 : Int) (f1 : Int) (f2 : Int) (f3 : Int) (f4 : Int) (w : World) :
    Calls Tryd.prog 73 #[.agg #[.int .i64 f0, .int .i64 f1, .int .i64 f2, .int .i64 f3, .int .i64 f4], .agg #[.int .i64 f0, .int .i64 f1, .int .i64 f2, .int .i64 f3, .int .i64 f4]] w fun e w' => e = .returned (.bool true) ∧ Kept w w' := by
  go_enter Tryd.func73, Tryd.ntmps73
  go_wp2
  go_ret
  exact ⟨rfl, ((But.refl _ _ _).alloc _).alloc _⟩

set_option maxHeartbeats 2000000 in
theorem eqSparkS (ps : List SparkD) (v v' : Value) (w : World) (hv : SparkAt w v ps) (hv' : SparkAt w v' ps) (hn : ps.length ≤ 9000000000000000000) :
    Calls Tryd.prog 47 #[v, v'] w fun e w' => e = .returned (.bool true) ∧ Kept w w' := by
  obtain ⟨ao, cap, hsl⟩ := row_nil hv
  subst hsl
  obtain ⟨ao', cap', hsl⟩ := row_nil hv'
  subst hsl
  go_enter Tryd.func47, Tryd.ntmps47
  go_wp2
  go_loopw [5] (fun i wr => ∃ (k : Nat), k ≤ ps.length ∧ i = .int .i64 k ∧ Kept w wr) (fun i _ => ps.length - (intOf i).toNat)
  case atStart => exact ⟨0, by omega, rfl, But.refl _ _ _⟩
  case round =>
    obtain ⟨k, hk, rfl, hkp⟩ := hrel
    by_cases hlt : k < ps.length
    · obtain ⟨p, hp⟩ : ∃ p, ps[k]? = some p := ⟨_, List.getElem?_eq_getElem hlt⟩
      obtain ⟨b, o, cap1, e, c0, c1, c2, c3, c4⟩ := spark_get (hv.kept hkp) hp
      cases e
      obtain ⟨b', o', cap1', e, c0', c1', c2', c3', c4'⟩ := spark_get (hv'.kept hkp) hp
      cases e
      have z1 : (0 : Int) ≤ (k : Int) := by omega
      have z2 : (k : Int) < (ps.length : Int) := by omega
      have HK : Hid _ := hkp
      clear hkp
      go_wp2_with fail
      go_region_held3 (fun w' => w'.cell? ⟨b, o + k * 5, none⟩ = some (.int .i64 p.1) ∧ w'.cell? ⟨b, o + k * 5 + 1, none⟩ = some (.int .i64 p.2.1) ∧ w'.cell? ⟨b, o + k * 5 + 2, none⟩ = some (.int .i64 p.2.2.1) ∧ w'.cell? ⟨b, o + k * 5 + 3, none⟩ = some (.int .i64 p.2.2.2.1) ∧ w'.cell? ⟨b, o + k * 5 + 4, none⟩ = some (.int .i64 p.2.2.2.2) ∧ w'.cell? ⟨b', o' + k * 5, none⟩ = some (.int .i64 p.1) ∧ w'.cell? ⟨b', o' + k * 5 + 1, none⟩ = some (.int .i64 p.2.1) ∧ w'.cell? ⟨b', o' + k * 5 + 2, none⟩ = some (.int .i64 p.2.2.1) ∧ w'.cell? ⟨b', o' + k * 5 + 3, none⟩ = some (.int .i64 p.2.2.2.1) ∧ w'.cell? ⟨b', o' + k * 5 + 4, none⟩ = some (.int .i64 p.2.2.2.2)) (simp [go_sem, *])
        (first | (go_at_call 73; refine (eqSpark _ _ _ _ _ _).mono ?_; rintro e w' ⟨rfl, hk2⟩; have c0 := Kept.cell hk2 c0; have c1 := Kept.cell hk2 c1; have c2 := Kept.cell hk2 c2; have c3 := Kept.cell hk2 c3; have c4 := Kept.cell hk2 c4; have c0' := Kept.cell hk2 c0'; have c1' := Kept.cell hk2 c1'; have c2' := Kept.cell hk2 c2'; have c3' := Kept.cell hk2 c3'; have c4' := Kept.cell hk2 c4'))
      go_wp2
      exact ⟨⟨k + 1, hlt, by go_num, HK.out.trans ((But.refl _ _ wr).drew.trans hk2)⟩, by simp [intOf]; omega⟩
    · have hke : k = ps.length := by omega
      subst hke
      go_wp2
      go_ret
      exact ⟨rfl, hkp⟩

end Go.Proofs.YtpeiblodefaajaaDoor
