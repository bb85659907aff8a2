/-
  Buses compared.
-/
import Derived.Test.YtghmnhohdbombaaBus16
namespace Go.Proofs.Ytghmnhohdbombaa
open Go.ChangeShapes Go.WideShapes Go.ChangeAt Go.RowKit Ieee
set_option maxRecDepth 100000
theorem eqFilterE (f0 f1 f2 f3 f4 : Nat) (w : World) :
    Calls Try.prog 79 #[.agg #[.float .f64 f0, .float .f64 f1, .float .f64 f2, .float .f64 f3, .float .f64 f4], .agg #[.float .f64 f0, .float .f64 f1, .float .f64 f2, .float .f64 f3, .float .f64 f4]] w fun e w' => e = .returned (.bool true) ∧ w' = (w.alloc (.cells #[.float .f64 f0, .float .f64 f1, .float .f64 f2, .float .f64 f3, .float .f64 f4] 25)).alloc (.cells #[.float .f64 f0, .float .f64 f1, .float .f64 f2, .float .f64 f3, .float .f64 f4] 25) := by
  go_enter Try.func79, Try.ntmps79
  go_wp2_with (first | (go_at_call 30; refine (sameFloat _ _ rfl _).mono ?_; rintro e w' ⟨rfl, rfl⟩))
  go_ret
  exact ⟨rfl, rfl⟩
set_option maxHeartbeats 2000000 in
theorem eqBus (f0 : Nat) (f1 : Nat) (f2 : Nat) (f3 : Nat) (f4 : Nat) (f5 : Nat) (f6 : Int) (w : World) :
    Calls Try.prog 65 #[.agg #[.float .f64 f0, .float .f64 f1, .float .f64 f2, .float .f64 f3, .float .f64 f4, .float .f64 f5, .int .i64 f6], .agg #[.float .f64 f0, .float .f64 f1, .float .f64 f2, .float .f64 f3, .float .f64 f4, .float .f64 f5, .int .i64 f6]] w fun e w' => e = .returned (.bool true) ∧ Kept w w' := by
  go_enter Try.func65, Try.ntmps65
  go_wp2_with (first | (go_at_call 30; refine (sameFloat _ _ rfl _).mono ?_; rintro e w' ⟨rfl, rfl⟩) | (go_at_call 79; refine (eqFilterE _ _ _ _ _ _).mono ?_; rintro e u1 ⟨rfl, rfl⟩))
  go_ret
  exact ⟨rfl, by (repeat (first | with_reducible exact But.refl _ _ _ | with_reducible apply But.alloc | with_reducible apply But.drewN))⟩

set_option maxHeartbeats 2000000 in
theorem eqBusS (ps : List BusD) (v v' : Value) (w : World) (hv : BusAt w v ps) (hv' : BusAt w v' ps) (hn : ps.length ≤ 9000000000000000000) :
    Calls Try.prog 35 #[v, v'] w fun e w' => e = .returned (.bool true) ∧ Kept w w' := by
  obtain ⟨ao, cap, hsl⟩ := row_nil hv
  subst hsl
  obtain ⟨ao', cap', hsl⟩ := row_nil hv'
  subst hsl
  go_enter Try.func35, Try.ntmps35
  go_wp2
  go_loopw [5] (fun i wr => ∃ (k : Nat), k ≤ ps.length ∧ i = .int .i64 k ∧ Kept w wr) (fun i _ => ps.length - (intOf i).toNat)
  case atStart => exact ⟨0, by omega, rfl, But.refl _ _ _⟩
  case round =>
    obtain ⟨k, hk, rfl, hkp⟩ := hrel
    by_cases hlt : k < ps.length
    · obtain ⟨p, hp⟩ : ∃ p, ps[k]? = some p := ⟨_, List.getElem?_eq_getElem hlt⟩
      obtain ⟨b, o, cap1, e, c0, c1, c2, c3, c4, c5, c6⟩ := bus_get (hv.kept hkp) hp
      cases e
      obtain ⟨b', o', cap1', e, c0', c1', c2', c3', c4', c5', c6'⟩ := bus_get (hv'.kept hkp) hp
      cases e
      have z1 : (0 : Int) ≤ (k : Int) := by omega
      have z2 : (k : Int) < (ps.length : Int) := by omega
      have HK : Hid _ := hkp
      clear hkp
      go_wp2_with fail
      go_region_held3 (fun w' => w'.cell? ⟨b, o + k * 7, none⟩ = some (.float .f64 p.1) ∧ w'.cell? ⟨b, o + k * 7 + 1, none⟩ = some (.float .f64 p.2.1) ∧ w'.cell? ⟨b, o + k * 7 + 2, none⟩ = some (.float .f64 p.2.2.1) ∧ w'.cell? ⟨b, o + k * 7 + 3, none⟩ = some (.float .f64 p.2.2.2.1) ∧ w'.cell? ⟨b, o + k * 7 + 4, none⟩ = some (.float .f64 p.2.2.2.2.1) ∧ w'.cell? ⟨b, o + k * 7 + 5, none⟩ = some (.float .f64 p.2.2.2.2.2.1) ∧ w'.cell? ⟨b, o + k * 7 + 6, none⟩ = some (.int .i64 p.2.2.2.2.2.2) ∧ w'.cell? ⟨b', o' + k * 7, none⟩ = some (.float .f64 p.1) ∧ w'.cell? ⟨b', o' + k * 7 + 1, none⟩ = some (.float .f64 p.2.1) ∧ w'.cell? ⟨b', o' + k * 7 + 2, none⟩ = some (.float .f64 p.2.2.1) ∧ w'.cell? ⟨b', o' + k * 7 + 3, none⟩ = some (.float .f64 p.2.2.2.1) ∧ w'.cell? ⟨b', o' + k * 7 + 4, none⟩ = some (.float .f64 p.2.2.2.2.1) ∧ w'.cell? ⟨b', o' + k * 7 + 5, none⟩ = some (.float .f64 p.2.2.2.2.2.1) ∧ w'.cell? ⟨b', o' + k * 7 + 6, none⟩ = some (.int .i64 p.2.2.2.2.2.2)) (simp [go_sem, *])
        (first | (go_at_call 65; refine (eqBus _ _ _ _ _ _ _ _).mono ?_; rintro e w' ⟨rfl, hk2⟩; have c0 := Kept.cell hk2 c0; have c1 := Kept.cell hk2 c1; have c2 := Kept.cell hk2 c2; have c3 := Kept.cell hk2 c3; have c4 := Kept.cell hk2 c4; have c5 := Kept.cell hk2 c5; have c6 := Kept.cell hk2 c6; have c0' := Kept.cell hk2 c0'; have c1' := Kept.cell hk2 c1'; have c2' := Kept.cell hk2 c2'; have c3' := Kept.cell hk2 c3'; have c4' := Kept.cell hk2 c4'; have c5' := Kept.cell hk2 c5'; have c6' := Kept.cell hk2 c6'))
      go_wp2
      exact ⟨⟨k + 1, hlt, by go_num, HK.out.trans ((But.refl _ _ wr).drew.trans hk2)⟩, by simp [intOf]; omega⟩
    · have hke : k = ps.length := by omega
      subst hke
      go_wp2
      go_ret
      exact ⟨rfl, hkp⟩

end Go.Proofs.Ytghmnhohdbombaa
