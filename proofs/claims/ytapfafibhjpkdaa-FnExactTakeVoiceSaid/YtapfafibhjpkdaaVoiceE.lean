/-
  Lists of voices held against one another.
-/
import Derived.Test.YtapfafibhjpkdaaVoice
import Derived.Deep.RegionHeld3
namespace Go.Proofs.Ytapfafibhjpkdaa
open Go.ChangeShapes Go.WideShapes Go.ChangeAt Go.RowKit

set_option maxHeartbeats 2000000 in
theorem eqVoice (v v' : Value) (l : List NumD) (f1 : Int) (f2 : Bool) (f3 : Int) (f4 : Int) (f5 : Int) (w : World) (hv : NumAt w v l) (hv' : NumAt w v' l) (hn : l.length ≤ 9000000000000000000) :
    Calls Try.prog 13 #[.agg #[v, .int .i64 f1, .bool f2, .int .i64 f3, .int .i64 f4, .int .i64 f5], .agg #[v', .int .i64 f1, .bool f2, .int .i64 f3, .int .i64 f4, .int .i64 f5]] w fun e w' => e = .returned (.bool true) ∧ Kept w w' := by
  obtain ⟨ao, cap, hsl⟩ := row_nil hv
  subst hsl
  obtain ⟨ao', cap', hsl⟩ := row_nil hv'
  subst hsl
  have KA : ∀ a b : Obj, Kept w ((w.alloc a).alloc b) := fun a b => ((But.refl _ _ _).alloc _).alloc _
  go_enter Try.func13, Try.ntmps13
  go_wp2_with (go_at_call 44; refine (eqNumS l _ _ _ (hv.kept (KA _ _)) (hv'.kept (KA _ _)) hn).mono ?_
               rintro e w1 ⟨rfl, hk⟩
               have L0 := (((Loc.new _ [.slice ao l.length cap, .int .i64 f1, .bool f2, .int .i64 f3, .int .i64 f4, .int .i64 f5] 27).alloc _).kept hk)
               have L1 := (Loc.new _ [.slice ao' l.length cap', .int .i64 f1, .bool f2, .int .i64 f3, .int .i64 f4, .int .i64 f5] 27).kept hk
               simp only [World.size_alloc] at L0 L1
               have a0 := L0.cell 0 rfl
               have b0 := L1.cell 0 rfl
               have a1 := L0.cell 1 rfl
               have b1 := L1.cell 1 rfl
               have a2 := L0.cell 2 rfl
               have b2 := L1.cell 2 rfl
               have a3 := L0.cell 3 rfl
               have b3 := L1.cell 3 rfl
               have a4 := L0.cell 4 rfl
               have b4 := L1.cell 4 rfl
               have a5 := L0.cell 5 rfl
               have b5 := L1.cell 5 rfl
               clear L0 L1)
  go_ret
  exact ⟨rfl, (KA _ _).trans hk⟩

set_option maxHeartbeats 4000000 in
theorem eqVoiceS (ps qs : List VoiceE) (v v' : Value) (w : World) (hpq : ps.map stripVoice = qs.map stripVoice) (hv : VoiceAt w v ps) (hv' : VoiceAt w v' qs) (hn : ps.length ≤ 9000000000000000000) (hm : ∀ p ∈ ps, p.1.2.length ≤ 9000000000000000000) :
    Calls Try.prog 19 #[v, v'] w fun e w' => e = .returned (.bool true) ∧ Kept w w' := by
  have hlen : qs.length = ps.length := by have := congrArg List.length hpq; simpa using this.symm
  obtain ⟨ao, cap, hsl⟩ := row_nil hv.1
  subst hsl
  obtain ⟨ao', cap', hsl⟩ := row_nil hv'.1
  rw [hlen] at hsl
  subst hsl
  go_enter Try.func19, Try.ntmps19
  go_wp2
  go_loopw [5] (fun i wr => ∃ (k : Nat), k ≤ ps.length ∧ i = .int .i64 k ∧ Kept w wr) (fun i _ => ps.length - (intOf i).toNat)
  case atStart => exact ⟨0, by omega, rfl, But.refl _ _ _⟩
  case round =>
    obtain ⟨k, hk, rfl, hkp⟩ := hrel
    by_cases hlt : k < ps.length
    · obtain ⟨p, hp⟩ : ∃ p, ps[k]? = some p := ⟨_, List.getElem?_eq_getElem hlt⟩
      obtain ⟨q, hq⟩ : ∃ q, qs[k]? = some q := ⟨_, List.getElem?_eq_getElem (by omega)⟩
      have hst : stripVoice p = stripVoice q := by
        have := congrArg (fun l => l[k]?) hpq
        simpa [hp, hq] using this
      obtain ⟨b, o, cap1, e, c0, c1, c2, c3, c4, c5, hpa⟩ := voice_get (hv.kept hkp) hp
      cases e
      obtain ⟨b', o', cap1', e, c0', c1', c2', c3', c4', c5', hqa⟩ := voice_get (hv'.kept hkp) hq
      rw [hlen] at e
      cases e
      have hll := hm p (List.mem_of_getElem? hp)
      clear hp hq
      obtain ⟨⟨v1, l⟩, y1, y2, y3, y4, y5⟩ := p
      obtain ⟨⟨v2, l2⟩, x1, x2, x3, x4, x5⟩ := q
      simp only [stripVoice, Prod.mk.injEq] at hst
      obtain ⟨rfl, rfl, rfl, rfl, rfl, rfl⟩ := hst
      dsimp only at hpa hqa hll c0 c1 c2 c3 c4 c5 c0' c1' c2' c3' c4' c5'
      obtain ⟨a1, p1, hsl⟩ := row_nil hpa
      subst hsl
      obtain ⟨a2, p2, hsl⟩ := row_nil hqa
      subst hsl
      have z1 : (0 : Int) ≤ (k : Int) := by omega
      have z2 : (k : Int) < (ps.length : Int) := by omega
      have HK : Hid _ := hkp
      have HP : Hid _ := hpa
      have HQ : Hid _ := hqa
      clear hkp hpa hqa
      go_wp2_with fail
      go_region_held3 (fun w' => Kept wr w' ∧ w'.cell? ⟨b, o + k * 6, none⟩ = some (.slice a1 l.length p1) ∧ w'.cell? ⟨b, o + k * 6 + 1, none⟩ = some (.int .i64 y1) ∧ w'.cell? ⟨b, o + k * 6 + 2, none⟩ = some (.bool y2) ∧ w'.cell? ⟨b, o + k * 6 + 3, none⟩ = some (.int .i64 y3) ∧ w'.cell? ⟨b, o + k * 6 + 4, none⟩ = some (.int .i64 y4) ∧ w'.cell? ⟨b, o + k * 6 + 5, none⟩ = some (.int .i64 y5) ∧ w'.cell? ⟨b', o' + k * 6, none⟩ = some (.slice a2 l.length p2) ∧ w'.cell? ⟨b', o' + k * 6 + 1, none⟩ = some (.int .i64 y1) ∧ w'.cell? ⟨b', o' + k * 6 + 2, none⟩ = some (.bool y2) ∧ w'.cell? ⟨b', o' + k * 6 + 3, none⟩ = some (.int .i64 y3) ∧ w'.cell? ⟨b', o' + k * 6 + 4, none⟩ = some (.int .i64 y4) ∧ w'.cell? ⟨b', o' + k * 6 + 5, none⟩ = some (.int .i64 y5)) (first | (refine ⟨?_, ?_, ?_, ?_, ?_, ?_, ?_, ?_, ?_, ?_, ?_, ?_, ?_⟩ <;> first | assumption | exact But.refl _ _ _ | exact (But.refl _ _ _).drew) | simp [go_sem, *])
        (first | (go_at_call 13; refine (eqVoice _ _ _ _ _ _ _ _ _ (RowAt.kept HP.out (But.drew (But.refl _ _ _))) (RowAt.kept HQ.out (But.drew (But.refl _ _ _))) hll).mono ?_; rintro e w' ⟨rfl, hk2⟩; have c0 := Kept.cell hk2 c0; have c1 := Kept.cell hk2 c1; have c2 := Kept.cell hk2 c2; have c3 := Kept.cell hk2 c3; have c4 := Kept.cell hk2 c4; have c5 := Kept.cell hk2 c5; have c0' := Kept.cell hk2 c0'; have c1' := Kept.cell hk2 c1'; have c2' := Kept.cell hk2 c2'; have c3' := Kept.cell hk2 c3'; have c4' := Kept.cell hk2 c4'; have c5' := Kept.cell hk2 c5'; have hkk : Kept wr w' := ((But.refl _ _ wr).drew).trans hk2))
      go_wp2
      exact ⟨⟨k + 1, hlt, by go_num, HK.out.trans hkk⟩, by simp [intOf]; omega⟩
    · have hke : k = ps.length := by omega
      subst hke
      go_wp2
      go_ret
      exact ⟨rfl, hkp⟩

end Go.Proofs.Ytapfafibhjpkdaa
