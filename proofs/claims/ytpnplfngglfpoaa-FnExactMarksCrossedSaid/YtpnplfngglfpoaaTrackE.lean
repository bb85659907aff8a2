/-
  That alike lists of tracks are found alike.
-/
import Derived.Test.YtpnplfngglfpoaaTrack
import Derived.Test.YtpnplfngglfpoaaEq
namespace Go.Proofs.Ytpnplfngglfpoaa
open Go.ChangeShapes Go.WideShapes Go.ChangeAt Go.RowKit

set_option maxHeartbeats 2000000 in
theorem eqTrack (f0 : ByteArray) (v v' : Value) (l : List KeyD) (w : World) (hv : KeyAt w v l) (hv' : KeyAt w v' l) (hn : l.length ≤ 9000000000000000000) :
    Calls Try.prog 95 #[.agg #[.string f0, v], .agg #[.string f0, v']] w fun e w' => e = .returned (.bool true) ∧ Kept w w' := by
  obtain ⟨ao, cap, hsl⟩ := row_nil hv
  subst hsl
  obtain ⟨ao', cap', hsl⟩ := row_nil hv'
  subst hsl
  have KA : ∀ a b : Obj, Kept w ((w.alloc a).alloc b) := fun a b => ((But.refl _ _ _).alloc _).alloc _
  go_enter Try.func95, Try.ntmps95
  go_wp2_with (go_at_call 25; refine (eqKeyS l _ _ _ (hv.kept (KA _ _)) (hv'.kept (KA _ _)) hn).mono ?_
               rintro e w1 ⟨rfl, hk⟩
               have L0 := (((Loc.new _ [.string f0, .slice ao l.length cap] 95).alloc _).kept hk)
               have L1 := (Loc.new _ [.string f0, .slice ao' l.length cap'] 95).kept hk
               simp only [World.size_alloc] at L0 L1
               have a0 := L0.cell 0 rfl
               have b0 := L1.cell 0 rfl
               have a1 := L0.cell 1 rfl
               have b1 := L1.cell 1 rfl
               clear L0 L1)
  go_ret
  exact ⟨rfl, (KA _ _).trans hk⟩

set_option maxHeartbeats 4000000 in
theorem eqTrackS (ps qs : List TrackE) (v v' : Value) (w : World) (hpq : ps.map stripTrack = qs.map stripTrack) (hv : TrackAt w v ps) (hv' : TrackAt w v' qs) (hn : ps.length ≤ 9000000000000000000) (hm : ∀ p ∈ ps, p.2.2.length ≤ 9000000000000000000) :
    Calls Try.prog 67 #[v, v'] w fun e w' => e = .returned (.bool true) ∧ Kept w w' := by
  have hlen : qs.length = ps.length := by have := congrArg List.length hpq; simpa using this.symm
  obtain ⟨ao, cap, hsl⟩ := row_nil hv.1
  subst hsl
  obtain ⟨ao', cap', hsl⟩ := row_nil hv'.1
  rw [hlen] at hsl
  subst hsl
  go_enter Try.func67, Try.ntmps67
  go_wp2
  go_loopw [5] (fun i wr => ∃ (k : Nat), k ≤ ps.length ∧ i = .int .i64 k ∧ Kept w wr) (fun i _ => ps.length - (intOf i).toNat)
  case atStart => exact ⟨0, by omega, rfl, But.refl _ _ _⟩
  case round =>
    obtain ⟨k, hk, rfl, hkp⟩ := hrel
    by_cases hlt : k < ps.length
    · obtain ⟨p, hp⟩ : ∃ p, ps[k]? = some p := ⟨_, List.getElem?_eq_getElem hlt⟩
      obtain ⟨q, hq⟩ : ∃ q, qs[k]? = some q := ⟨_, List.getElem?_eq_getElem (by omega)⟩
      have hst : stripTrack p = stripTrack q := by
        have := congrArg (fun l => l[k]?) hpq
        simpa [hp, hq] using this
      obtain ⟨b, o, cap1, e, c0, c1, hpa⟩ := track_get (hv.kept hkp) hp
      cases e
      obtain ⟨b', o', cap1', e, c0', c1', hqa⟩ := track_get (hv'.kept hkp) hq
      rw [hlen] at e
      cases e
      have hll := hm p (List.mem_of_getElem? hp)
      clear hp hq
      obtain ⟨y0, ⟨v1, l⟩⟩ := p
      obtain ⟨x0, ⟨v2, l2⟩⟩ := q
      simp only [stripTrack, Prod.mk.injEq] at hst
      obtain ⟨rfl, rfl⟩ := hst
      dsimp only at hpa hqa hll c0 c1 c0' c1'
      obtain ⟨a1, p1, hsl⟩ := row_nil hpa
      subst hsl
      obtain ⟨a2, p2, hsl⟩ := row_nil hqa
      subst hsl
      have z1 : (0 : Int) ≤ (k : Int) := by omega
      have z2 : (k : Int) < (ps.length : Int) := by omega
      have HK : Hid _ := hkp
      have HP : Hid _ := hpa
      have HQ : Hid _ := hqa
      clear hkp hpa hqa
      go_wp2_with fail
      go_region_held3 (fun w' => Kept wr w' ∧ w'.cell? ⟨b, o + k * 2, none⟩ = some (.string y0) ∧ w'.cell? ⟨b, o + k * 2 + 1, none⟩ = some (.slice a1 l.length p1) ∧ w'.cell? ⟨b', o' + k * 2, none⟩ = some (.string y0) ∧ w'.cell? ⟨b', o' + k * 2 + 1, none⟩ = some (.slice a2 l.length p2)) (first | (refine ⟨?_, ?_, ?_, ?_, ?_⟩ <;> first | assumption | exact But.refl _ _ _ | exact (But.refl _ _ _).drew) | simp [go_sem, *])
        (first | (go_at_call 95; refine (eqTrack _ _ _ _ _ (RowAt.kept HP.out (But.drew (But.refl _ _ _))) (RowAt.kept HQ.out (But.drew (But.refl _ _ _))) hll).mono ?_; rintro e w' ⟨rfl, hk2⟩; have c0 := Kept.cell hk2 c0; have c1 := Kept.cell hk2 c1; have c0' := Kept.cell hk2 c0'; have c1' := Kept.cell hk2 c1'; have hkk : Kept wr w' := ((But.refl _ _ wr).drew).trans hk2))
      go_wp2
      exact ⟨⟨k + 1, hlt, by go_num, HK.out.trans hkk⟩, by simp [intOf]; omega⟩
    · have hke : k = ps.length := by omega
      subst hke
      go_wp2
      go_ret
      exact ⟨rfl, hkp⟩

end Go.Proofs.Ytpnplfngglfpoaa
