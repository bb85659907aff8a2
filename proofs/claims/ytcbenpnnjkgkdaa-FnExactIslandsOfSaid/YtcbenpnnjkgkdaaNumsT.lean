/-
  Lists of lists compared.
-/
import Derived.Test.YtcbenpnnjkgkdaaNums
import Derived.Deep.RegionHeld3
namespace Go.Proofs.Ytcbenpnnjkgkdaa
open Go.ChangeShapes Go.WideShapes Go.ChangeAt Go.RowKit

set_option maxHeartbeats 4000000 in
theorem eqNumsS (ps qs : List NumsE) (v v' : Value) (w : World) (hpq : ps.map Prod.snd = qs.map Prod.snd) (hv : NumsAt w v ps) (hv' : NumsAt w v' qs) (hn : ps.length ≤ 9000000000000000000) (hm : ∀ p ∈ ps, p.2.length ≤ 9000000000000000000) :
    Calls Try.prog 8 #[v, v'] w fun e w' => e = .returned (.bool true) ∧ Kept w w' := by
  have hlen : qs.length = ps.length := (nums_len hpq).symm
  obtain ⟨ao, cap, hsl⟩ := row_nil hv.1
  subst hsl
  obtain ⟨ao', cap', hsl⟩ := row_nil hv'.1
  rw [hlen] at hsl
  subst hsl
  go_enter Try.func8, Try.ntmps8
  go_wp2
  go_loopw [5] (fun i wr => ∃ (k : Nat), k ≤ ps.length ∧ i = .int .i64 k ∧ Kept w wr) (fun i _ => ps.length - (intOf i).toNat)
  case atStart => exact ⟨0, by omega, rfl, But.refl _ _ _⟩
  case round =>
    obtain ⟨k, hk, rfl, hkp⟩ := hrel
    by_cases hlt : k < ps.length
    · obtain ⟨p, hp⟩ : ∃ p, ps[k]? = some p := ⟨_, List.getElem?_eq_getElem hlt⟩
      obtain ⟨q, hq⟩ : ∃ q, qs[k]? = some q := ⟨_, List.getElem?_eq_getElem (by omega)⟩
      have hst := nums_same hpq hp hq
      obtain ⟨b, o, cap1, e, c0, hpa⟩ := nums_get (hv.kept hkp) hp
      cases e
      obtain ⟨b', o', cap1', e, c0', hqa⟩ := nums_get (hv'.kept hkp) hq
      rw [hlen] at e
      cases e
      have hll := hm p (List.mem_of_getElem? hp)
      clear hp hq
      obtain ⟨v1, l⟩ := p
      obtain ⟨v2, l2⟩ := q
      dsimp only at hst
      subst hst
      dsimp only at hpa hqa hll c0 c0'
      obtain ⟨a1, p1, hsl⟩ := row_nil hpa
      subst hsl
      obtain ⟨a2, p2, hsl⟩ := row_nil hqa
      subst hsl
      have z1 : (0 : Int) ≤ (k : Int) := by omega
      have z2 : (k : Int) < (ps.length : Int) := by omega
      have HK : Hid _ := hkp
      have HP : Hid _ := hpa
      have HQ : Hid _ := hqa
      clear hkp hpa hqa
      go_wp2_with fail
      go_region_held3 (fun w' => Kept wr w' ∧ w'.cell? ⟨b, o + k, none⟩ = some (.slice a1 l.length p1) ∧ w'.cell? ⟨b', o' + k, none⟩ = some (.slice a2 l.length p2)) (first | (refine ⟨?_, ?_, ?_⟩ <;> first | assumption | exact But.refl _ _ _ | exact (But.refl _ _ _).drew) | simp [go_sem, *])
        (first | (go_at_call 17; refine (eqNumS l _ _ _ (RowAt.kept HP.out (But.drew (But.refl _ _ _))) (RowAt.kept HQ.out (But.drew (But.refl _ _ _))) hll).mono ?_; rintro e w' ⟨rfl, hk2⟩; have c0 := Kept.cell hk2 c0; have c0' := Kept.cell hk2 c0'; have hkk : Kept wr w' := ((But.refl _ _ wr).drew).trans hk2))
      go_wp2
      exact ⟨⟨k + 1, hlt, by go_num, HK.out.trans hkk⟩, by simp [intOf]; omega⟩
    · have hke : k = ps.length := by omega
      subst hke
      go_wp2
      go_ret
      exact ⟨rfl, hkp⟩

end Go.Proofs.Ytcbenpnnjkgkdaa
