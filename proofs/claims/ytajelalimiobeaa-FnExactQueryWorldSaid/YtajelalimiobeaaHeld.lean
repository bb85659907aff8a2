/-
  The marks of a whole world found again.
-/
import Derived.Test.YtajelalimiobeaaMarks
namespace Go.Proofs.Ytajelalimiobeaa
open Go.ChangeShapes Go.WideShapes Go.ChangeAt Go.RowKit

set_option maxHeartbeats 2000000 in
theorem heldEntityS (zs : List PE) (es : List ED) (v : Value) (k : Nat) (w : World) (hv : EntsAt w v zs) (hes : zs.map strip = mes k es) (hb : k + kcnt es ≤ 1000000000000) :
    Calls Try.prog 67 #[v, .int .i64 (k : Int)] w fun e w' => e = .returned (.int .i64 ((k + kcnt es : Nat) : Int)) ∧ Kept w w' := by
  obtain ⟨ao, cap, hsl⟩ := row_nil hv.1
  subst hsl
  have hlen : zs.length = es.length := by have := congrArg List.length hes; rw [mes_len] at this; simpa using this
  have HE : Hid (zs.map strip = mes k es) := hes
  have hzl : zs.length ≤ 1000000000000 := by have := kcnt_len es; omega
  clear hes
  go_enter Try.func67, Try.ntmps67
  go_wp2
  go_loopw [1, 5] (fun kk i wr => ∃ (j : Nat), j ≤ zs.length ∧ i = .int .i64 j ∧ kk = .int .i64 ((kat k es j : Nat) : Int) ∧ Kept w wr) (fun kk i _ => zs.length - (intOf i).toNat)
  case atStart => exact ⟨0, by omega, rfl, by simp [kat, kcnt], But.refl _ _ _⟩
  case round =>
    obtain ⟨j, hj, rfl, rfl, hkp⟩ := hrel
    by_cases hlt : j < zs.length
    · obtain ⟨z, hz⟩ : ∃ z, zs[j]? = some z := ⟨_, List.getElem?_eq_getElem hlt⟩
      obtain ⟨e, he⟩ : ∃ e, es[j]? = some e := ⟨_, List.getElem?_eq_getElem (by omega)⟩
      have hyz : strip z = ((kat k es j : Int), mparts (kat k es j + 1) e.2.length) := by
        have := congrArg (fun l => l[j]?) HE.out
        simp only [List.getElem?_map, hz, mes_get he, Option.map_some] at this
        exact Option.some.inj this
      have hy1 : z.1 = (kat k es j : Int) := congrArg (fun a : ED => a.1) hyz
      have hy2 : z.2.2 = mparts (kat k es j + 1) e.2.length := congrArg (fun a : ED => a.2) hyz
      obtain ⟨b, o, cap1, ao1, n1, cap2, e1, ez, c0, c1, en, hpa⟩ := ents_get (hv.kept hkp) hz
      cases e1
      have hnx := kat_next k he
      have hle := kat_le k es (j + 1)
      rw [hy1] at c0
      rw [hy2] at hpa
      rw [hy2, mparts_len] at en
      subst en
      generalize hK : kat k es j = K at *
      have hkb2 : K + 1 + 3 * e.2.length ≤ 1000000000000 := by omega
      have HN : Hid (kat k es (j + 1) = K + (1 + 3 * e.2.length)) := hnx
      have HB : Hid _ := hkp
      have hd : decide (((K + 1 + 3 * e.2.length : Nat) : Int) < 0) = false := by simp; omega
      clear hnx hle hyz hy1 hy2 ez hkp hlen hv
      go_wp2_with (go_at_call 99; refine (heldPartS e.2.length _ (K + 1) _ hpa hkb2).mono ?_; rintro e w' ⟨rfl, hk2⟩)
      refine ⟨⟨j + 1, hlt, by go_num, ?_, HB.out.trans hk2⟩, by simp [intOf]; omega⟩
      rw [HN.out]
      congr 1
      omega
    · have hke : j = zs.length := by omega
      subst hke
      go_wp2
      go_ret
      refine ⟨?_, hkp⟩
      have : kat k es zs.length = k + kcnt es := by unfold kat; rw [List.take_of_length_le (by omega)]
      rw [← this]
      rfl

theorem heldWorld (D : WD) (v : Value) (k : Nat) (w : World) (hv : WAt w v (D.1, D.2.1, mes k D.2.2)) (hb : k + kcnt D.2.2 ≤ 1000000000000) :
    Calls Try.prog 23 #[v, .int .i64 (k : Int)] w fun e w' => e = .returned (.int .i64 ((k + kcnt D.2.2 : Nat) : Int)) ∧ Kept w w' := by
  obtain ⟨ev, zs, rfl, he, hes⟩ := hv
  obtain ⟨ao, cap, hsl⟩ := row_nil he.1
  subst hsl
  have HE : Hid (zs.map strip = mes k D.2.2) := hes
  clear hes
  have hd : decide (((k + kcnt D.2.2 : Nat) : Int) < 0) = false := by simp; omega
  go_enter Try.func23, Try.ntmps23
  go_wp2_with (go_at_call 67; refine (heldEntityS zs D.2.2 _ k _ (he.kept ((But.refl _ _ _).alloc _)) HE.out hb).mono ?_; rintro e w' ⟨rfl, hk⟩)
  go_ret
  exact ⟨rfl, ((But.refl _ _ w).alloc _).trans hk⟩
end Go.Proofs.Ytajelalimiobeaa
