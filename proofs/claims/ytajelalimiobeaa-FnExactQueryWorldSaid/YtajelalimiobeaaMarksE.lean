/-
  A whole world written over with marks.
-/
import Derived.Test.YtajelalimiobeaaMarks
namespace Go.Proofs.Ytajelalimiobeaa
open Go.ChangeShapes Go.WideShapes Go.ChangeAt Go.RowKit

set_option maxHeartbeats 2000000 in
theorem markEntityS (zs : List PE) (v : Value) (k lo hi : Nat) (w : World) (hv : EntsO w lo hi v zs) (hb : k + kcnt (zs.map strip) ≤ 1000000000000) :
    Calls Try.prog 66 #[v, .int .i64 (k : Int)] w fun e w' => e = .returned (.int .i64 ((k + kcnt (zs.map strip) : Nat) : Int)) ∧ EntsO w' lo hi v (mzs k zs) ∧ But lo hi w w' := by
  obtain ⟨ao, cap, hsl, _⟩ := own_form hv.row.1
  subst hsl
  have hzl : zs.length ≤ 1000000000000 := by have := kcnt_len (zs.map strip); rw [List.length_map] at this; omega
  go_enter Try.func66, Try.ntmps66
  go_wp2
  go_loopw [1, 5] (fun kk i wr => ∃ (j : Nat), j ≤ zs.length ∧ i = .int .i64 j ∧ kk = .int .i64 ((kat k (zs.map strip) j : Nat) : Int) ∧ EntsO wr lo hi (.slice ao zs.length cap) (mix (mzs k zs) zs j) ∧ But lo hi w wr) (fun kk i _ => zs.length - (intOf i).toNat)
  case atStart => exact ⟨0, by omega, rfl, by simp [kat, kcnt], by rw [mix_zero]; exact hv, But.refl _ _ _⟩
  case round =>
    obtain ⟨j, hj, rfl, rfl, ho, hkp⟩ := hrel
    by_cases hlt : j < zs.length
    · obtain ⟨z, hz⟩ : ∃ z, zs[j]? = some z := ⟨_, List.getElem?_eq_getElem hlt⟩
      have hmg : (mix (mzs k zs) zs j)[j]? = some z := by rw [mix_get _ _ _ (mzs_len _ _) hlt]; exact hz
      have hml : zs.length = (mix (mzs k zs) zs j).length := (mix_len _ _ _ (mzs_len _ _) hj).symm
      have hnx := kat_next k (show (zs.map strip)[j]? = some (strip z) by rw [List.getElem?_map, hz]; rfl)
      have hle := kat_le k (zs.map strip) (j + 1)
      have hmz := mzs_get (k := k) hz
      simp only [strip] at hnx
      have hmx := fun x hx => mix_set (mzs k zs) zs j x (mzs_len k zs) hx
      have hmx := hmx _ hmz
      obtain ⟨g', cap', hfm, _⟩ : ∃ g cap', Value.slice ao zs.length cap = .slice (some ⟨g, 0, none⟩) zs.length cap' ∧ True := by
        obtain ⟨b, o, cap1, _, _, _, e, _⟩ := ents_get ho.at hmg
        rcases ho.row.1.2 with ⟨hf, _⟩ | ⟨g, c2, cur, hf, _⟩
        · rw [hf] at e; cases e
        · rw [← hml] at hf; exact ⟨g, c2, hf, trivial⟩
      cases hfm
      obtain ⟨ao2, cap2, hpf, _⟩ := own_form (ho.parts j z hmg).1
      have hkb : kat k (zs.map strip) j ≤ 1000000000000 := by omega
      generalize hK : kat k (zs.map strip) j = K at *
      have HN : Hid (kat k (zs.map strip) (j + 1) = K + (1 + 3 * z.2.2.length) ∧ (mix (mzs k zs) zs j).set j ((K : Int), z.2.1, mparts (K + 1) z.2.2.length) = mix (mzs k zs) zs (j + 1)) := ⟨hnx, hmx⟩
      have hkb2 : K + 1 + 3 * z.2.2.length ≤ 1000000000000 := by omega
      have hid := ho.setId hml hmg (K : Int)
      obtain ⟨d0, d1, dz⟩ := ho.cells hmg
      rw [hpf] at d1
      have dz0 := dz (j * 2)
      have hgt : (wr.setCell ⟨g', j * 2, none⟩ (.int .i64 K)).cell? ⟨g', j * 2 + 1, none⟩ = some (.slice ao2 z.2.2.length cap2) := by
        rw [World.cell?_setCell_other _ _ _ _ (by simp)]; exact d1
      have hg3 : ((mix (mzs k zs) zs j).set j ((K : Int), z.2))[j]? = some ((K : Int), z.2) := by rw [List.getElem?_set_self (by omega)]
      have HI : Hid (EntsO _ _ _ _ _ ∧ ((mix (mzs k zs) zs j).set j ((K : Int), z.2))[j]? = some ((K : Int), z.2) ∧ z.2.1 = .slice ao2 z.2.2.length cap2) := ⟨hid, hg3, hpf⟩
      have HB : Hid _ := hkp
      have hro := hid.row
      have hbs := but_set wr g' zs.length cap (j * 2) (.int .i64 K)
      have HR : Hid (But lo hi wr (wr.setCell ⟨g', j * 2, none⟩ (.int .i64 K))) := hbs.inner ho.row
      clear hK ho hkp hv hml hmg hmz hmx hnx hle hid hpf dz hg3 hro hbs
      have HP : Hid (PartsO (wr.setCell ⟨g', j * 2, none⟩ (.int .i64 K)) lo hi (.slice ao2 z.2.2.length cap2) z.2.2) := by
        have := HI.out.1.parts j _ HI.out.2.1
        rw [← HI.out.2.2]
        exact this
      go_wp2_with (go_at_call 98; refine (markPartS z.2.2 _ (K + 1) lo hi _ HP.out hkb2).mono ?_; rintro e w' ⟨rfl, hpo, hbu⟩
                   have HQ : Hid (PartsO w' lo hi (.slice ao2 z.2.2.length cap2) (mparts (K + 1) z.2.2.length) ∧ But (blo (.slice ao2 z.2.2.length cap2)) (bhi (.slice ao2 z.2.2.length cap2)) (wr.setCell ⟨g', j * 2, none⟩ (.int .i64 K)) w') := ⟨hpo, hbu⟩
                   clear hpo hbu)
      obtain ⟨hpo, hbu⟩ := HQ.out
      obtain ⟨hid, hg3, hpf⟩ := HI.out
      have hin := hid.inner (ps := mparts (K + 1) z.2.2.length) hg3 (by rw [hpf]; exact hbu) (by rw [hpf]; exact hpo)
      rw [List.set_set, HN.out.2] at hin
      refine ⟨⟨j + 1, hlt, by go_num, ?_, hin, (HB.out.trans HR.out).trans (hbu.inner HP.out)⟩, by simp [intOf]; omega⟩
      rw [HN.out.1]
      congr 1
      omega
    · have hke : j = zs.length := by omega
      subst hke
      go_wp2
      go_ret
      rw [mix_all _ _ _ (mzs_len _ _) rfl] at ho
      refine ⟨?_, ho, hkp⟩
      have : kat k (zs.map strip) zs.length = k + kcnt (zs.map strip) := by unfold kat; rw [List.take_of_length_le (by simp)]
      rw [← this]
      rfl

theorem markWorld (D : WD) (v : Value) (k lo hi : Nat) (w : World) (hv : WO w lo hi v D) (hb : k + kcnt D.2.2 ≤ 1000000000000) :
    Calls Try.prog 22 #[v, .int .i64 (k : Int)] w fun e w' => e = .returned (.int .i64 ((k + kcnt D.2.2 : Nat) : Int)) ∧ WO w' lo hi v (D.1, D.2.1, mes k D.2.2) ∧ But lo hi w w' := by
  obtain ⟨ev, zs, rfl, he, hes⟩ := hv
  obtain ⟨ao, cap, hsl, _⟩ := own_form he.row.1
  subst hsl
  rw [← hes] at hb
  have HE : Hid (zs.map strip = D.2.2) := hes
  clear hes
  go_enter Try.func22, Try.ntmps22
  go_wp2_with (go_at_call 66; refine (markEntityS zs _ k lo hi _ (he.kept ((But.refl _ _ _).alloc _)) hb).mono ?_; rintro e w' ⟨rfl, ho, hbu⟩)
  go_ret
  refine ⟨by rw [HE.out]; rfl, ⟨_, mzs k zs, rfl, ho, by rw [mzs_strip, HE.out]⟩, ((But.refl _ _ w).alloc _).trans hbu⟩

end Go.Proofs.Ytajelalimiobeaa
