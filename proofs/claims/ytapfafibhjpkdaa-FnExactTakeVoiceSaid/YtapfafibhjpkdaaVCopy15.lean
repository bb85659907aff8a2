/-
  Voices copied in the program.
-/
import Derived.Test.YtapfafibhjpkdaaVOwnI15
namespace Go.Proofs.Ytapfafibhjpkdaa
open Go.ChangeShapes Go.WideShapes Go.ChangeAt Go.RowKit

set_option maxRecDepth 100000
set_option linter.unusedVariables false

set_option maxHeartbeats 4000000 in
theorem icopyvs (ds : List VoiceD) (v : Value) (w : World) (hv : VoicesAt w v ds) (hn : voicesCost ds ≤ 1048576) :
    Calls Try.prog 56 #[v] w fun e w' => ∃ v', e = .returned v' ∧ VoicesO w' w.heap.size w'.heap.size v' ds ∧ Kept w w' := by
  obtain ⟨ao, cap, hsl⟩ := hv.form
  subst hsl
  have hcs : Hid (∀ d ∈ ds, d.1.length ≤ 1048576) := fun d hd => by
    have := voices_one hd
    unfold voicesOne at this
    omega
  have hln : ds.length ≤ 1048576 := by unfold voicesCost at hn; omega
  clear hn
  obtain ⟨i0, hi0, hz0, hz1, hz2⟩ := info_parts infoV
  go_enter Try.func56, Try.ntmps56
  repeat (first | go_values | go_skip | go_guarded | go_step | go_upon)
  go_loopw [3, 8] (fun e i wr => ∃ (j : Nat) (ts : List VoiceE) (ao' : Option Addr) (c' : Nat), j ≤ ds.length ∧ i = .int .i64 j ∧ ts.map stripVoice = ds.take j ∧ e = .slice ao' j c' ∧ VoiceO wr w.heap.size wr.heap.size (.slice ao' j c') ts ∧ Kept w wr) (fun e i _ => ds.length - (intOf i).toNat)
  case atStart => exact ⟨0, [], none, 0, by omega, rfl, by simp, rfl, voice_nil _ _ _, But.refl _ _ _⟩
  case round =>
    obtain ⟨j, ts, ao', c', hk, rfl, hts, rfl, hown, hkp⟩ := hrel
    have htl : ts.length = j := by
      have := congrArg List.length hts
      simp at this
      omega
    have HO : Hid (VoiceO wr w.heap.size wr.heap.size (.slice ao' j c') ts) := hown
    have HK : Hid (Kept w wr) := hkp
    have HTS : Hid (ts.map stripVoice = ds.take j ∧ ts.length = j) := ⟨hts, htl⟩
    have hwz := hkp.size
    clear hown hts htl
    by_cases hlt : j < ds.length
    · obtain ⟨d, hd⟩ : ∃ b, ds[j]? = some b := ⟨_, List.getElem?_eq_getElem hlt⟩
      obtain ⟨b, o, cap', s, ee, c0, c1, c2, c3, c4, c5, hka⟩ := (hv.kept hkp).get hd
      cases ee
      have hsz := hcs.out d (List.mem_of_getElem? hd)
      have HP : Hid (ds.take (j + 1) = ds.take j ++ [d]) := take_snoc hd
      obtain ⟨l, a, lp, lf, rt, rk⟩ := d
      dsimp only at c0 c1 c2 c3 c4 c5 hka hsz
      obtain ⟨a3, p3, hsl⟩ := row_nil hka
      subst hsl
      have HN : Hid (NumAt wr (.slice a3 l.length p3) l) := hka
      clear hd hka hkp
      repeat (first | go_values | go_skip | go_guarded | go_step | go_upon)
      go_at_call 59
      refine (iownV a3 p3 l a lp lf rt rk _ (HN.out.kept ((But.refl _ _ _).alloc _)) hsz).mono ?_
      rintro e w3 ⟨a4, p4, rfl, hno, k3⟩
      have k3' : Kept wr w3 := ((But.refl _ _ _).alloc _).trans k3
      have HK3 : Hid (Kept w w3) := HK.out.trans k3'
      have s3 := k3'.size
      simp only [World.size_alloc] at hno
      have hO3 := HO.out.kept k3'
      have HAP : Hid (∀ (i : Nat) (p : VoiceE), ts[i]? = some p → Ap p.1.1 (.slice a4 l.length p4)) := fun i p hp => ap_low (hO3.inn i p hp) hno (.inl (by omega))
      have HO3 : Hid (VoiceO w3 w.heap.size w3.heap.size (.slice ao' j c') ts) := hO3.mono (Nat.le_refl _) s3
      have HN3 : Hid (NumO w3 w.heap.size w3.heap.size (.slice a4 l.length p4) l) := hno.mono (by omega) (Nat.le_refl _)
      clear hO3 hno k3 k3' HO HK HN
      dsimp only
      repeat (first | (at_builtin; refine forgetL (fun w' => w' = _) rfl ?_) | go_values | go_skip | go_guarded | go_step | go_upon)
      intro W7 hW7
      have K7 : Kept w3 W7 := by rw [hW7]; exact (But.refl _ _ _).alloc _
      have N7 : Loc W7 w3.heap.size (voiceC ((.slice a4 l.length p4, l), a, lp, lf, rt, rk)) := by rw [hW7]; exact Loc.new w3 _ _
      have s7 := K7.size
      have hO7 := (HO3.out.kept K7).mono (Nat.le_refl _) s7
      have hN7 := (HN3.out.kept K7).mono (Nat.le_refl _) s7
      clear hW7
      refine wpList_append_own _ rfl _ _ 35 rfl w.heap.size 27 i0 (.agg #[.slice none 0 0, .int .i64 0, .bool false, .int .i64 0, .int .i64 0, .int .i64 0]) 6 64 Try.underlying35 hi0 hz0 hz1 hz2 rfl (by decide) (.slice ao' j c') j (ts.flatMap voiceC) rfl (by have := hO7.row.1; rw [HTS.out.2] at this; exact this) ⟨w3.heap.size, 0, none⟩ 1 1 (voiceC ((.slice a4 l.length p4, l), a, lp, lf, rt, rk)) rfl rfl (news_voice N7) (one_voice _ _ _ _ _ _ _ _ _) (by unfold maxLen; omega) (by omega) (by omega) ?_
      intro v' w8 hown' hgrow _
      obtain ⟨hV8, hk8⟩ := app_voice hO7 HTS.out.2 hN7 HAP.out hown' hgrow
      obtain ⟨ao5, cap5, hf5, _⟩ := own_form hown'
      subst hf5
      have HV8 : Hid (VoiceO w8 w.heap.size w8.heap.size (.slice ao5 (j + 1) cap5) (ts ++ [((.slice a4 l.length p4, l), a, lp, lf, rt, rk)])) := hV8
      have HK8 : Hid (Kept w w8) := hk8 w (HK3.out.trans K7) (Nat.le_refl _)
      clear hgrow hown' hV8 hk8 hO7 hN7 N7 K7 HO3 HN3 HK3
      dsimp only
      repeat (first | go_values | go_skip | go_guarded | go_step | go_upon)
      refine ⟨⟨j + 1, ts ++ [((.slice a4 l.length p4, l), a, lp, lf, rt, rk)], ao5, cap5, hlt, by go_num, ?_, rfl, HV8.out, HK8.out⟩, by simp [intOf]; omega⟩
      rw [HP.out, List.map_append, HTS.out.1]
      rfl
    · have hke : j = ds.length := by omega
      subst hke
      have hst : ts.map stripVoice = ds := by rw [HTS.out.1, List.take_length]
      clear hkp
      repeat (first | go_values | go_skip | go_guarded | go_step | go_upon)
      go_ret
      exact ⟨_, rfl, ⟨ts, HO.out, hst⟩, HK.out⟩

end Go.Proofs.Ytapfafibhjpkdaa
