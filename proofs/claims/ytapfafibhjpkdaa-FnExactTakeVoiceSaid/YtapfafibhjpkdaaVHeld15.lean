/-
  Marks of voices found again; one voice marked.
-/
import Derived.Test.YtapfafibhjpkdaaVMark15
import Derived.Test.YtapfafibhjpkdaaVoiceW
namespace Go.Proofs.Ytapfafibhjpkdaa
open Go.ChangeShapes Go.WideShapes Go.ChangeAt Go.RowKit

set_option maxRecDepth 100000
set_option linter.unusedVariables false

set_option maxHeartbeats 4000000 in
theorem heldVs (ps : List VoiceE) (v : Value) (k : Nat) (w : World) (hv : VoiceAt w v (mkE k ps)) (hb : k + vMk ps ≤ 1000000000) (hn : ps.length ≤ 1000000000) :
    Calls Try.prog 23 #[v, .int .i64 (k : Int)] w fun e w' => e = .returned (.int .i64 ((k + vMk ps : Nat) : Int)) ∧ Kept w w' := by
  obtain ⟨ao, cap, hsl⟩ := row_nil hv.1
  rw [mkE_len] at hsl
  subst hsl
  go_enter Try.func23, Try.ntmps23
  go_wp2
  go_loopw [1, 5] (fun kk i wr => ∃ (j : Nat), j ≤ ps.length ∧ i = .int .i64 j ∧ kk = .int .i64 ((k + vMk (ps.take j) : Nat) : Int) ∧ Kept w wr) (fun kk i _ => ps.length - (intOf i).toNat)
  case atStart => exact ⟨0, by omega, rfl, by simp [vMk], But.refl _ _ _⟩
  case round =>
    obtain ⟨j, hj, rfl, rfl, hkp⟩ := hrel
    by_cases hlt : j < ps.length
    · obtain ⟨p, hp⟩ : ∃ y, ps[j]? = some y := ⟨_, List.getElem?_eq_getElem (by omega)⟩
      obtain ⟨b, o, cap1, e, c0, c1, c2, c3, c4, c5, hna⟩ := voice_get (hv.kept hkp) (mkE_get k ps j p hp)
      rw [mkE_len] at e
      cases e
      have hsn := vMk_snoc (ps.take j) p
      rw [← take_snoc hp] at hsn
      have hst := vMk_take ps (j + 1)
      have hkb : k + vMk (ps.take j) + (p.1.2.length + 5) ≤ 1000000000 := by omega
      have HKK : Hid (k + vMk (ps.take (j + 1)) = k + vMk (ps.take j) + (p.1.2.length + 5)) := by show _ = _; omega
      generalize hK : k + vMk (ps.take j) = K at *
      obtain ⟨⟨s, l⟩, y1, y2, y3, y4, y5⟩ := p
      obtain ⟨M, hM⟩ : ∃ M : Nat, K + l.length = M := ⟨_, rfl⟩
      have HM : Hid (K + l.length = M) := hM
      unfold mk1 mkT at c0 c1 c2 c3 c4 c5 hna
      dsimp only at c0 c1 c2 c3 c4 c5 hna hkb HKK
      rw [hM] at c1 c2 c3 c4 c5
      obtain ⟨a3, p3, hsl3⟩ := row_nil hna
      rw [mNum_len] at hsl3
      subst hsl3
      have hMb : M + 5 ≤ 1000000000 := by omega
      have hM0 : decide ((M : Int) < 0) = false := by simp
      have HN : Hid (NumAt wr (.slice a3 l.length p3) (mNum K l.length)) := hna
      have HK : Hid (Kept w wr) := hkp
      have HKB : Hid (K + l.length ≤ 1000000000000) := by show _ ≤ _; omega
      clear hM hsn hst hkp hna hkb hK
      repeat (first
        | (go_at_call 58
           refine (heldNumS l.length _ K _ HN.out HKB.out).mono ?_
           rintro e w4 ⟨rfl, k4⟩
           rw [HM.out]
           have c1 := Kept.cell k4 c1
           have c2 := Kept.cell k4 c2
           have c3 := Kept.cell k4 c3
           have c4 := Kept.cell k4 c4
           have c5 := Kept.cell k4 c5
           dsimp only)
        | go_values | go_skip | go_guarded | go_step | go_upon)
      have hKK := HKK.out
      have hMM := HM.out
      exact ⟨⟨j + 1, hlt, by go_num, by congr 1; omega, HK.out.trans k4⟩, by simp [intOf]; omega⟩
    · have hke : j = ps.length := by omega
      subst hke
      go_wp2
      go_ret
      rw [List.take_length]
      exact ⟨rfl, hkp⟩
set_option maxHeartbeats 1000000 in
theorem markV1 (d : VoiceD) (v : Value) (k lo hi : Nat) (w : World) (hv : VO w lo hi v d) (hb : k + d.1.length ≤ 1000000000000) (hh : hi ≤ w.heap.size) :
    Calls Try.prog 26 #[v, .int .i64 (k : Int)] w fun e w' => e = .returned (.int .i64 ((k + d.1.length : Nat) : Int)) ∧ But lo hi w w' := by
  obtain ⟨s, rfl, h⟩ := hv
  obtain ⟨ao, cap, hf⟩ := h.form
  subst hf
  go_enter Try.func26, Try.ntmps26
  repeat (first | go_values | go_skip | go_guarded | go_step | go_upon)
  go_at_call 57
  refine (markNumS d.1 _ k lo hi _ (h.kept ((But.refl _ _ _).alloc _)) hb).mono ?_
  rintro e w4 ⟨rfl, o4, b4⟩
  dsimp only
  repeat (first | go_values | go_skip | go_guarded | go_step | go_upon)
  go_ret
  exact ⟨rfl, (But.of ((But.refl _ _ _).alloc _)).trans (But.inner b4 o4)⟩

end Go.Proofs.Ytapfafibhjpkdaa
