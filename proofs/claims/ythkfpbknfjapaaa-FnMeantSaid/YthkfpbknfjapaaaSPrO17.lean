/-
  What a press does to the keys that are down, in the specification.
-/
import Derived.Test.YthkfpbknfjapaaaHeldP17
import Derived.Test.YthkfpbknfjapaaaPutO17
namespace Go.Proofs.Ythkfpbknfjapaaa
open Go.ChangeShapes Go.WideShapes Go.ChangeAt Go.RowKit

set_option maxRecDepth 100000
set_option linter.unusedVariables false

set_option maxHeartbeats 4000000 in
theorem spressO (l : List Int) (t0 ky : Int) (dn : Bool) (ao : Option Addr) (cap : Nat) (w : World) (lo hi : Nat) (ho0 : NumO w lo hi (.slice ao l.length cap) l) (hlo : lo ≤ w.heap.size) (hcap : l.length ≤ cap ∧ cap ≤ 9223372036854775807) (hn : l.length ≤ 1000000) :
    Calls Try.prog 52 #[.slice ao l.length cap, .agg #[.int .i64 t0, .int .i64 ky, .bool dn]] w fun e w' => ∃ ao' cap', e = .returned (.slice ao' (pressL l (t0, ky, dn)).length cap') ∧ NumO w' lo w'.heap.size (.slice ao' (pressL l (t0, ky, dn)).length cap') (pressL l (t0, ky, dn)) ∧ ((pressL l (t0, ky, dn)).length ≤ cap' ∧ cap' ≤ 9223372036854775807) ∧ Kept w w' := by
  have hv := ho0.at
  have HO0 : Hid (NumO w lo hi (.slice ao l.length cap) l) := ho0
  have HLO : Hid (lo ≤ w.heap.size) := hlo
  clear ho0
  cases dn with
  | true =>
    obtain ⟨R, hR⟩ : ∃ R, putL l ky = R := ⟨_, rfl⟩
    have HP : Hid (∀ W, Kept w W → Calls Try.prog 92 #[.slice ao l.length cap, .int .i64 ky] W fun e w' => ∃ ao' cap', e = .returned (.slice ao' R.length cap') ∧ NumO w' lo w'.heap.size (.slice ao' R.length cap') R ∧ (R.length ≤ cap' ∧ cap' ≤ 9223372036854775807) ∧ Kept W w') := fun W k => by rw [← hR]; exact sputO l ky ao cap W lo hi (HO0.out.kept k) (by have := k.size; omega) hcap hn
    rw [show pressL l (t0, ky, true) = R by unfold pressL; exact hR]
    clear hR
    go_enter Try.func52, Try.ntmps52
    repeat (first | (go_at_call 92; refine (HP.out _ ((But.refl _ _ _).alloc _)).mono ?_; rintro e w1 ⟨a1, p1, rfl, h1, h2, k1⟩; dsimp only) | go_values | go_skip | go_guarded | go_step | go_upon)
    go_ret
    exact ⟨_, _, rfl, h1, h2, ((But.refl _ _ _).alloc _).trans k1⟩
  | false =>
    obtain ⟨RF, hRF⟩ : ∃ R, (l.filter fun k => k != ky) = R := ⟨_, rfl⟩
    rw [show pressL l (t0, ky, false) = RF by rw [← hRF]; rfl]
    have HRF : Hid ((l.filter fun k => k != ky) = RF) := hRF
    clear hRF
    have L0 := Loc.new w [.int .i64 t0, .int .i64 ky, .bool false] 82
    have K0 : Kept w (w.alloc (.cells #[.int .i64 t0, .int .i64 ky, .bool false] 82)) := (But.refl _ _ _).alloc _
    have s0 : (w.alloc (.cells #[.int .i64 t0, .int .i64 ky, .bool false] 82)).heap.size = w.heap.size + 1 := by simp
    go_enter Try.func52, Try.ntmps52
    repeat (first | go_values | go_skip | go_guarded | go_step | go_upon)
    obtain ⟨W0, hW0⟩ : ∃ W0, w.alloc (.cells #[.int .i64 t0, .int .i64 ky, .bool false] 82) = W0 := ⟨_, rfl⟩
    have L0 : Loc W0 w.heap.size [.int .i64 t0, .int .i64 ky, .bool false] := by rw [← hW0]; exact L0
    rw [hW0] at K0 s0 ⊢
    clear hW0
    have HL : Hid (Loc W0 w.heap.size [.int .i64 t0, .int .i64 ky, .bool false]) := L0
    clear L0
    go_loopw [5, 16] (fun ov i wr => ∃ (k : Nat), k ≤ l.length ∧ i = .int .i64 k ∧ NumO wr W0.heap.size wr.heap.size ov ((l.take k).filter fun k => k != ky) ∧ Kept W0 wr) (fun ov i _ => l.length - (intOf i).toNat)
    case atStart => exact ⟨0, by omega, rfl, nil_num _ _ _, But.refl _ _ _⟩
    case round =>
      obtain ⟨k, hk, rfl, ho, hkp⟩ := hrel
      have y1 := (HL.out.kept hkp).cell 1 rfl
      have y1l := (HL.out.kept hkp).lt
      by_cases hlt : k < l.length
      · obtain ⟨p, hp⟩ : ∃ p : Int, l[k]? = some p := ⟨_, List.getElem?_eq_getElem hlt⟩
        obtain ⟨g, o, cap1, ee, c0⟩ := num_get (hv.kept (K0.trans hkp)) hp
        cases ee
        have HF := filt_more (p := fun k => k != ky) hp
        have hle : ((l.take k).filter fun k => k != ky).length ≤ l.length := Nat.le_trans (List.length_filter_le _ _) (by rw [List.length_take]; omega)
        obtain ⟨A, hA⟩ : ∃ A, ((l.take k).filter fun k => k != ky) = A := ⟨_, rfl⟩
        rw [hA] at ho HF hle
        have HF : Hid (((l.take (k + 1)).filter fun k => k != ky) = A ++ if (p != ky) = true then [p] else []) := HF
        obtain ⟨a5, p5, hf⟩ := ho.form
        subst hf
        have HO : Hid (NumO wr W0.heap.size wr.heap.size (.slice a5 A.length p5) A) := ho
        have HK : Hid (Kept W0 wr) := hkp
        have s1 := hkp.size
        clear hA hp hkp ho
        cases hpk : (p != ky) with
        | false =>
          repeat (first | go_values | go_skip | go_guarded | go_step | go_upon)
          refine ⟨⟨k + 1, hlt, by go_num, ?_, HK.out⟩, by simp [intOf]; omega⟩
          rw [HF.out, hpk]
          simpa using HO.out
        | true =>
          repeat (first | (at_builtin; refine forgetL (fun w' => w' = _) rfl ?_) | go_values | go_skip | go_guarded | go_step | go_upon)
          intro W7 hW7
          rw [hW7]
          clear hW7 W7
          refine app_num rfl _ _ rfl (lo := W0.heap.size) (hi := wr.heap.size) rfl (HO.out.kept ((But.refl _ _ wr).alloc _)) rfl (one_num (p := p) (Loc.new wr [.int .i64 p] 3)) rfl (by simp; omega) (by simp; omega) ?_
          intro v2 w2 o2 b2
          have HO2 : Hid (NumO w2 W0.heap.size w2.heap.size v2 (A ++ [p])) := o2
          have HK2 : Hid (Kept W0 w2) := But.onto (HK.out.alloc _) b2 (Nat.le_refl _)
          clear o2 b2
          repeat (first | go_values | go_skip | go_guarded | go_step | go_upon)
          refine ⟨⟨k + 1, hlt, by go_num, ?_, HK2.out⟩, by simp [intOf]; omega⟩
          rw [HF.out, hpk]
          simpa using HO2.out
      · have hke : k = l.length := by omega
        subst hke
        rw [List.take_length, HRF.out] at ho
        obtain ⟨a5, p5, hf⟩ := ho.form
        subst hf
        have HO : Hid (NumO wr W0.heap.size wr.heap.size (.slice a5 RF.length p5) RF) := ho
        have HK : Hid (Kept W0 wr) := hkp
        clear hkp ho
        go_wp2
        go_ret
        exact ⟨_, _, rfl, HO.out.mono (by have := HLO.out; omega) (Nat.le_refl _), cap_num HO.out, K0.trans HK.out⟩

end Go.Proofs.Ythkfpbknfjapaaa
