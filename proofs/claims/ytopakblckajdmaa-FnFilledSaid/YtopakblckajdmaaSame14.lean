/-
  Lists of numbers alike; the digits of a count, place by place.
-/
import Derived.Test.YtopakblckajdmaaFillX14
import Derived.Test.YtopakblckajdmaaFillS14
import Derived.Test.YtopakblckajdmaaDDraw14
namespace Go.Proofs.Ytopakblckajdmaa
open Go.ChangeShapes Go.WideShapes Go.ChangeAt Go.RowKit

set_option maxRecDepth 100000
set_option linter.unusedVariables false
set_option maxHeartbeats 2000000 in
theorem sameI (ps : List NumD) (v v' : Value) (w : World) (hv : NumAt w v ps) (hv' : NumAt w v' ps) (hn : ps.length ≤ 9000000000000000000) :
    Calls Try.prog 15 #[v, v'] w fun e w' => e = .returned (.bool true) ∧ Kept w w' := by
  obtain ⟨ao, cap, hsl⟩ := row_nil hv
  subst hsl
  obtain ⟨ao', cap', hsl⟩ := row_nil hv'
  subst hsl
  go_enter Try.func15, Try.ntmps15
  go_wp2
  go_loopw [13] (fun i wr => ∃ (k : Nat), k ≤ ps.length ∧ i = .int .i64 k ∧ Kept w wr) (fun i _ => ps.length - (intOf i).toNat)
  case atStart => exact ⟨0, by omega, rfl, But.refl _ _ _⟩
  case round =>
    obtain ⟨k, hk, rfl, hkp⟩ := hrel
    by_cases hlt : k < ps.length
    · obtain ⟨p, hp⟩ : ∃ p, ps[k]? = some p := ⟨_, List.getElem?_eq_getElem hlt⟩
      obtain ⟨b, o, cap1, e, c0⟩ := num_get (hv.kept hkp) hp
      cases e
      obtain ⟨b', o', cap1', e, c0'⟩ := num_get (hv'.kept hkp) hp
      cases e
      have HK : Hid _ := hkp
      clear hkp
      have z1 : (0 : Int) ≤ (k : Int) := by omega
      have z2 : (k : Int) < (ps.length : Int) := by omega
      go_wp2
      go_quiet (fail)
      go_wp2
      exact ⟨⟨k + 1, hlt, by go_num, HK.out.drewN _⟩, by simp [intOf]; omega⟩
    · have hke : k = ps.length := by omega
      subst hke
      go_wp2
      go_ret
      exact ⟨rfl, hkp⟩
theorem forgetC2 {P : Program} {c : Go.Code} {Q : Exit → Act → World → Prop} {a : Act} {W : World} (F : World → Prop) (hF : F W) (h : ∀ W', F W' → Code.wp P c Q a W') : Code.wp P c Q a W := h W hF
/-- Tiles that stand keep what stood. -/
def Off (l0 T : List Int) : Prop := T.length = l0.length ∧ ∀ i, i < l0.length → l0.getD i 0 ≠ -1 → T.getD i 0 = l0.getD i 0
theorem Off.set {l0 T : List Int} (h : Off l0 T) {k : Nat} (hk : k < (openL l0).length) (v : Int) : Off l0 (T.set (plc l0 k) v) := by
  refine ⟨by rw [List.length_set]; exact h.1, fun i hi h0 => ?_⟩
  have hp := plc_get hk
  rw [getD_set (by rw [h.1]; exact hp.2.1), if_neg (fun e => h0 (by rw [← e]; exact hp.2.2))]
  exact h.2 i hi h0
/-- The places behind the first so many have their digits. -/
def Digs (s n : Nat) (l0 T : List Int) (c : Nat) : Prop := ∀ j, j < (openL l0).length → (openL l0).length ≤ j + c → T.getD (plc l0 j) 0 = (dig s (openL l0).length n j : Nat)
theorem Digs.start (s n : Nat) (l0 T : List Int) : Digs s n l0 T 0 := fun j h1 h2 => by omega
theorem Digs.step {s n : Nat} {l0 T : List Int} {c : Nat} (hO : Off l0 T) (h : Digs s n l0 T c) (hc : c < (openL l0).length) : Digs s n l0 (T.set (plc l0 ((openL l0).length - 1 - c)) ((n / s ^ c % s : Nat) : Int)) (c + 1) := by
  intro j h1 h2
  have hk : (openL l0).length - 1 - c < (openL l0).length := by omega
  have hp := plc_get hk
  rw [getD_set (by rw [hO.1]; exact hp.2.1)]
  by_cases e : j = (openL l0).length - 1 - c
  · subst e
    rw [if_pos rfl]
    unfold dig
    rw [show (openL l0).length - 1 - ((openL l0).length - 1 - c) = c by omega]
  · rw [if_neg (plc_ne hk h1 (fun e' => e e'.symm))]
    exact h j h1 (by omega)
theorem Digs.done {s n : Nat} {l0 T : List Int} (hO : Off l0 T) (h : Digs s n l0 T (openL l0).length) : T = nthL s l0 n := by
  apply List.ext_getElem?
  intro i
  by_cases hi : i < l0.length
  · rw [get_getD (by rw [hO.1]; exact hi), get_getD (by rw [nthL_len]; exact hi)]
    congr 1
    by_cases h0 : l0.getD i 0 = -1
    · obtain ⟨k, hk, rfl⟩ := plc_of hi h0
      rw [nthL_plc hk, h k hk (by omega)]
    · rw [nthL_get hi, if_neg h0, hO.2 i hi h0]
  · rw [List.getElem?_eq_none (by rw [hO.1]; omega), List.getElem?_eq_none (by rw [nthL_len]; omega)]

end Go.Proofs.Ytopakblckajdmaa
