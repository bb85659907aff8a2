/-
  Lists of flags marked.
-/
import Derived.Test.YtpnplfngglfpoaaFlag
namespace Go.Proofs.Ytpnplfngglfpoaa
open Go.ChangeShapes Go.WideShapes Go.ChangeAt Go.RowKit

/-- The mark number m of a flag. -/
def flagAt (m : Nat) : Bool := (m : Int).tmod 3 == 0

def mFlag (k n : Nat) : List FlagD := (List.range n).map fun i => flagAt (k + i)
theorem mFlag_len (k n : Nat) : (mFlag k n).length = n := by simp [mFlag]
theorem mFlag_get (k n i : Nat) (h : i < n) : (mFlag k n)[i]? = some (flagAt (k + i)) := by simp [mFlag, h]

set_option maxHeartbeats 2000000 in
theorem markFlagS (ps : List FlagD) (v : Value) (k lo hi : Nat) (w : World) (hv : FlagO w lo hi v ps) (hb : k + ps.length ≤ 1000000000000) :
    Calls Try.prog 39 #[v, .int .i64 (k : Int)] w fun e w' => e = .returned (.int .i64 ((k + ps.length : Nat) : Int)) ∧ FlagO w' lo hi v (mFlag k ps.length) ∧ But (blo v) (bhi v) w w' := by
  obtain ⟨ao, cap, hsl, _⟩ := own_form hv.1
  subst hsl
  go_enter Try.func39, Try.ntmps39
  go_wp2
  go_loopw [1, 5] (fun kk i wr => ∃ (j : Nat), j ≤ ps.length ∧ i = .int .i64 j ∧ kk = .int .i64 ((k + j : Nat) : Int) ∧ FlagO wr lo hi (.slice ao ps.length cap) (mix (mFlag k ps.length) ps j) ∧ But (blo (.slice ao ps.length cap)) (bhi (.slice ao ps.length cap)) w wr) (fun kk i _ => ps.length - (intOf i).toNat)
  case atStart => exact ⟨0, by omega, rfl, rfl, by rw [mix_zero]; exact hv, But.refl _ _ _⟩
  case round =>
    obtain ⟨j, hj, rfl, rfl, ho, hkp⟩ := hrel
    by_cases hlt : j < ps.length
    · obtain ⟨p, hp⟩ : ∃ p, ps[j]? = some p := ⟨_, List.getElem?_eq_getElem hlt⟩
      have hmg : (mix (mFlag k ps.length) ps j)[j]? = some p := by rw [mix_get _ _ _ (mFlag_len _ _) hlt]; exact hp
      have hml : ps.length = (mix (mFlag k ps.length) ps j).length := (mix_len _ _ _ (mFlag_len _ _) hj).symm
      obtain ⟨b, o, cap1, e, _⟩ := flag_get ho.at hmg
      rw [← hml] at e
      cases e
      obtain ⟨g', cap', hfm, _⟩ : ∃ g cap', Value.slice (some ⟨b, o, none⟩) ps.length cap = .slice (some ⟨g, 0, none⟩) ps.length cap' ∧ True := by
        rcases ho.1.2 with ⟨hf, _⟩ | ⟨g, c2, cur, hf, _⟩
        · cases hf
        · rw [← hml] at hf; exact ⟨g, c2, hf, trivial⟩
      cases hfm
      have hkb : k + j + 1 ≤ 1000000000000 := by omega
      obtain ⟨d0, dz⟩ := ho.cells hmg
      have dz0 := dz j
      have d9 := ho.set hml hmg (flagAt (k + j))
      have HS : Hid _ := d9
      have HB : Hid _ := hkp
      clear d9 dz ho hkp hv hml hmg
      have ef : (((k : Int) + (j : Int)).tmod 3 == 0) = flagAt (k + j) := rfl
      go_wp2
      have hst := mix_set _ _ j _ (mFlag_len k ps.length) (mFlag_get k _ j hlt)
      refine ⟨⟨j + 1, hlt, by go_num, by congr 1, ?_, ?_⟩, by simp [intOf]; omega⟩
      · rw [← hst]
        exact HS.out
      · exact HB.out.trans (but_set _ _ _ _ _ _)
    · have hke : j = ps.length := by omega
      subst hke
      go_wp2
      go_ret
      refine ⟨rfl, ?_, hkp⟩
      rw [mix_all _ _ _ (mFlag_len _ _) rfl] at ho
      exact ho


end Go.Proofs.Ytpnplfngglfpoaa
