/-
  Lists of floats marked, and their marks found again.
-/
import Derived.Test.YtghmnhohdbombaaFlt
namespace Go.Proofs.Ytghmnhohdbombaa
open Go.ChangeShapes Go.WideShapes Go.ChangeAt Go.RowKit Ieee

/-- A small whole number as a float. -/
def fk (k : Nat) : Nat := floatOfInt .f64 (k : Int)
theorem fk_num (k : Nat) : nanB (fk k) = false := by
  have : fk k = double.write (.number (decide ((k : Int) < 0)) (k : Int).natAbs 0) := rfl
  rw [this]
  exact (write_nan _ rfl).1
theorem fk_eq (k : Nat) : (FloatKind.f64.format.order (fk k) (fk k) != some Ordering.eq) = false := by rw [order_ne, fk_num]

def mFlt (k n : Nat) : List FltD := (List.range n).map fun i => fk (k + i)
theorem mFlt_len (k n : Nat) : (mFlt k n).length = n := by simp [mFlt]
theorem mFlt_get (k n i : Nat) (h : i < n) : (mFlt k n)[i]? = some (fk (k + i)) := by simp [mFlt, h]

set_option maxHeartbeats 2000000 in
theorem markFltS (ps : List FltD) (v : Value) (k lo hi : Nat) (w : World) (hv : FltO w lo hi v ps) (hb : k + ps.length ≤ 1000000000000) :
    Calls Try.prog 20 #[v, .int .i64 (k : Int)] w fun e w' => e = .returned (.int .i64 ((k + ps.length : Nat) : Int)) ∧ FltO w' lo hi v (mFlt k ps.length) ∧ But (blo v) (bhi v) w w' := by
  obtain ⟨ao, cap, hsl, _⟩ := own_form hv.1
  subst hsl
  go_enter Try.func20, Try.ntmps20
  go_wp2
  go_loopw [1, 5] (fun kk i wr => ∃ (j : Nat), j ≤ ps.length ∧ i = .int .i64 j ∧ kk = .int .i64 ((k + j : Nat) : Int) ∧ FltO wr lo hi (.slice ao ps.length cap) (mix (mFlt k ps.length) ps j) ∧ But (blo (.slice ao ps.length cap)) (bhi (.slice ao ps.length cap)) w wr) (fun kk i _ => ps.length - (intOf i).toNat)
  case atStart => exact ⟨0, by omega, rfl, rfl, by rw [mix_zero]; exact hv, But.refl _ _ _⟩
  case round =>
    obtain ⟨j, hj, rfl, rfl, ho, hkp⟩ := hrel
    by_cases hlt : j < ps.length
    · obtain ⟨p, hp⟩ : ∃ p, ps[j]? = some p := ⟨_, List.getElem?_eq_getElem hlt⟩
      have hmg : (mix (mFlt k ps.length) ps j)[j]? = some p := by rw [mix_get _ _ _ (mFlt_len _ _) hlt]; exact hp
      have hml : ps.length = (mix (mFlt k ps.length) ps j).length := (mix_len _ _ _ (mFlt_len _ _) hj).symm
      obtain ⟨b, o, cap1, e, _⟩ := flt_get ho.at hmg
      rw [← hml] at e
      cases e
      obtain ⟨g', cap', hfm, _⟩ : ∃ g cap', Value.slice (some ⟨b, o, none⟩) ps.length cap = .slice (some ⟨g, 0, none⟩) ps.length cap' ∧ True := by
        rcases ho.1.2 with ⟨hf, _⟩ | ⟨g, c2, cur, hf, _⟩
        · cases hf
        · rw [← hml] at hf; exact ⟨g, c2, hf, trivial⟩
      cases hfm
      have hkb : k + j + 1 ≤ 1000000000000 := by omega
      obtain ⟨d0, dz⟩ := ho.cells hmg
      have dz0 := dz j
      have d9 := ho.set hml hmg (fk (k + j))
      have HS : Hid _ := d9
      have HB : Hid _ := hkp
      clear d9 dz ho hkp hv hml hmg
      go_wp2
      have hst := mix_set _ _ j _ (mFlt_len k ps.length) (mFlt_get k _ j hlt)
      refine ⟨⟨j + 1, hlt, by go_num, by congr 1, ?_, ?_⟩, by simp [intOf]; omega⟩
      · rw [← hst]
        exact HS.out
      · exact HB.out.trans (but_set _ _ _ _ _ _)
    · have hke : j = ps.length := by omega
      subst hke
      go_wp2
      go_ret
      refine ⟨rfl, ?_, hkp⟩
      rw [mix_all _ _ _ (mFlt_len _ _) rfl] at ho
      exact ho

set_option maxHeartbeats 2000000 in
theorem heldFltS (n : Nat) (v : Value) (k : Nat) (w : World) (hv : FltAt w v (mFlt k n)) (hb : k + n ≤ 1000000000000) :
    Calls Try.prog 21 #[v, .int .i64 (k : Int)] w fun e w' => e = .returned (.int .i64 ((k + n : Nat) : Int)) ∧ Kept w w' := by
  obtain ⟨ao, cap, hsl⟩ := row_nil hv
  rw [mFlt_len] at hsl
  subst hsl
  go_enter Try.func21, Try.ntmps21
  go_wp2
  go_loopw [1, 5] (fun kk i wr => ∃ (j : Nat), j ≤ n ∧ i = .int .i64 j ∧ kk = .int .i64 ((k + j : Nat) : Int) ∧ Kept w wr) (fun kk i _ => n - (intOf i).toNat)
  case atStart => exact ⟨0, by omega, rfl, rfl, But.refl _ _ _⟩
  case round =>
    obtain ⟨j, hj, rfl, rfl, hkp⟩ := hrel
    by_cases hlt : j < n
    · obtain ⟨b, o, cap1, e, c0⟩ := flt_get (hv.kept hkp) (mFlt_get k n j hlt)
      rw [mFlt_len] at e
      cases e
      have z1 : (0 : Int) ≤ (j : Int) := by omega
      have z2 : (j : Int) < (n : Int) := by omega
      have HB : Hid _ := hkp
      clear hkp hv
      have hd9 : (FloatKind.f64.format.order (fk (k + j)) (floatOfInt FloatKind.f64 ((k : Int) + (j : Int))) != some Ordering.eq) = false := fk_eq (k + j)
      go_wp2
      exact ⟨⟨j + 1, hlt, by go_num, by congr 1, HB.out⟩, by simp [intOf]; omega⟩
    · have hke : j = n := by omega
      subst hke
      go_wp2
      go_ret
      exact ⟨rfl, hkp⟩

end Go.Proofs.Ytghmnhohdbombaa
