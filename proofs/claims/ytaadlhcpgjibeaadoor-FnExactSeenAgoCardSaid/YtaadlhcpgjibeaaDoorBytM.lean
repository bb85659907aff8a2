/-
  Lists of bytes weighed, marked, and their marks found again.
-/
import Derived.Test.YtaadlhcpgjibeaaDoorByt
import Derived.Test.YtaadlhcpgjibeaaDoorQuiet
namespace Go.Proofs.YtaadlhcpgjibeaaDoor
open Go.ChangeShapes Go.WideShapes Go.ChangeAt Go.RowKit
set_option maxRecDepth 100000

theorem szBytS (ps : List BytD) (v : Value) (left : Int) (w : World) (hv : BytAt w v ps) (hl : 0 ≤ left) (hm : left ≤ 1048576) (hn : ps.length ≤ 9223372036854775807) :
    Calls Tryd.prog 73 #[v, .int .i64 left] w fun e w' => e = .returned (.int .i64 (leftOf left ps.length)) ∧ Kept w w' := by
  obtain ⟨ao, cap, hsl⟩ := row_nil hv
  subst hsl
  by_cases hc : left < (ps.length : Int)
  · have hc2 : decide (left - (ps.length : Int) < 0) = true := by simp; omega
    go_enter Tryd.func73, Tryd.ntmps73
    go_wp2
    go_ret
    exact ⟨ret_int (leftOf_no (by omega)).symm, But.refl _ _ _⟩
  · have hc2 : decide (left - (ps.length : Int) < 0) = false := by simp; omega
    go_enter Tryd.func73, Tryd.ntmps73
    go_wp2
    go_ret
    exact ⟨ret_int (by rw [leftOf_yes (by omega)]), But.refl _ _ _⟩

theorem byt_mod (n : Nat) : ((UInt8.ofNat n).toNat : Int) = (n : Int) % 256 := by
  rw [UInt8.toNat_ofNat']
  omega

def mByt (k n : Nat) : List BytD := (List.range n).map fun i => UInt8.ofNat (k + i)
theorem mByt_len (k n : Nat) : (mByt k n).length = n := by simp [mByt]
theorem mByt_get (k n i : Nat) (h : i < n) : (mByt k n)[i]? = some (UInt8.ofNat (k + i)) := by simp [mByt, h]

set_option maxHeartbeats 2000000 in
theorem markBytS (ps : List BytD) (v : Value) (k lo hi : Nat) (w : World) (hv : BytO w lo hi v ps) (hb : k + ps.length ≤ 1000000000000) :
    Calls Tryd.prog 71 #[v, .int .i64 (k : Int)] w fun e w' => e = .returned (.int .i64 ((k + ps.length : Nat) : Int)) ∧ BytO w' lo hi v (mByt k ps.length) ∧ But (blo v) (bhi v) w w' := by
  obtain ⟨ao, cap, hsl, _⟩ := own_form hv.1
  subst hsl
  go_enter Tryd.func71, Tryd.ntmps71
  go_wp2
  go_loopw [1, 5] (fun kk i wr => ∃ (j : Nat), j ≤ ps.length ∧ i = .int .i64 j ∧ kk = .int .i64 ((k + j : Nat) : Int) ∧ BytO wr lo hi (.slice ao ps.length cap) (mix (mByt k ps.length) ps j) ∧ But (blo (.slice ao ps.length cap)) (bhi (.slice ao ps.length cap)) w wr) (fun kk i _ => ps.length - (intOf i).toNat)
  case atStart => exact ⟨0, by omega, rfl, rfl, by rw [mix_zero]; exact hv, But.refl _ _ _⟩
  case round =>
    obtain ⟨j, hj, rfl, rfl, ho, hkp⟩ := hrel
    by_cases hlt : j < ps.length
    · obtain ⟨p, hp⟩ : ∃ p, ps[j]? = some p := ⟨_, List.getElem?_eq_getElem hlt⟩
      have hmg : (mix (mByt k ps.length) ps j)[j]? = some p := by rw [mix_get _ _ _ (mByt_len _ _) hlt]; exact hp
      have hml : ps.length = (mix (mByt k ps.length) ps j).length := (mix_len _ _ _ (mByt_len _ _) hj).symm
      obtain ⟨b, o, cap1, e, _⟩ := byt_get ho.at hmg
      rw [← hml] at e
      cases e
      obtain ⟨g', cap', hfm, _⟩ : ∃ g cap', Value.slice (some ⟨b, o, none⟩) ps.length cap = .slice (some ⟨g, 0, none⟩) ps.length cap' ∧ True := by
        rcases ho.1.2 with ⟨hf, _⟩ | ⟨g, c2, cur, hf, _⟩
        · cases hf
        · rw [← hml] at hf; exact ⟨g, c2, hf, trivial⟩
      cases hfm
      have hkb : k + j + 1 ≤ 1000000000000 := by omega
      obtain ⟨d0, dz⟩ := ho.cells hmg
      have dz0 := dz j
      have d9 := ho.set hml hmg (UInt8.ofNat (k + j))
      have HS : Hid _ := d9
      have HB : Hid _ := hkp
      clear d9 dz ho hkp hv hml hmg
      go_wp2
      have hst := mix_set _ _ j _ (mByt_len k ps.length) (mByt_get k _ j hlt)
      refine ⟨⟨j + 1, hlt, by go_num, by congr 1, ?_, ?_⟩, by simp [intOf]; omega⟩
      · rw [← hst]
        have e9 : (((UInt8.ofNat (k + j)).toNat : Nat) : Int) = ((k : Int) + j) % 256 := by rw [byt_mod]; omega
        rw [← e9]
        exact HS.out
      · exact HB.out.trans (but_set _ _ _ _ _ _)
    · have hke : j = ps.length := by omega
      subst hke
      go_wp2
      go_ret
      refine ⟨rfl, ?_, hkp⟩
      rw [mix_all _ _ _ (mByt_len _ _) rfl] at ho
      exact ho

set_option maxHeartbeats 2000000 in
theorem heldBytS (n : Nat) (v : Value) (k : Nat) (w : World) (hv : BytAt w v (mByt k n)) (hb : k + n ≤ 1000000000000) :
    Calls Tryd.prog 72 #[v, .int .i64 (k : Int)] w fun e w' => e = .returned (.int .i64 ((k + n : Nat) : Int)) ∧ Kept w w' := by
  obtain ⟨ao, cap, hsl⟩ := row_nil hv
  rw [mByt_len] at hsl
  subst hsl
  go_enter Tryd.func72, Tryd.ntmps72
  go_wp2
  go_loopw [1, 5] (fun kk i wr => ∃ (j : Nat), j ≤ n ∧ i = .int .i64 j ∧ kk = .int .i64 ((k + j : Nat) : Int) ∧ Kept w wr) (fun kk i _ => n - (intOf i).toNat)
  case atStart => exact ⟨0, by omega, rfl, rfl, But.refl _ _ _⟩
  case round =>
    obtain ⟨j, hj, rfl, rfl, hkp⟩ := hrel
    by_cases hlt : j < n
    · obtain ⟨b, o, cap1, e, c0⟩ := byt_get (hv.kept hkp) (mByt_get k n j hlt)
      rw [mByt_len] at e
      cases e
      have z1 : (0 : Int) ≤ (j : Int) := by omega
      have e9 : ((UInt8.ofNat (k + j)).toNat : Int) = ((k : Int) + j) % 256 := by rw [byt_mod]; omega
      rw [e9] at c0
      have z2 : (j : Int) < (n : Int) := by omega
      have HB : Hid _ := hkp
      clear hkp hv
      go_wp2
      exact ⟨⟨j + 1, hlt, by go_num, by congr 1, HB.out⟩, by simp [intOf]; omega⟩
    · have hke : j = n := by omega
      subst hke
      go_wp2
      go_ret
      exact ⟨rfl, hkp⟩

end Go.Proofs.YtaadlhcpgjibeaaDoor
