/-
  Marks written over a list of nodes, and found again.
-/
import Derived.Test.YtcljppnakmeldaaRows
import Derived.Test.YtcljppnakmeldaaNode
import Derived.Test.YtcljppnakmeldaaText
namespace Go.Proofs.Ytcljppnakmeldaa
open Go.ChangeShapes Go.WideShapes Go.ChangeAt Go.RowKit

def mNode (k i : Nat) : NodeD := (mtext (k + 6 * i), ((k + 6 * i : Nat) : Int) + 1, ((k + 6 * i : Nat) : Int) + 1 + 1, ((k + 6 * i : Nat) : Int) + 1 + 1 + 1, ((k + 6 * i : Nat) : Int) + 1 + 1 + 1 + 1, ((((k + 6 * i : Nat) : Int) + 1 + 1 + 1 + 1 + 1) % 3 == 0))
def mNodes (k n : Nat) : List NodeD := (List.range n).map (mNode k)
theorem mNodes_len (k n : Nat) : (mNodes k n).length = n := by simp [mNodes]
theorem mNodes_get (k n i : Nat) (h : i < n) : (mNodes k n)[i]? = some (mNode k i) := by simp [mNodes, h]

set_option maxHeartbeats 4000000 in
theorem markNodeS (ps : List NodeD) (v : Value) (k lo hi : Nat) (w : World) (hv : NodeO w lo hi v ps) (hb : k + 6 * ps.length ≤ 1000000000000) :
    Calls Try.prog 29 #[v, .int .i64 (k : Int)] w fun e w' => e = .returned (.int .i64 ((k + 6 * ps.length : Nat) : Int)) ∧ NodeO w' lo hi v (mNodes k ps.length) ∧ But (blo v) (bhi v) w w' := by
  obtain ⟨ao, cap, hsl, _⟩ := own_form hv.1
  subst hsl
  go_enter Try.func29, Try.ntmps29
  go_wp2
  go_loopw [1, 5] (fun kk i wr => ∃ (j : Nat), j ≤ ps.length ∧ i = .int .i64 j ∧ kk = .int .i64 ((k + 6 * j : Nat) : Int) ∧ NodeO wr lo hi (.slice ao ps.length cap) (mix (mNodes k ps.length) ps j) ∧ But (blo (.slice ao ps.length cap)) (bhi (.slice ao ps.length cap)) w wr) (fun kk i _ => ps.length - (intOf i).toNat)
  case atStart => exact ⟨0, by omega, rfl, rfl, by rw [mix_zero]; exact hv, But.refl _ _ _⟩
  case round =>
    obtain ⟨j, hj, rfl, rfl, ho, hkp⟩ := hrel
    by_cases hlt : j < ps.length
    · obtain ⟨p, hp⟩ : ∃ p, ps[j]? = some p := ⟨_, List.getElem?_eq_getElem hlt⟩
      have hmg : (mix (mNodes k ps.length) ps j)[j]? = some p := by rw [mix_get _ _ _ (mNodes_len _ _) hlt]; exact hp
      have hml : ps.length = (mix (mNodes k ps.length) ps j).length := (mix_len _ _ _ (mNodes_len _ _) hj).symm
      obtain ⟨b, o, cap1, e, _⟩ := node_get ho.at hmg
      rw [← hml] at e
      cases e
      obtain ⟨g', cap', hfm, _⟩ : ∃ g cap', Value.slice (some ⟨b, o, none⟩) ps.length cap = .slice (some ⟨g, 0, none⟩) ps.length cap' ∧ True := by
        rcases ho.1.2 with ⟨hf, _⟩ | ⟨g, c2, cur, hf, _⟩
        · cases hf
        · rw [← hml] at hf; exact ⟨g, c2, hf, trivial⟩
      cases hfm
      have hkb : k + 6 * j + 6 ≤ 1000000000000 := by omega
      generalize hK : k + 6 * j = K at *
      have HK : Hid (k + 6 * j = K) := hK
      have HP : Hid _ := ho
      have HB : Hid _ := hkp
      have HM : Hid (ps.length = (mix (mNodes k ps.length) ps j).length ∧ (mix (mNodes k ps.length) ps j)[j]? = some p) := ⟨hml, hmg⟩
      clear hK ho hkp hv hml hmg
      go_wp2_with (go_at_call 60; refine (markText K (by omega) _).mono ?_; rintro e w' ⟨rfl, hk2⟩
                   have ho2 := NodeO.kept HP.out hk2
                   obtain ⟨d0, d1, d2, d3, d4, d5, dz⟩ := ho2.cells HM.out.2
                   have dz0 := dz (j * 6)
                   have dz1 := dz (j * 6 + 1)
                   have dz2 := dz (j * 6 + 2)
                   have dz3 := dz (j * 6 + 3)
                   have dz4 := dz (j * 6 + 4)
                   have dz5 := dz (j * 6 + 5)
                   obtain ⟨e1, e2, e3, e4, e5, d9⟩ := ho2.store HM.out.1 HM.out.2 (mtext K, (K : Int) + 1, (K : Int) + 1 + 1, (K : Int) + 1 + 1 + 1, (K : Int) + 1 + 1 + 1 + 1, (((K : Int) + 1 + 1 + 1 + 1 + 1) % 3 == 0))
                   have HS : Hid _ := d9
                   clear d9 dz ho2)
      have hK := HK.out
      have hmp : (mNodes k ps.length)[j]? = some (mtext K, (K : Int) + 1, (K : Int) + 1 + 1, (K : Int) + 1 + 1 + 1, (K : Int) + 1 + 1 + 1 + 1, (((K : Int) + 1 + 1 + 1 + 1 + 1) % 3 == 0)) := by
        rw [mNodes_get k _ j hlt, mNode, hK]
      have hst := mix_set _ _ j _ (mNodes_len k ps.length) hmp
      refine ⟨⟨j + 1, hlt, by go_num, by congr 1; omega, by rw [← hst]; exact HS.out, ?_⟩, by simp [intOf]; omega⟩
      exact ((((((HB.out.transK hk2).trans (but_set _ _ _ _ _ _)).trans (but_set _ _ _ _ _ _)).trans (but_set _ _ _ _ _ _)).trans (but_set _ _ _ _ _ _)).trans (but_set _ _ _ _ _ _)).trans (but_set _ _ _ _ _ _)
    · have hke : j = ps.length := by omega
      subst hke
      go_wp2
      go_ret
      refine ⟨rfl, ?_, hkp⟩
      rw [mix_all _ _ _ (mNodes_len _ _) rfl] at ho
      exact ho

set_option maxHeartbeats 4000000 in
theorem heldNodeS (n : Nat) (v : Value) (k : Nat) (w : World) (hv : NodeAt w v (mNodes k n)) (hb : k + 6 * n ≤ 1000000000000) :
    Calls Try.prog 30 #[v, .int .i64 (k : Int)] w fun e w' => e = .returned (.int .i64 ((k + 6 * n : Nat) : Int)) ∧ Kept w w' := by
  obtain ⟨ao, cap, hsl⟩ := row_nil hv
  rw [mNodes_len] at hsl
  subst hsl
  go_enter Try.func30, Try.ntmps30
  go_wp2
  go_loopw [1, 5] (fun kk i wr => ∃ (j : Nat), j ≤ n ∧ i = .int .i64 j ∧ kk = .int .i64 ((k + 6 * j : Nat) : Int) ∧ Kept w wr) (fun kk i _ => n - (intOf i).toNat)
  case atStart => exact ⟨0, by omega, rfl, rfl, But.refl _ _ _⟩
  case round =>
    obtain ⟨j, hj, rfl, rfl, hkp⟩ := hrel
    by_cases hlt : j < n
    · obtain ⟨b, o, cap1, e, c0, c1, c2, c3, c4, c5⟩ := node_get (hv.kept hkp) (mNodes_get k n j hlt)
      rw [mNodes_len] at e
      cases e
      have hkb : k + 6 * j + 6 ≤ 1000000000000 := by omega
      simp only [mNode] at c0 c1 c2 c3 c4 c5
      generalize hK : k + 6 * j = K at *
      have HK : Hid (k + 6 * j = K) := hK
      have HB : Hid _ := hkp
      have z1 : (0 : Int) ≤ (j : Int) := by omega
      have z2 : (j : Int) < (n : Int) := by omega
      clear hK hkp hv
      go_wp2_with fail
      go_region_held3 (fun w' => Kept wr w' ∧ w'.cell? ⟨b, o + j * 6, none⟩ = some (.string (mtext K)) ∧ w'.cell? ⟨b, o + j * 6 + 1, none⟩ = some (.int .i64 ((K : Int) + 1)) ∧ w'.cell? ⟨b, o + j * 6 + 2, none⟩ = some (.int .i64 ((K : Int) + 1 + 1)) ∧ w'.cell? ⟨b, o + j * 6 + 3, none⟩ = some (.int .i64 ((K : Int) + 1 + 1 + 1)) ∧ w'.cell? ⟨b, o + j * 6 + 4, none⟩ = some (.int .i64 ((K : Int) + 1 + 1 + 1 + 1)) ∧ w'.cell? ⟨b, o + j * 6 + 5, none⟩ = some (.bool ((((K : Int) + 1 + 1 + 1 + 1 + 1) % 3 == 0)))) (first | (refine ⟨?_, ?_, ?_, ?_, ?_, ?_, ?_⟩ <;> first | assumption | exact But.refl _ _ _ | exact (But.refl _ _ _).drew) | simp [go_sem, *])
        (first | (go_at_call 60; refine (markText K (by omega) _).mono ?_; rintro e w' ⟨rfl, hk2⟩; have c0 := Kept.cell hk2 c0; have c1 := Kept.cell hk2 c1; have c2 := Kept.cell hk2 c2; have c3 := Kept.cell hk2 c3; have c4 := Kept.cell hk2 c4; have c5 := Kept.cell hk2 c5; have hkk : Kept wr w' := ((But.refl _ _ wr).drew).trans hk2))
      go_wp2
      have hK := HK.out
      exact ⟨⟨j + 1, hlt, by go_num, by congr 1; omega, HB.out.trans hkk⟩, by simp [intOf]; omega⟩
    · have hke : j = n := by omega
      subst hke
      go_wp2
      go_ret
      exact ⟨rfl, hkp⟩

end Go.Proofs.Ytcljppnakmeldaa
