/-
  Marks written over a list of marks.
-/
import Derived.Test.YtpnplfngglfpoaaMarkF
import Derived.Test.YtpnplfngglfpoaaText
namespace Go.Proofs.Ytpnplfngglfpoaa
open Go.ChangeShapes Go.WideShapes Go.ChangeAt Go.RowKit

set_option maxRecDepth 100000
set_option linter.unusedVariables false

theorem MarkO.set0 {w : World} {lo hi g cap m : Nat} {ps : List MarkD} (h : MarkO w lo hi (.slice (some ⟨g, 0, none⟩) m cap) ps) (hn : m = ps.length) {i : Nat} {p : MarkD} (hp : ps[i]? = some p) (x : Int) :
    MarkO (w.setCell ⟨g, i * 2, none⟩ (.int .i64 x)) lo hi (.slice (some ⟨g, 0, none⟩) m cap) (ps.set i (x, p.2)) := by
  subst hn
  have := RowO.set h (2 * i + 0) (.int .i64 x)
  unfold MarkO
  rw [List.length_set, Nat.mul_comm i 2]
  rw [flat_set 2 markC markC_len ps i 0 p (x, p.2) (.int .i64 x) hp (by omega) rfl] at this
  simpa using this
theorem MarkO.set1 {w : World} {lo hi g cap m : Nat} {ps : List MarkD} (h : MarkO w lo hi (.slice (some ⟨g, 0, none⟩) m cap) ps) (hn : m = ps.length) {i : Nat} {p : MarkD} (hp : ps[i]? = some p) (x : ByteArray) :
    MarkO (w.setCell ⟨g, i * 2 + 1, none⟩ (.string x)) lo hi (.slice (some ⟨g, 0, none⟩) m cap) (ps.set i (p.1, x)) := by
  subst hn
  have := RowO.set h (2 * i + 1) (.string x)
  unfold MarkO
  rw [List.length_set, Nat.mul_comm i 2]
  rw [flat_set 2 markC markC_len ps i 1 p (p.1, x) (.string x) hp (by omega) rfl] at this
  simpa using this
theorem markT (K : Nat) (h : K + 1 ≤ 1000000000000) (W : World) : Calls Try.prog 77 #[.int .i64 ((K : Int) + 1)] W fun e w' => e = .returned (.string (mtext (K + 1))) ∧ Kept W w' := markText (K + 1) h W
set_option maxHeartbeats 4000000 in
theorem markMarkS (ps : List MarkD) (v : Value) (k lo hi : Nat) (w : World) (hv : MarkO w lo hi v ps) (hb : k + 2 * ps.length ≤ 1000000000) :
    Calls Try.prog 72 #[v, .int .i64 (k : Int)] w fun e w' => e = .returned (.int .i64 ((k + 2 * ps.length : Nat) : Int)) ∧ But lo hi w w' := by
  obtain ⟨ao, cap, hsl, _⟩ := own_form hv.1
  subst hsl
  go_enter Try.func72, Try.ntmps72
  go_wp2
  go_loopw [1, 5] (fun kk i wr => ∃ (j : Nat) (ys : List MarkD), j ≤ ps.length ∧ i = .int .i64 j ∧ kk = .int .i64 ((k + 2 * j : Nat) : Int) ∧ ys.length = ps.length ∧ MarkO wr lo hi (.slice ao ps.length cap) ys ∧ But lo hi w wr) (fun kk i _ => ps.length - (intOf i).toNat)
  case atStart => exact ⟨0, ps, by omega, rfl, rfl, rfl, hv, But.refl _ _ _⟩
  case round =>
    obtain ⟨j, ys, hj, rfl, rfl, hyl, ho, hkp⟩ := hrel
    by_cases hlt : j < ps.length
    · obtain ⟨y, hy⟩ : ∃ y, ys[j]? = some y := ⟨_, List.getElem?_eq_getElem (by omega)⟩
      obtain ⟨b, o, cap1, e, _⟩ := mark_get ho.at hy
      rw [hyl] at e
      cases e
      obtain ⟨g', cap', hfm, _⟩ : ∃ g cap', Value.slice (some ⟨b, o, none⟩) ps.length cap = .slice (some ⟨g, 0, none⟩) ps.length cap' ∧ True := by
        rcases ho.1.2 with ⟨hf, _⟩ | ⟨g, c2, cur, hf, _⟩
        · cases hf
        · rw [hyl] at hf; exact ⟨g, c2, hf, trivial⟩
      cases hfm
      have hkb : k + 2 * j + 2 ≤ 1000000000 := by omega
      generalize hK : k + 2 * j = K at *
      have HK : Hid (k + 2 * j = K) := hK
      have o1 := ho.set0 hyl.symm hy (K : Int)
      have y1 : (ys.set j ((K : Int), y.2))[j]? = some ((K : Int), y.2) := by rw [List.getElem?_set_self (by omega)]
      have l1 : ps.length = (ys.set j ((K : Int), y.2)).length := by simp [hyl]
      obtain ⟨d0, d1, dz⟩ := ho.cells hy
      have dz0 := dz (j * 2)
      have MT : Hid (∀ W, Calls Try.prog 77 #[.int .i64 ((K : Int) + 1)] W fun e w' => e = .returned (.string (mtext (K + 1))) ∧ Kept W w') := fun W => markT K (by omega) W
      have B1 : But lo hi w (wr.setCell ⟨b, j * 2, none⟩ (.int .i64 (K : Int))) := hkp.trans (But.inner (but_set wr b ps.length cap (j * 2) (.int .i64 (K : Int))) ho)
      have HO1 : Hid (MarkO (wr.setCell ⟨b, j * 2, none⟩ (.int .i64 (K : Int))) lo hi (.slice (some ⟨b, 0, none⟩) ps.length cap) (ys.set j ((K : Int), y.2))) := o1
      have HY1 : Hid ((ys.set j ((K : Int), y.2))[j]? = some ((K : Int), y.2) ∧ ps.length = (ys.set j ((K : Int), y.2)).length) := ⟨y1, l1⟩
      have HB1 : Hid (But lo hi w (wr.setCell ⟨b, j * 2, none⟩ (.int .i64 (K : Int)))) := B1
      clear hK o1 y1 l1 B1 dz ho hkp hv hy
      repeat (first
        | (go_at_call 77; refine (MT.out _).mono ?_
           rintro e w2 ⟨rfl, k2⟩
           have HO2 : Hid (MarkO w2 lo hi (.slice (some ⟨b, 0, none⟩) ps.length cap) (ys.set j ((K : Int), y.2))) := HO1.out.kept k2
           have HB2 : Hid (But lo hi w w2) := HB1.out.transK k2
           obtain ⟨e0, e1, ez⟩ := HO2.out.cells HY1.out.1
           have ez1 := ez (j * 2 + 1)
           clear ez k2
           dsimp only)
        | go_values | go_skip | go_guarded | go_step | go_upon)
      have hK := HK.out
      refine ⟨⟨j + 1, (ys.set j ((K : Int), y.2)).set j ((K : Int), mtext (K + 1)), hlt, by go_num, by congr 1; omega, by simp [hyl], ?_, ?_⟩, by simp [intOf]; omega⟩
      · exact HO2.out.set1 HY1.out.2 HY1.out.1 _
      · exact HB2.out.trans (But.inner (but_set _ _ _ _ _ _) HO2.out)
    · have hke : j = ps.length := by omega
      subst hke
      go_wp2
      go_ret
      exact ⟨rfl, hkp⟩

end Go.Proofs.Ytpnplfngglfpoaa
