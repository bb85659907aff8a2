/-
  Lists of texts: how they lie in memory, and that alike ones are found alike.
-/
import Derived.Test.YtaofilinejanjaaDoorRows
import Derived.Test.YtaofilinejanjaaDoorBase
import Derived.Test.YtaofilinejanjaaDoorText
import Derived.Deep.QuietTactic
namespace Go.Proofs.YtaofilinejanjaaDoor
open Go.ChangeShapes Go.WideShapes Go.ChangeAt Go.RowKit
abbrev TxtD := ByteArray
def txtC (p : TxtD) : List Value := [.string p]
theorem txtC_len (p : TxtD) : (txtC p).length = 1 := rfl
def txt0 : TxtD := (ByteArray.empty)
def TxtAt (w : World) (v : Value) (ps : List TxtD) : Prop := RowAt w v ps.length (ps.flatMap txtC)
def TxtO (w : World) (lo hi : Nat) (v : Value) (ps : List TxtD) : Prop := RowO w lo hi 9 1 v ps.length (ps.flatMap txtC)
theorem TxtAt.kept {w w' : World} {v : Value} {ps : List TxtD} (h : TxtAt w v ps) (k : Kept w w') : TxtAt w' v ps := RowAt.kept h k
theorem TxtO.kept {w w' : World} {lo hi : Nat} {v : Value} {ps : List TxtD} (h : TxtO w lo hi v ps) (k : Kept w w') : TxtO w' lo hi v ps := RowO.kept h k
theorem TxtO.but {w w' : World} {lo hi lo' hi' : Nat} {v : Value} {ps : List TxtD} (h : TxtO w lo hi v ps) (k : But lo' hi' w w') (ho : hi ≤ lo' ∨ hi' ≤ lo) : TxtO w' lo hi v ps := RowO.but h k ho
theorem TxtO.mono {w : World} {lo hi lo' hi' : Nat} {v : Value} {ps : List TxtD} (h : TxtO w lo hi v ps) (h1 : lo' ≤ lo) (h2 : hi ≤ hi') : TxtO w lo' hi' v ps := RowO.mono h h1 h2
theorem TxtO.low {w : World} {lo hi : Nat} {v : Value} {ps : List TxtD} (h : TxtO w lo hi v ps) : TxtO w lo w.heap.size v ps := RowO.low h
theorem TxtO.at {w : World} {lo hi : Nat} {v : Value} {ps : List TxtD} (h : TxtO w lo hi v ps) : TxtAt w v ps := own_row h.1
theorem TxtO.form {w : World} {lo hi : Nat} {v : Value} {ps : List TxtD} (h : TxtO w lo hi v ps) : ∃ ao cap, v = .slice ao ps.length cap := by
  obtain ⟨ao, cap, e, _⟩ := own_form h.1
  exact ⟨ao, cap, e⟩

theorem txt_get {w : World} {v : Value} {ps : List TxtD} (h : TxtAt w v ps) {i : Nat} {p : TxtD} (hp : ps[i]? = some p) :
    ∃ b o cap, v = .slice (some ⟨b, o, none⟩) ps.length cap ∧ w.cell? ⟨b, o + i, none⟩ = some (.string p) := by
  obtain ⟨b, o, cap, e, hc⟩ := row_get 1 txtC txtC_len (by omega) h hp
  exact ⟨b, o, cap, e, by have := hc 0 _ rfl; simpa using this⟩
theorem TxtO.cells {w : World} {lo hi g cap n : Nat} {ps : List TxtD} (h : TxtO w lo hi (.slice (some ⟨g, 0, none⟩) n cap) ps) {i : Nat} {p : TxtD} (hp : ps[i]? = some p) :
    w.cell? ⟨g, i, none⟩ = some (.string p) ∧ ∀ o, w.frozen? ⟨g, o, none⟩ = false := by
  obtain ⟨hc, hf⟩ := own_get 1 txtC txtC_len (by omega) h hp
  exact ⟨by have := hc 0 _ rfl; simpa using this, hf⟩
theorem TxtO.set {w : World} {lo hi g cap n : Nat} {ps : List TxtD} (h : TxtO w lo hi (.slice (some ⟨g, 0, none⟩) n cap) ps) (hn : n = ps.length) {i : Nat} {p : TxtD} (hp : ps[i]? = some p) (q : ByteArray) :
    TxtO (w.setCell ⟨g, i, none⟩ (.string q)) lo hi (.slice (some ⟨g, 0, none⟩) n cap) (ps.set i q) := by
  subst hn
  have := RowO.set h (i * 1 + 0) (.string q)
  unfold TxtO
  rw [List.length_set]
  rw [Nat.mul_comm i 1] at this
  rw [flat_set 1 txtC txtC_len ps i 0 p q (.string q) hp (by omega) rfl] at this
  simpa using this

set_option maxHeartbeats 2000000 in
theorem eqTxtS (ps : List TxtD) (v v' : Value) (w : World) (hv : TxtAt w v ps) (hv' : TxtAt w v' ps) (hn : ps.length ≤ 9000000000000000000) :
    Calls Tryd.prog 15 #[v, v'] w fun e w' => e = .returned (.bool true) ∧ Kept w w' := by
  obtain ⟨ao, cap, hsl⟩ := row_nil hv
  subst hsl
  obtain ⟨ao', cap', hsl⟩ := row_nil hv'
  subst hsl
  go_enter Tryd.func15, Tryd.ntmps15
  go_wp2
  go_loopw [5] (fun i wr => ∃ (k : Nat), k ≤ ps.length ∧ i = .int .i64 k ∧ Kept w wr) (fun i _ => ps.length - (intOf i).toNat)
  case atStart => exact ⟨0, by omega, rfl, But.refl _ _ _⟩
  case round =>
    obtain ⟨k, hk, rfl, hkp⟩ := hrel
    by_cases hlt : k < ps.length
    · obtain ⟨p, hp⟩ : ∃ p, ps[k]? = some p := ⟨_, List.getElem?_eq_getElem hlt⟩
      obtain ⟨b, o, cap1, e, c0⟩ := txt_get (hv.kept hkp) hp
      cases e
      obtain ⟨b', o', cap1', e, c0'⟩ := txt_get (hv'.kept hkp) hp
      cases e
      have HK : Hid _ := hkp
      clear hkp
      have z1 : (0 : Int) ≤ (k : Int) := by omega
      have z2 : (k : Int) < (ps.length : Int) := by omega
      go_wp2
      go_quiet (fail)
      go_wp2
      exact ⟨⟨k + 1, hlt, by go_num, HK.out.drewN _⟩, by simp [intOf]; omega⟩
    · have hke : k = ps.length := by omega
      subst hke
      go_wp2
      go_ret
      exact ⟨rfl, hkp⟩

end Go.Proofs.YtaofilinejanjaaDoor
