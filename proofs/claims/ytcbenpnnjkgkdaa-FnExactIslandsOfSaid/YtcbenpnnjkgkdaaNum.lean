/-
  Lists of whole numbers: how they lie in memory, what the functions answer that copy and compare them, and what comes in.
-/
import Derived.Test.YtcbenpnnjkgkdaaRows
import Derived.Test.YtcbenpnnjkgkdaaBase
import Derived.Test.YtcbenpnnjkgkdaaText
import Derived.Deep.QuietTactic
namespace Go.Proofs.Ytcbenpnnjkgkdaa
open Go.ChangeShapes Go.WideShapes Go.ChangeAt Go.RowKit
abbrev NumD := Int
def numC (p : NumD) : List Value := [.int .i64 p]
theorem numC_len (p : NumD) : (numC p).length = 1 := rfl
def num0 : NumD := (0)
def NumAt (w : World) (v : Value) (ps : List NumD) : Prop := RowAt w v ps.length (ps.flatMap numC)
def NumO (w : World) (lo hi : Nat) (v : Value) (ps : List NumD) : Prop := RowO w lo hi 3 1 v ps.length (ps.flatMap numC)
theorem NumAt.kept {w w' : World} {v : Value} {ps : List NumD} (h : NumAt w v ps) (k : Kept w w') : NumAt w' v ps := RowAt.kept h k
theorem NumO.kept {w w' : World} {lo hi : Nat} {v : Value} {ps : List NumD} (h : NumO w lo hi v ps) (k : Kept w w') : NumO w' lo hi v ps := RowO.kept h k
theorem NumO.but {w w' : World} {lo hi lo' hi' : Nat} {v : Value} {ps : List NumD} (h : NumO w lo hi v ps) (k : But lo' hi' w w') (ho : hi ≤ lo' ∨ hi' ≤ lo) : NumO w' lo hi v ps := RowO.but h k ho
theorem NumO.mono {w : World} {lo hi lo' hi' : Nat} {v : Value} {ps : List NumD} (h : NumO w lo hi v ps) (h1 : lo' ≤ lo) (h2 : hi ≤ hi') : NumO w lo' hi' v ps := RowO.mono h h1 h2
theorem NumO.low {w : World} {lo hi : Nat} {v : Value} {ps : List NumD} (h : NumO w lo hi v ps) : NumO w lo w.heap.size v ps := RowO.low h
theorem NumO.at {w : World} {lo hi : Nat} {v : Value} {ps : List NumD} (h : NumO w lo hi v ps) : NumAt w v ps := own_row h.1
theorem NumO.form {w : World} {lo hi : Nat} {v : Value} {ps : List NumD} (h : NumO w lo hi v ps) : ∃ ao cap, v = .slice ao ps.length cap := by
  obtain ⟨ao, cap, e, _⟩ := own_form h.1
  exact ⟨ao, cap, e⟩

theorem num_get {w : World} {v : Value} {ps : List NumD} (h : NumAt w v ps) {i : Nat} {p : NumD} (hp : ps[i]? = some p) :
    ∃ b o cap, v = .slice (some ⟨b, o, none⟩) ps.length cap ∧ w.cell? ⟨b, o + i, none⟩ = some (.int .i64 p) := by
  obtain ⟨b, o, cap, e, hc⟩ := row_get 1 numC numC_len (by omega) h hp
  exact ⟨b, o, cap, e, by have := hc 0 _ rfl; simpa using this⟩
theorem NumO.cells {w : World} {lo hi g cap n : Nat} {ps : List NumD} (h : NumO w lo hi (.slice (some ⟨g, 0, none⟩) n cap) ps) {i : Nat} {p : NumD} (hp : ps[i]? = some p) :
    w.cell? ⟨g, i, none⟩ = some (.int .i64 p) ∧ ∀ o, w.frozen? ⟨g, o, none⟩ = false := by
  obtain ⟨hc, hf⟩ := own_get 1 numC numC_len (by omega) h hp
  exact ⟨by have := hc 0 _ rfl; simpa using this, hf⟩
theorem NumO.set {w : World} {lo hi g cap n : Nat} {ps : List NumD} (h : NumO w lo hi (.slice (some ⟨g, 0, none⟩) n cap) ps) (hn : n = ps.length) {i : Nat} {p : NumD} (hp : ps[i]? = some p) (q : Int) :
    NumO (w.setCell ⟨g, i, none⟩ (.int .i64 q)) lo hi (.slice (some ⟨g, 0, none⟩) n cap) (ps.set i q) := by
  subst hn
  have := RowO.set h (i * 1 + 0) (.int .i64 q)
  unfold NumO
  rw [List.length_set]
  rw [Nat.mul_comm i 1] at this
  rw [flat_set 1 numC numC_len ps i 0 p q (.int .i64 q) hp (by omega) rfl] at this
  simpa using this

theorem info3 : (Try.prog.info? 3).map (fun i => (i.zero, i.size, i.bytes)) = some (some (.int .i64 0), 1, 8) := by kernel_rfl

set_option maxHeartbeats 2000000 in
theorem eqNumS (ps : List NumD) (v v' : Value) (w : World) (hv : NumAt w v ps) (hv' : NumAt w v' ps) (hn : ps.length ≤ 9000000000000000000) :
    Calls Try.prog 17 #[v, v'] w fun e w' => e = .returned (.bool true) ∧ Kept w w' := by
  obtain ⟨ao, cap, hsl⟩ := row_nil hv
  subst hsl
  obtain ⟨ao', cap', hsl⟩ := row_nil hv'
  subst hsl
  go_enter Try.func17, Try.ntmps17
  go_wp2
  go_loopw [5] (fun i wr => ∃ (k : Nat), k ≤ ps.length ∧ i = .int .i64 k ∧ Kept w wr) (fun i _ => ps.length - (intOf i).toNat)
  case atStart => exact ⟨0, by omega, rfl, But.refl _ _ _⟩
  case round =>
    obtain ⟨k, hk, rfl, hkp⟩ := hrel
    by_cases hlt : k < ps.length
    · obtain ⟨p, hp⟩ : ∃ p, ps[k]? = some p := ⟨_, List.getElem?_eq_getElem hlt⟩
      obtain ⟨b, o, cap1, e, c0⟩ := num_get (hv.kept hkp) hp
      cases e
      obtain ⟨b', o', cap1', e, c0'⟩ := num_get (hv'.kept hkp) hp
      cases e
      have HK : Hid _ := hkp
      clear hkp
      have z1 : (0 : Int) ≤ (k : Int) := by omega
      have z2 : (k : Int) < (ps.length : Int) := by omega
      go_wp2
      go_quiet (fail)
      go_wp2
      exact ⟨⟨k + 1, hlt, by go_num, HK.out.drewN _⟩, by simp [intOf]; omega⟩
    · have hke : k = ps.length := by omega
      subst hke
      go_wp2
      go_ret
      exact ⟨rfl, hkp⟩
section
open Go.Deep
variable {H : Type} {enc : TypeId × Value → H} {w : World} {base : Nat} {spare : Nat → Bool} {held : Bool}
set_option maxRecDepth 100000

theorem open_num {fuel : Nat} {cs : List Value} {x : DataW H × List MemPlace} (h : DataW.trod enc Try.prog w base spare held fuel 3 cs = some x) : ∃ p : NumD, cs = numC p ∧ True := by
  obtain ⟨a, e, _, _⟩ := DataW.trod_int Try.underlying3 h
  exact ⟨a, e, trivial⟩
theorem open_numS {v : Value} {d : DataW H} {ps : List MemPlace} {r : Reach} {b0 : Nat} (hval : Value.okWide Try.prog w r b0 35 v) (hd : DataW.Trod enc Try.prog w base spare held 35 v d ps) : ∃ l : List NumD, NumAt w v l ∧ (∀ p ∈ l, True) ∧ l.length ≤ maxLen := by
  obtain ⟨ao, len, cap, rfl⟩ := okWide_slice Try.underlying35 hval
  obtain ⟨fuel, hf⟩ := hd
  obtain ⟨u, l, e, hr, hq, hl⟩ := open_rows (α := NumD) Try.underlying35 (show Try.prog.cellsOf 3 = 1 by kernel_rfl) (by omega) numC numC_len (fun _ => True) (fun _ _ _ h => open_num h) hf
  simp [Value.cells] at e
  subst e
  exact ⟨l, hr, hq, hl⟩
end

end Go.Proofs.Ytcbenpnnjkgkdaa
