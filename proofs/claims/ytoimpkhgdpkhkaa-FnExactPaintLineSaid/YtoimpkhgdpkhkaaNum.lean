/-
  Lists of whole numbers: how they lie in memory, what the functions answer that copy and compare them, and what comes in.
-/
import Derived.Test.YtoimpkhgdpkhkaaRows
import Derived.Test.YtoimpkhgdpkhkaaBase
import Derived.Test.YtoimpkhgdpkhkaaText
import Derived.Deep.QuietTactic
namespace Go.Proofs.Ytoimpkhgdpkhkaa
open Go.ChangeShapes Go.WideShapes Go.ChangeAt Go.RowKit
abbrev NumD := Int
def numC (p : NumD) : List Value := [.int .i64 p]
theorem numC_len (p : NumD) : (numC p).length = 1 := rfl
def num0 : NumD := (0)
def NumAt (w : World) (v : Value) (ps : List NumD) : Prop := RowAt w v ps.length (ps.flatMap numC)
def NumO (w : World) (lo hi : Nat) (v : Value) (ps : List NumD) : Prop := RowO w lo hi 3 1 v ps.length (ps.flatMap numC)
theorem NumAt.kept {w w' : World} {v : Value} {ps : List NumD} (h : NumAt w v ps) (k : Kept w w') : NumAt w' v ps := RowAt.kept h k
theorem NumO.kept {w w' : World} {lo hi : Nat} {v : Value} {ps : List NumD} (h : NumO w lo hi v ps) (k : Kept w w') : NumO w' lo hi v ps := RowO.kept h k
theorem NumO.but {w w' : World} {lo hi lo' hi' : Nat} {v : Value} {ps : List NumD} (h : NumO w lo hi v ps) (k : But lo' hi' w w') (ho : hi ≤ lo' ∨ hi' ≤ lo) : NumO w' lo hi v ps := RowO.but h k ho
theorem NumO.mono {w : World} {lo hi lo' hi' : Nat} {v : Value} {ps : List NumD} (h : NumO w lo hi v ps) (h1 : lo' ≤ lo) (h2 : hi ≤ hi') : NumO w lo' hi' v ps := RowO.mono h h1 h2
theorem NumO.low {w : World} {lo hi : Nat} {v : Value} {ps : List NumD} (h : NumO w lo hi v ps) : NumO w lo w.heap.size v ps := RowO.low h
theorem NumO.at {w : World} {lo hi : Nat} {v : Value} {ps : List NumD} (h : NumO w lo hi v ps) : NumAt w v ps := own_row h.1
theorem NumO.form {w : World} {lo hi : Nat} {v : Value} {ps : List NumD} (h : NumO w lo hi v ps) : ∃ ao cap, v = .slice ao ps.length cap := by
  obtain ⟨ao, cap, e, _⟩ := own_form h.1
  exact ⟨ao, cap, e⟩

theorem num_get {w : World} {v : Value} {ps : List NumD} (h : NumAt w v ps) {i : Nat} {p : NumD} (hp : ps[i]? = some p) :
    ∃ b o cap, v = .slice (some ⟨b, o, none⟩) ps.length cap ∧ w.cell? ⟨b, o + i, none⟩ = some (.int .i64 p) := by
  obtain ⟨b, o, cap, e, hc⟩ := row_get 1 numC numC_len (by omega) h hp
  exact ⟨b, o, cap, e, by have := hc 0 _ rfl; simpa using this⟩
theorem NumO.cells {w : World} {lo hi g cap n : Nat} {ps : List NumD} (h : NumO w lo hi (.slice (some ⟨g, 0, none⟩) n cap) ps) {i : Nat} {p : NumD} (hp : ps[i]? = some p) :
    w.cell? ⟨g, i, none⟩ = some (.int .i64 p) ∧ ∀ o, w.frozen? ⟨g, o, none⟩ = false := by
  obtain ⟨hc, hf⟩ := own_get 1 numC numC_len (by omega) h hp
  exact ⟨by have := hc 0 _ rfl; simpa using this, hf⟩
theorem NumO.set {w : World} {lo hi g cap n : Nat} {ps : List NumD} (h : NumO w lo hi (.slice (some ⟨g, 0, none⟩) n cap) ps) (hn : n = ps.length) {i : Nat} {p : NumD} (hp : ps[i]? = some p) (q : Int) :
    NumO (w.setCell ⟨g, i, none⟩ (.int .i64 q)) lo hi (.slice (some ⟨g, 0, none⟩) n cap) (ps.set i q) := by
  subst hn
  have := RowO.set h (i * 1 + 0) (.int .i64 q)
  unfold NumO
  rw [List.length_set]
  rw [Nat.mul_comm i 1] at this
  rw [flat_set 1 numC numC_len ps i 0 p q (.int .i64 q) hp (by omega) rfl] at this
  simpa using this

theorem info3 : (Try.prog.info? 3).map (fun i => (i.zero, i.size, i.bytes)) = some (some (.int .i64 0), 1, 8) := by kernel_rfl

set_option maxHeartbeats 2000000 in
theorem toNumS (ps : List NumD) (v : Value) (w : World) (hv : NumAt w v ps) (hl : ps.length ≤ 1048576) :
    Calls Try.prog 44 #[v] w fun e w' => ∃ v', e = .returned v' ∧ NumO w' w.heap.size w'.heap.size v' ps ∧ Kept w w' := by
  obtain ⟨ao, cap, hsl⟩ := row_nil hv
  subst hsl
  obtain ⟨i0, hi, hz0, hz1, hz2⟩ := info_parts info3
  have hmk : (Instr.makeSlice 34 (.int .i64 (ps.length : Int)) (.int .i64 (ps.length : Int))).run Try.prog w = .ok (.slice (some ⟨w.heap.size, 0, none⟩) ps.length ps.length) (w.alloc (.cells (madeCells #[.int .i64 0] (ps.length * 1)) 3)) := by
    have := run_make (P := Try.prog) w 34 3 i0 _ Try.underlying34 hi hz0 .i64 .i64 (ps.length : Int) (ps.length : Int) (by omega) (by omega) (by rw [hz2]; omega) (by omega)
    rw [this, hz1]
    simp [Value.cells]
  have hm := row_made w w.heap.size 3 #[.int .i64 0] 1 (by omega) numC num0 numC_len rfl ps.length (Nat.le_refl _) (by unfold maxLen; omega)
  clear hi hz0 hz1 hz2
  go_enter Try.func44, Try.ntmps44
  go_wp2
  clear hmk
  go_loopw [4] (fun i wr => ∃ k : Nat, k ≤ ps.length ∧ i = .int .i64 k ∧ NumO wr w.heap.size (w.heap.size + 1) (.slice (some ⟨w.heap.size, 0, none⟩) ps.length ps.length) (ps.take k ++ List.replicate (ps.length - k) num0) ∧ Kept w wr) (fun i _ => ps.length - (intOf i).toNat)
  case atStart => exact ⟨0, by omega, rfl, by simpa [NumO] using hm, (But.refl _ _ _).alloc _⟩
  case round =>
    obtain ⟨k, hk, rfl, ho, hkp⟩ := hrel
    by_cases hlt : k < ps.length
    · obtain ⟨p, hp⟩ : ∃ p, ps[k]? = some p := ⟨_, List.getElem?_eq_getElem hlt⟩
      obtain ⟨b, o, cap', e, c0⟩ := num_get (hv.kept hkp) hp
      cases e
      clear hm
      obtain ⟨d0, dz⟩ := ho.cells (fill_get ps num0 hlt)
      have dz0 := dz k
      have d5 := ho.set (fill_len ps num0 (by omega)).symm (fill_get ps num0 hlt) p
      have HS : Hid _ := d5
      clear d5 dz ho
      go_wp2
      refine ⟨⟨k + 1, hlt, by go_num, by rw [← fill_set ps num0 hp]; exact HS.out, ?_⟩, by simp [intOf]; omega⟩
      exact hkp.setNew (by simp) _
    · have hke : k = ps.length := by omega
      subst hke
      clear hm
      have hsz := hkp.size
      go_wp2
      go_ret
      have hs := own_lt ho.1 (g := w.heap.size) rfl
      refine ⟨_, rfl, ?_, hkp⟩
      simp only [Nat.sub_self, List.replicate_zero, List.append_nil, List.take_length] at ho
      exact RowO.low ho

set_option maxHeartbeats 2000000 in
theorem eqNumS (ps : List NumD) (v v' : Value) (w : World) (hv : NumAt w v ps) (hv' : NumAt w v' ps) (hn : ps.length ≤ 9000000000000000000) :
    Calls Try.prog 17 #[v, v'] w fun e w' => e = .returned (.bool true) ∧ Kept w w' := by
  obtain ⟨ao, cap, hsl⟩ := row_nil hv
  subst hsl
  obtain ⟨ao', cap', hsl⟩ := row_nil hv'
  subst hsl
  go_enter Try.func17, Try.ntmps17
  go_wp2
  go_loopw [5] (fun i wr => ∃ (k : Nat), k ≤ ps.length ∧ i = .int .i64 k ∧ Kept w wr) (fun i _ => ps.length - (intOf i).toNat)
  case atStart => exact ⟨0, by omega, rfl, But.refl _ _ _⟩
  case round =>
    obtain ⟨k, hk, rfl, hkp⟩ := hrel
    by_cases hlt : k < ps.length
    · obtain ⟨p, hp⟩ : ∃ p, ps[k]? = some p := ⟨_, List.getElem?_eq_getElem hlt⟩
      obtain ⟨b, o, cap1, e, c0⟩ := num_get (hv.kept hkp) hp
      cases e
      obtain ⟨b', o', cap1', e, c0'⟩ := num_get (hv'.kept hkp) hp
      cases e
      have HK : Hid _ := hkp
      clear hkp
      have z1 : (0 : Int) ≤ (k : Int) := by omega
      have z2 : (k : Int) < (ps.length : Int) := by omega
      go_wp2
      go_quiet (fail)
      go_wp2
      exact ⟨⟨k + 1, hlt, by go_num, HK.out.drewN _⟩, by simp [intOf]; omega⟩
    · have hke : k = ps.length := by omega
      subst hke
      go_wp2
      go_ret
      exact ⟨rfl, hkp⟩
section
open Go.Deep
variable {H : Type} {enc : TypeId × Value → H} {w : World} {base : Nat} {spare : Nat → Bool} {held : Bool}
set_option maxRecDepth 100000

theorem open_num {fuel : Nat} {cs : List Value} {x : DataW H × List MemPlace} (h : DataW.trod enc Try.prog w base spare held fuel 3 cs = some x) : ∃ p : NumD, cs = numC p ∧ True := by
  obtain ⟨a, e, _, _⟩ := DataW.trod_int Try.underlying3 h
  exact ⟨a, e, trivial⟩
theorem open_numS {v : Value} {d : DataW H} {ps : List MemPlace} {r : Reach} {b0 : Nat} (hval : Value.okWide Try.prog w r b0 34 v) (hd : DataW.Trod enc Try.prog w base spare held 34 v d ps) : ∃ l : List NumD, NumAt w v l ∧ (∀ p ∈ l, True) ∧ l.length ≤ maxLen := by
  obtain ⟨ao, len, cap, rfl⟩ := okWide_slice Try.underlying34 hval
  obtain ⟨fuel, hf⟩ := hd
  obtain ⟨u, l, e, hr, hq, hl⟩ := open_rows (α := NumD) Try.underlying34 (show Try.prog.cellsOf 3 = 1 by kernel_rfl) (by omega) numC numC_len (fun _ => True) (fun _ _ _ h => open_num h) hf
  simp [Value.cells] at e
  subst e
  exact ⟨l, hr, hq, hl⟩
end

end Go.Proofs.Ytoimpkhgdpkhkaa
