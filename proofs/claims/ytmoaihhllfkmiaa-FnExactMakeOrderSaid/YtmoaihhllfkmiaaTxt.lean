/-
  Lists of texts: how they lie in memory, copied, compared, opened.
-/
import Derived.Test.YtmoaihhllfkmiaaRows
import Derived.Test.YtmoaihhllfkmiaaBase
import Derived.Test.YtmoaihhllfkmiaaText
import Derived.Deep.QuietTactic
namespace Go.Proofs.Ytmoaihhllfkmiaa
open Go.ChangeShapes Go.WideShapes Go.ChangeAt Go.RowKit
abbrev TxtD := ByteArray
def txtC (p : TxtD) : List Value := [.string p]
theorem txtC_len (p : TxtD) : (txtC p).length = 1 := rfl
def txt0 : TxtD := (ByteArray.empty)
def TxtAt (w : World) (v : Value) (ps : List TxtD) : Prop := RowAt w v ps.length (ps.flatMap txtC)
def TxtO (w : World) (lo hi : Nat) (v : Value) (ps : List TxtD) : Prop := RowO w lo hi 9 1 v ps.length (ps.flatMap txtC)
theorem TxtAt.kept {w w' : World} {v : Value} {ps : List TxtD} (h : TxtAt w v ps) (k : Kept w w') : TxtAt w' v ps := RowAt.kept h k
theorem TxtO.kept {w w' : World} {lo hi : Nat} {v : Value} {ps : List TxtD} (h : TxtO w lo hi v ps) (k : Kept w w') : TxtO w' lo hi v ps := RowO.kept h k
theorem TxtO.but {w w' : World} {lo hi lo' hi' : Nat} {v : Value} {ps : List TxtD} (h : TxtO w lo hi v ps) (k : But lo' hi' w w') (ho : hi ≤ lo' ∨ hi' ≤ lo) : TxtO w' lo hi v ps := RowO.but h k ho
theorem TxtO.mono {w : World} {lo hi lo' hi' : Nat} {v : Value} {ps : List TxtD} (h : TxtO w lo hi v ps) (h1 : lo' ≤ lo) (h2 : hi ≤ hi') : TxtO w lo' hi' v ps := RowO.mono h h1 h2
theorem TxtO.low {w : World} {lo hi : Nat} {v : Value} {ps : List TxtD} (h : TxtO w lo hi v ps) : TxtO w lo w.heap.size v ps := RowO.low h
theorem TxtO.at {w : World} {lo hi : Nat} {v : Value} {ps : List TxtD} (h : TxtO w lo hi v ps) : TxtAt w v ps := own_row h.1
theorem TxtO.form {w : World} {lo hi : Nat} {v : Value} {ps : List TxtD} (h : TxtO w lo hi v ps) : ∃ ao cap, v = .slice ao ps.length cap := by
  obtain ⟨ao, cap, e, _⟩ := own_form h.1
  exact ⟨ao, cap, e⟩

theorem txt_get {w : World} {v : Value} {ps : List TxtD} (h : TxtAt w v ps) {i : Nat} {p : TxtD} (hp : ps[i]? = some p) :
    ∃ b o cap, v = .slice (some ⟨b, o, none⟩) ps.length cap ∧ w.cell? ⟨b, o + i, none⟩ = some (.string p) := by
  obtain ⟨b, o, cap, e, hc⟩ := row_get 1 txtC txtC_len (by omega) h hp
  exact ⟨b, o, cap, e, by have := hc 0 _ rfl; simpa using this⟩
theorem TxtO.cells {w : World} {lo hi g cap n : Nat} {ps : List TxtD} (h : TxtO w lo hi (.slice (some ⟨g, 0, none⟩) n cap) ps) {i : Nat} {p : TxtD} (hp : ps[i]? = some p) :
    w.cell? ⟨g, i, none⟩ = some (.string p) ∧ ∀ o, w.frozen? ⟨g, o, none⟩ = false := by
  obtain ⟨hc, hf⟩ := own_get 1 txtC txtC_len (by omega) h hp
  exact ⟨by have := hc 0 _ rfl; simpa using this, hf⟩
theorem TxtO.set {w : World} {lo hi g cap n : Nat} {ps : List TxtD} (h : TxtO w lo hi (.slice (some ⟨g, 0, none⟩) n cap) ps) (hn : n = ps.length) {i : Nat} {p : TxtD} (hp : ps[i]? = some p) (q : ByteArray) :
    TxtO (w.setCell ⟨g, i, none⟩ (.string q)) lo hi (.slice (some ⟨g, 0, none⟩) n cap) (ps.set i q) := by
  subst hn
  have := RowO.set h (i * 1 + 0) (.string q)
  unfold TxtO
  rw [List.length_set]
  rw [Nat.mul_comm i 1] at this
  rw [flat_set 1 txtC txtC_len ps i 0 p q (.string q) hp (by omega) rfl] at this
  simpa using this

theorem info9 : (Try.prog.info? 9).map (fun i => (i.zero, i.size, i.bytes)) = some (some (.string ByteArray.empty), 1, 16) := by kernel_rfl

set_option maxHeartbeats 2000000 in
theorem toTxtS (ps : List TxtD) (v : Value) (w : World) (hv : TxtAt w v ps) (hl : ps.length ≤ 1048576) :
    Calls Try.prog 94 #[v] w fun e w' => ∃ v', e = .returned v' ∧ TxtO w' w.heap.size w'.heap.size v' ps ∧ Kept w w' := by
  obtain ⟨ao, cap, hsl⟩ := row_nil hv
  subst hsl
  obtain ⟨i0, hi, hz0, hz1, hz2⟩ := info_parts info9
  have hmk : (Instr.makeSlice 25 (.int .i64 (ps.length : Int)) (.int .i64 (ps.length : Int))).run Try.prog w = .ok (.slice (some ⟨w.heap.size, 0, none⟩) ps.length ps.length) (w.alloc (.cells (madeCells #[.string ByteArray.empty] (ps.length * 1)) 9)) := by
    have := run_make (P := Try.prog) w 25 9 i0 _ Try.underlying25 hi hz0 .i64 .i64 (ps.length : Int) (ps.length : Int) (by omega) (by omega) (by rw [hz2]; omega) (by omega)
    rw [this, hz1]
    simp [Value.cells]
  have hm := row_made w w.heap.size 9 #[.string ByteArray.empty] 1 (by omega) txtC txt0 txtC_len rfl ps.length (Nat.le_refl _) (by unfold maxLen; omega)
  clear hi hz0 hz1 hz2
  go_enter Try.func94, Try.ntmps94
  go_wp2
  clear hmk
  go_loopw [4] (fun i wr => ∃ k : Nat, k ≤ ps.length ∧ i = .int .i64 k ∧ TxtO wr w.heap.size (w.heap.size + 1) (.slice (some ⟨w.heap.size, 0, none⟩) ps.length ps.length) (ps.take k ++ List.replicate (ps.length - k) txt0) ∧ Kept w wr) (fun i _ => ps.length - (intOf i).toNat)
  case atStart => exact ⟨0, by omega, rfl, by simpa [TxtO] using hm, (But.refl _ _ _).alloc _⟩
  case round =>
    obtain ⟨k, hk, rfl, ho, hkp⟩ := hrel
    by_cases hlt : k < ps.length
    · obtain ⟨p, hp⟩ : ∃ p, ps[k]? = some p := ⟨_, List.getElem?_eq_getElem hlt⟩
      obtain ⟨b, o, cap', e, c0⟩ := txt_get (hv.kept hkp) hp
      cases e
      clear hm
      obtain ⟨d0, dz⟩ := ho.cells (fill_get ps txt0 hlt)
      have dz0 := dz k
      have d5 := ho.set (fill_len ps txt0 (by omega)).symm (fill_get ps txt0 hlt) p
      have HS : Hid _ := d5
      clear d5 dz ho
      go_wp2
      refine ⟨⟨k + 1, hlt, by go_num, by rw [← fill_set ps txt0 hp]; exact HS.out, ?_⟩, by simp [intOf]; omega⟩
      exact hkp.setNew (by simp) _
    · have hke : k = ps.length := by omega
      subst hke
      clear hm
      have hsz := hkp.size
      go_wp2
      go_ret
      have hs := own_lt ho.1 (g := w.heap.size) rfl
      refine ⟨_, rfl, ?_, hkp⟩
      simp only [Nat.sub_self, List.replicate_zero, List.append_nil, List.take_length] at ho
      exact RowO.low ho

set_option maxHeartbeats 2000000 in
theorem eqTxtS (ps : List TxtD) (v v' : Value) (w : World) (hv : TxtAt w v ps) (hv' : TxtAt w v' ps) (hn : ps.length ≤ 9000000000000000000) :
    Calls Try.prog 21 #[v, v'] w fun e w' => e = .returned (.bool true) ∧ Kept w w' := by
  obtain ⟨ao, cap, hsl⟩ := row_nil hv
  subst hsl
  obtain ⟨ao', cap', hsl⟩ := row_nil hv'
  subst hsl
  go_enter Try.func21, Try.ntmps21
  go_wp2
  go_loopw [5] (fun i wr => ∃ (k : Nat), k ≤ ps.length ∧ i = .int .i64 k ∧ Kept w wr) (fun i _ => ps.length - (intOf i).toNat)
  case atStart => exact ⟨0, by omega, rfl, But.refl _ _ _⟩
  case round =>
    obtain ⟨k, hk, rfl, hkp⟩ := hrel
    by_cases hlt : k < ps.length
    · obtain ⟨p, hp⟩ : ∃ p, ps[k]? = some p := ⟨_, List.getElem?_eq_getElem hlt⟩
      obtain ⟨b, o, cap1, e, c0⟩ := txt_get (hv.kept hkp) hp
      cases e
      obtain ⟨b', o', cap1', e, c0'⟩ := txt_get (hv'.kept hkp) hp
      cases e
      have HK : Hid _ := hkp
      clear hkp
      have z1 : (0 : Int) ≤ (k : Int) := by omega
      have z2 : (k : Int) < (ps.length : Int) := by omega
      go_wp2
      go_quiet (fail)
      go_wp2
      exact ⟨⟨k + 1, hlt, by go_num, HK.out.drewN _⟩, by simp [intOf]; omega⟩
    · have hke : k = ps.length := by omega
      subst hke
      go_wp2
      go_ret
      exact ⟨rfl, hkp⟩
section
open Go.Deep
variable {H : Type} {enc : TypeId × Value → H} {w : World} {base : Nat} {spare : Nat → Bool} {held : Bool}
set_option maxRecDepth 100000

theorem open_txt {fuel : Nat} {cs : List Value} {x : DataW H × List MemPlace} (h : DataW.trod enc Try.prog w base spare held fuel 9 cs = some x) : ∃ p : TxtD, cs = txtC p ∧ p.size ≤ maxLen := by
  obtain ⟨a, e, _, s⟩ := DataW.trod_string Try.underlying9 h
  exact ⟨a, e, s⟩
theorem open_txtS {v : Value} {d : DataW H} {ps : List MemPlace} {r : Reach} {b0 : Nat} (hval : Value.okWide Try.prog w r b0 25 v) (hd : DataW.Trod enc Try.prog w base spare held 25 v d ps) : ∃ l : List TxtD, TxtAt w v l ∧ (∀ p ∈ l, p.size ≤ maxLen) ∧ l.length ≤ maxLen := by
  obtain ⟨ao, len, cap, rfl⟩ := okWide_slice Try.underlying25 hval
  obtain ⟨fuel, hf⟩ := hd
  obtain ⟨u, l, e, hr, hq, hl⟩ := open_rows (α := TxtD) Try.underlying25 (show Try.prog.cellsOf 9 = 1 by kernel_rfl) (by omega) txtC txtC_len (fun p => p.size ≤ maxLen) (fun _ _ _ h => open_txt h) hf
  simp [Value.cells] at e
  subst e
  exact ⟨l, hr, hq, hl⟩
end

end Go.Proofs.Ytmoaihhllfkmiaa
