/-
  Lists of bytes: how they lie in memory, copied, compared, opened.
-/
import Derived.Test.YtaadlhcpgjibeaaDoorRows
import Derived.Test.YtaadlhcpgjibeaaDoorBase
import Derived.Test.YtaadlhcpgjibeaaDoorText
import Derived.Deep.QuietTactic
namespace Go.Proofs.YtaadlhcpgjibeaaDoor
open Go.ChangeShapes Go.WideShapes Go.ChangeAt Go.RowKit
abbrev BytD := UInt8
def bytC (p : BytD) : List Value := [.int .u8 (p.toNat : Int)]
theorem bytC_len (p : BytD) : (bytC p).length = 1 := rfl
def byt0 : BytD := (0)
def BytAt (w : World) (v : Value) (ps : List BytD) : Prop := RowAt w v ps.length (ps.flatMap bytC)
def BytO (w : World) (lo hi : Nat) (v : Value) (ps : List BytD) : Prop := RowO w lo hi 5 1 v ps.length (ps.flatMap bytC)
theorem BytAt.kept {w w' : World} {v : Value} {ps : List BytD} (h : BytAt w v ps) (k : Kept w w') : BytAt w' v ps := RowAt.kept h k
theorem BytO.kept {w w' : World} {lo hi : Nat} {v : Value} {ps : List BytD} (h : BytO w lo hi v ps) (k : Kept w w') : BytO w' lo hi v ps := RowO.kept h k
theorem BytO.but {w w' : World} {lo hi lo' hi' : Nat} {v : Value} {ps : List BytD} (h : BytO w lo hi v ps) (k : But lo' hi' w w') (ho : hi ≤ lo' ∨ hi' ≤ lo) : BytO w' lo hi v ps := RowO.but h k ho
theorem BytO.mono {w : World} {lo hi lo' hi' : Nat} {v : Value} {ps : List BytD} (h : BytO w lo hi v ps) (h1 : lo' ≤ lo) (h2 : hi ≤ hi') : BytO w lo' hi' v ps := RowO.mono h h1 h2
theorem BytO.low {w : World} {lo hi : Nat} {v : Value} {ps : List BytD} (h : BytO w lo hi v ps) : BytO w lo w.heap.size v ps := RowO.low h
theorem BytO.at {w : World} {lo hi : Nat} {v : Value} {ps : List BytD} (h : BytO w lo hi v ps) : BytAt w v ps := own_row h.1
theorem BytO.form {w : World} {lo hi : Nat} {v : Value} {ps : List BytD} (h : BytO w lo hi v ps) : ∃ ao cap, v = .slice ao ps.length cap := by
  obtain ⟨ao, cap, e, _⟩ := own_form h.1
  exact ⟨ao, cap, e⟩

theorem byt_get {w : World} {v : Value} {ps : List BytD} (h : BytAt w v ps) {i : Nat} {p : BytD} (hp : ps[i]? = some p) :
    ∃ b o cap, v = .slice (some ⟨b, o, none⟩) ps.length cap ∧ w.cell? ⟨b, o + i, none⟩ = some (.int .u8 (p.toNat : Int)) := by
  obtain ⟨b, o, cap, e, hc⟩ := row_get 1 bytC bytC_len (by omega) h hp
  exact ⟨b, o, cap, e, by have := hc 0 _ rfl; simpa using this⟩
theorem BytO.cells {w : World} {lo hi g cap n : Nat} {ps : List BytD} (h : BytO w lo hi (.slice (some ⟨g, 0, none⟩) n cap) ps) {i : Nat} {p : BytD} (hp : ps[i]? = some p) :
    w.cell? ⟨g, i, none⟩ = some (.int .u8 (p.toNat : Int)) ∧ ∀ o, w.frozen? ⟨g, o, none⟩ = false := by
  obtain ⟨hc, hf⟩ := own_get 1 bytC bytC_len (by omega) h hp
  exact ⟨by have := hc 0 _ rfl; simpa using this, hf⟩
theorem BytO.set {w : World} {lo hi g cap n : Nat} {ps : List BytD} (h : BytO w lo hi (.slice (some ⟨g, 0, none⟩) n cap) ps) (hn : n = ps.length) {i : Nat} {p : BytD} (hp : ps[i]? = some p) (q : UInt8) :
    BytO (w.setCell ⟨g, i, none⟩ (.int .u8 (q.toNat : Int))) lo hi (.slice (some ⟨g, 0, none⟩) n cap) (ps.set i q) := by
  subst hn
  have := RowO.set h (i * 1 + 0) (.int .u8 (q.toNat : Int))
  unfold BytO
  rw [List.length_set]
  rw [Nat.mul_comm i 1] at this
  rw [flat_set 1 bytC bytC_len ps i 0 p q (.int .u8 (q.toNat : Int)) hp (by omega) rfl] at this
  simpa using this

theorem info5 : (Tryd.prog.info? 5).map (fun i => (i.zero, i.size, i.bytes)) = some (some (.int .u8 0), 1, 1) := by kernel_rfl

set_option maxHeartbeats 2000000 in
theorem toBytS (ps : List BytD) (v : Value) (w : World) (hv : BytAt w v ps) (hl : ps.length ≤ 1048576) :
    Calls Tryd.prog 76 #[v] w fun e w' => ∃ v', e = .returned v' ∧ BytO w' w.heap.size w'.heap.size v' ps ∧ Kept w w' := by
  obtain ⟨ao, cap, hsl⟩ := row_nil hv
  subst hsl
  obtain ⟨i0, hi, hz0, hz1, hz2⟩ := info_parts info5
  have hmk : (Instr.makeSlice 22 (.int .i64 (ps.length : Int)) (.int .i64 (ps.length : Int))).run Tryd.prog w = .ok (.slice (some ⟨w.heap.size, 0, none⟩) ps.length ps.length) (w.alloc (.cells (madeCells #[.int .u8 0] (ps.length * 1)) 5)) := by
    have := run_make (P := Tryd.prog) w 22 5 i0 _ Tryd.underlying22 hi hz0 .i64 .i64 (ps.length : Int) (ps.length : Int) (by omega) (by omega) (by rw [hz2]; omega) (by omega)
    rw [this, hz1]
    simp [Value.cells]
  have hm := row_made w w.heap.size 5 #[.int .u8 0] 1 (by omega) bytC byt0 bytC_len rfl ps.length (Nat.le_refl _) (by unfold maxLen; omega)
  clear hi hz0 hz1 hz2
  go_enter Tryd.func76, Tryd.ntmps76
  go_wp2
  clear hmk
  go_loopw [4] (fun i wr => ∃ k : Nat, k ≤ ps.length ∧ i = .int .i64 k ∧ BytO wr w.heap.size (w.heap.size + 1) (.slice (some ⟨w.heap.size, 0, none⟩) ps.length ps.length) (ps.take k ++ List.replicate (ps.length - k) byt0) ∧ Kept w wr) (fun i _ => ps.length - (intOf i).toNat)
  case atStart => exact ⟨0, by omega, rfl, by simpa [BytO] using hm, (But.refl _ _ _).alloc _⟩
  case round =>
    obtain ⟨k, hk, rfl, ho, hkp⟩ := hrel
    by_cases hlt : k < ps.length
    · obtain ⟨p, hp⟩ : ∃ p, ps[k]? = some p := ⟨_, List.getElem?_eq_getElem hlt⟩
      obtain ⟨b, o, cap', e, c0⟩ := byt_get (hv.kept hkp) hp
      cases e
      clear hm
      obtain ⟨d0, dz⟩ := ho.cells (fill_get ps byt0 hlt)
      have dz0 := dz k
      have d5 := ho.set (fill_len ps byt0 (by omega)).symm (fill_get ps byt0 hlt) p
      have HS : Hid _ := d5
      clear d5 dz ho
      go_wp2
      refine ⟨⟨k + 1, hlt, by go_num, by rw [← fill_set ps byt0 hp]; exact HS.out, ?_⟩, by simp [intOf]; omega⟩
      exact hkp.setNew (by simp) _
    · have hke : k = ps.length := by omega
      subst hke
      clear hm
      have hsz := hkp.size
      go_wp2
      go_ret
      have hs := own_lt ho.1 (g := w.heap.size) rfl
      refine ⟨_, rfl, ?_, hkp⟩
      simp only [Nat.sub_self, List.replicate_zero, List.append_nil, List.take_length] at ho
      exact RowO.low ho

set_option maxHeartbeats 2000000 in
theorem eqBytS (ps : List BytD) (v v' : Value) (w : World) (hv : BytAt w v ps) (hv' : BytAt w v' ps) (hn : ps.length ≤ 9000000000000000000) :
    Calls Tryd.prog 70 #[v, v'] w fun e w' => e = .returned (.bool true) ∧ Kept w w' := by
  obtain ⟨ao, cap, hsl⟩ := row_nil hv
  subst hsl
  obtain ⟨ao', cap', hsl⟩ := row_nil hv'
  subst hsl
  go_enter Tryd.func70, Tryd.ntmps70
  go_wp2
  go_loopw [5] (fun i wr => ∃ (k : Nat), k ≤ ps.length ∧ i = .int .i64 k ∧ Kept w wr) (fun i _ => ps.length - (intOf i).toNat)
  case atStart => exact ⟨0, by omega, rfl, But.refl _ _ _⟩
  case round =>
    obtain ⟨k, hk, rfl, hkp⟩ := hrel
    by_cases hlt : k < ps.length
    · obtain ⟨p, hp⟩ : ∃ p, ps[k]? = some p := ⟨_, List.getElem?_eq_getElem hlt⟩
      obtain ⟨b, o, cap1, e, c0⟩ := byt_get (hv.kept hkp) hp
      cases e
      obtain ⟨b', o', cap1', e, c0'⟩ := byt_get (hv'.kept hkp) hp
      cases e
      have HK : Hid _ := hkp
      clear hkp
      have z1 : (0 : Int) ≤ (k : Int) := by omega
      have z2 : (k : Int) < (ps.length : Int) := by omega
      go_wp2
      go_quiet (fail)
      go_wp2
      exact ⟨⟨k + 1, hlt, by go_num, HK.out.drewN _⟩, by simp [intOf]; omega⟩
    · have hke : k = ps.length := by omega
      subst hke
      go_wp2
      go_ret
      exact ⟨rfl, hkp⟩
section
open Go.Deep
variable {H : Type} {enc : TypeId × Value → H} {w : World} {base : Nat} {spare : Nat → Bool} {held : Bool}
set_option maxRecDepth 100000

theorem open_byt {fuel : Nat} {cs : List Value} {x : DataW H × List MemPlace} (h : DataW.trod enc Tryd.prog w base spare held fuel 5 cs = some x) : ∃ p : BytD, cs = bytC p ∧ True := by
  obtain ⟨a, e, _, s⟩ := DataW.trod_int Tryd.underlying5 h
  have h2 : 0 ≤ a ∧ a < 256 := by
    simp [Lit.wf, IntKind.min, IntKind.max, IntKind.signed, IntKind.bits] at s
    omega
  refine ⟨UInt8.ofNat a.toNat, ?_, trivial⟩
  rw [e, bytC]
  have : ((UInt8.ofNat a.toNat).toNat : Int) = a := by
    rw [UInt8.toNat_ofNat']
    omega
  rw [this]
end

end Go.Proofs.YtaadlhcpgjibeaaDoor
