/-
  Lists of flags: how they lie in memory, what the functions answer that copy and compare them, and what comes in.
-/
import Derived.Test.YtpnplfngglfpoaaRows
import Derived.Test.YtpnplfngglfpoaaBase
import Derived.Test.YtpnplfngglfpoaaText
import Derived.Deep.QuietTactic
namespace Go.Proofs.Ytpnplfngglfpoaa
open Go.ChangeShapes Go.WideShapes Go.ChangeAt Go.RowKit
abbrev FlagD := Bool
def flagC (p : FlagD) : List Value := [.bool p]
theorem flagC_len (p : FlagD) : (flagC p).length = 1 := rfl
def flag0 : FlagD := (false)
def FlagAt (w : World) (v : Value) (ps : List FlagD) : Prop := RowAt w v ps.length (ps.flatMap flagC)
def FlagO (w : World) (lo hi : Nat) (v : Value) (ps : List FlagD) : Prop := RowO w lo hi 4 1 v ps.length (ps.flatMap flagC)
theorem FlagAt.kept {w w' : World} {v : Value} {ps : List FlagD} (h : FlagAt w v ps) (k : Kept w w') : FlagAt w' v ps := RowAt.kept h k
theorem FlagO.kept {w w' : World} {lo hi : Nat} {v : Value} {ps : List FlagD} (h : FlagO w lo hi v ps) (k : Kept w w') : FlagO w' lo hi v ps := RowO.kept h k
theorem FlagO.but {w w' : World} {lo hi lo' hi' : Nat} {v : Value} {ps : List FlagD} (h : FlagO w lo hi v ps) (k : But lo' hi' w w') (ho : hi ≤ lo' ∨ hi' ≤ lo) : FlagO w' lo hi v ps := RowO.but h k ho
theorem FlagO.mono {w : World} {lo hi lo' hi' : Nat} {v : Value} {ps : List FlagD} (h : FlagO w lo hi v ps) (h1 : lo' ≤ lo) (h2 : hi ≤ hi') : FlagO w lo' hi' v ps := RowO.mono h h1 h2
theorem FlagO.low {w : World} {lo hi : Nat} {v : Value} {ps : List FlagD} (h : FlagO w lo hi v ps) : FlagO w lo w.heap.size v ps := RowO.low h
theorem FlagO.at {w : World} {lo hi : Nat} {v : Value} {ps : List FlagD} (h : FlagO w lo hi v ps) : FlagAt w v ps := own_row h.1
theorem FlagO.form {w : World} {lo hi : Nat} {v : Value} {ps : List FlagD} (h : FlagO w lo hi v ps) : ∃ ao cap, v = .slice ao ps.length cap := by
  obtain ⟨ao, cap, e, _⟩ := own_form h.1
  exact ⟨ao, cap, e⟩

theorem flag_get {w : World} {v : Value} {ps : List FlagD} (h : FlagAt w v ps) {i : Nat} {p : FlagD} (hp : ps[i]? = some p) :
    ∃ b o cap, v = .slice (some ⟨b, o, none⟩) ps.length cap ∧ w.cell? ⟨b, o + i, none⟩ = some (.bool p) := by
  obtain ⟨b, o, cap, e, hc⟩ := row_get 1 flagC flagC_len (by omega) h hp
  exact ⟨b, o, cap, e, by have := hc 0 _ rfl; simpa using this⟩
theorem FlagO.cells {w : World} {lo hi g cap n : Nat} {ps : List FlagD} (h : FlagO w lo hi (.slice (some ⟨g, 0, none⟩) n cap) ps) {i : Nat} {p : FlagD} (hp : ps[i]? = some p) :
    w.cell? ⟨g, i, none⟩ = some (.bool p) ∧ ∀ o, w.frozen? ⟨g, o, none⟩ = false := by
  obtain ⟨hc, hf⟩ := own_get 1 flagC flagC_len (by omega) h hp
  exact ⟨by have := hc 0 _ rfl; simpa using this, hf⟩
theorem FlagO.set {w : World} {lo hi g cap n : Nat} {ps : List FlagD} (h : FlagO w lo hi (.slice (some ⟨g, 0, none⟩) n cap) ps) (hn : n = ps.length) {i : Nat} {p : FlagD} (hp : ps[i]? = some p) (q : Bool) :
    FlagO (w.setCell ⟨g, i, none⟩ (.bool q)) lo hi (.slice (some ⟨g, 0, none⟩) n cap) (ps.set i q) := by
  subst hn
  have := RowO.set h (i * 1 + 0) (.bool q)
  unfold FlagO
  rw [List.length_set]
  rw [Nat.mul_comm i 1] at this
  rw [flat_set 1 flagC flagC_len ps i 0 p q (.bool q) hp (by omega) rfl] at this
  simpa using this

theorem info4 : (Try.prog.info? 4).map (fun i => (i.zero, i.size, i.bytes)) = some (some (.bool false), 1, 1) := by kernel_rfl

set_option maxHeartbeats 2000000 in
theorem toFlagS (ps : List FlagD) (v : Value) (w : World) (hv : FlagAt w v ps) (hl : ps.length ≤ 1048576) :
    Calls Try.prog 36 #[v] w fun e w' => ∃ v', e = .returned v' ∧ FlagO w' w.heap.size w'.heap.size v' ps ∧ Kept w w' := by
  obtain ⟨ao, cap, hsl⟩ := row_nil hv
  subst hsl
  obtain ⟨i0, hi, hz0, hz1, hz2⟩ := info_parts info4
  have hmk : (Instr.makeSlice 64 (.int .i64 (ps.length : Int)) (.int .i64 (ps.length : Int))).run Try.prog w = .ok (.slice (some ⟨w.heap.size, 0, none⟩) ps.length ps.length) (w.alloc (.cells (madeCells #[.bool false] (ps.length * 1)) 4)) := by
    have := run_make (P := Try.prog) w 64 4 i0 _ Try.underlying64 hi hz0 .i64 .i64 (ps.length : Int) (ps.length : Int) (by omega) (by omega) (by rw [hz2]; omega) (by omega)
    rw [this, hz1]
    simp [Value.cells]
  have hm := row_made w w.heap.size 4 #[.bool false] 1 (by omega) flagC flag0 flagC_len rfl ps.length (Nat.le_refl _) (by unfold maxLen; omega)
  clear hi hz0 hz1 hz2
  go_enter Try.func36, Try.ntmps36
  go_wp2
  clear hmk
  go_loopw [4] (fun i wr => ∃ k : Nat, k ≤ ps.length ∧ i = .int .i64 k ∧ FlagO wr w.heap.size (w.heap.size + 1) (.slice (some ⟨w.heap.size, 0, none⟩) ps.length ps.length) (ps.take k ++ List.replicate (ps.length - k) flag0) ∧ Kept w wr) (fun i _ => ps.length - (intOf i).toNat)
  case atStart => exact ⟨0, by omega, rfl, by simpa [FlagO] using hm, (But.refl _ _ _).alloc _⟩
  case round =>
    obtain ⟨k, hk, rfl, ho, hkp⟩ := hrel
    by_cases hlt : k < ps.length
    · obtain ⟨p, hp⟩ : ∃ p, ps[k]? = some p := ⟨_, List.getElem?_eq_getElem hlt⟩
      obtain ⟨b, o, cap', e, c0⟩ := flag_get (hv.kept hkp) hp
      cases e
      clear hm
      obtain ⟨d0, dz⟩ := ho.cells (fill_get ps flag0 hlt)
      have dz0 := dz k
      have d5 := ho.set (fill_len ps flag0 (by omega)).symm (fill_get ps flag0 hlt) p
      have HS : Hid _ := d5
      clear d5 dz ho
      go_wp2
      refine ⟨⟨k + 1, hlt, by go_num, by rw [← fill_set ps flag0 hp]; exact HS.out, ?_⟩, by simp [intOf]; omega⟩
      exact hkp.setNew (by simp) _
    · have hke : k = ps.length := by omega
      subst hke
      clear hm
      have hsz := hkp.size
      go_wp2
      go_ret
      have hs := own_lt ho.1 (g := w.heap.size) rfl
      refine ⟨_, rfl, ?_, hkp⟩
      simp only [Nat.sub_self, List.replicate_zero, List.append_nil, List.take_length] at ho
      exact RowO.low ho

set_option maxHeartbeats 2000000 in
theorem eqFlagS (ps : List FlagD) (v v' : Value) (w : World) (hv : FlagAt w v ps) (hv' : FlagAt w v' ps) (hn : ps.length ≤ 9000000000000000000) :
    Calls Try.prog 38 #[v, v'] w fun e w' => e = .returned (.bool true) ∧ Kept w w' := by
  obtain ⟨ao, cap, hsl⟩ := row_nil hv
  subst hsl
  obtain ⟨ao', cap', hsl⟩ := row_nil hv'
  subst hsl
  go_enter Try.func38, Try.ntmps38
  go_wp2
  go_loopw [5] (fun i wr => ∃ (k : Nat), k ≤ ps.length ∧ i = .int .i64 k ∧ Kept w wr) (fun i _ => ps.length - (intOf i).toNat)
  case atStart => exact ⟨0, by omega, rfl, But.refl _ _ _⟩
  case round =>
    obtain ⟨k, hk, rfl, hkp⟩ := hrel
    by_cases hlt : k < ps.length
    · obtain ⟨p, hp⟩ : ∃ p, ps[k]? = some p := ⟨_, List.getElem?_eq_getElem hlt⟩
      obtain ⟨b, o, cap1, e, c0⟩ := flag_get (hv.kept hkp) hp
      cases e
      obtain ⟨b', o', cap1', e, c0'⟩ := flag_get (hv'.kept hkp) hp
      cases e
      have HK : Hid _ := hkp
      clear hkp
      have z1 : (0 : Int) ≤ (k : Int) := by omega
      have z2 : (k : Int) < (ps.length : Int) := by omega
      go_wp2
      go_quiet (fail)
      go_wp2
      exact ⟨⟨k + 1, hlt, by go_num, HK.out.drewN _⟩, by simp [intOf]; omega⟩
    · have hke : k = ps.length := by omega
      subst hke
      go_wp2
      go_ret
      exact ⟨rfl, hkp⟩
section
open Go.Deep
variable {H : Type} {enc : TypeId × Value → H} {w : World} {base : Nat} {spare : Nat → Bool} {held : Bool}
set_option maxRecDepth 100000

theorem open_flag {fuel : Nat} {cs : List Value} {x : DataW H × List MemPlace} (h : DataW.trod enc Try.prog w base spare held fuel 4 cs = some x) : ∃ p : FlagD, cs = flagC p ∧ True := by
  obtain ⟨a, e, _⟩ := DataW.trod_bool Try.underlying4 h
  exact ⟨a, e, trivial⟩
theorem open_flagS {v : Value} {d : DataW H} {ps : List MemPlace} {r : Reach} {b0 : Nat} (hval : Value.okWide Try.prog w r b0 64 v) (hd : DataW.Trod enc Try.prog w base spare held 64 v d ps) : ∃ l : List FlagD, FlagAt w v l ∧ (∀ p ∈ l, True) ∧ l.length ≤ maxLen := by
  obtain ⟨ao, len, cap, rfl⟩ := okWide_slice Try.underlying64 hval
  obtain ⟨fuel, hf⟩ := hd
  obtain ⟨u, l, e, hr, hq, hl⟩ := open_rows (α := FlagD) Try.underlying64 (show Try.prog.cellsOf 4 = 1 by kernel_rfl) (by omega) flagC flagC_len (fun _ => True) (fun _ _ _ h => open_flag h) hf
  simp [Value.cells] at e
  subst e
  exact ⟨l, hr, hq, hl⟩
end

end Go.Proofs.Ytpnplfngglfpoaa
