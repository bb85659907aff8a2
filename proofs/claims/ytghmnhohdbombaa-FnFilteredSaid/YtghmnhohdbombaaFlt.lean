/-
  Lists of whole numbers: how they lie in memory, what the functions answer that copy and compare them, and what comes in.
-/
import Derived.Test.YtghmnhohdbombaaRows
import Derived.Test.YtghmnhohdbombaaBase
import Derived.Test.YtghmnhohdbombaaText
import Derived.Test.YtghmnhohdbombaaLeaf
import Derived.Laws.Cover2
import Derived.Deep.QuietTactic
namespace Go.Proofs.Ytghmnhohdbombaa
open Go.ChangeShapes Go.WideShapes Go.ChangeAt Go.RowKit Ieee
abbrev FltD := Nat
def fltC (p : FltD) : List Value := [.float .f64 p]
theorem fltC_len (p : FltD) : (fltC p).length = 1 := rfl
def flt0 : FltD := (0)
def FltAt (w : World) (v : Value) (ps : List FltD) : Prop := RowAt w v ps.length (ps.flatMap fltC)
def FltO (w : World) (lo hi : Nat) (v : Value) (ps : List FltD) : Prop := RowO w lo hi 23 1 v ps.length (ps.flatMap fltC)
theorem FltAt.kept {w w' : World} {v : Value} {ps : List FltD} (h : FltAt w v ps) (k : Kept w w') : FltAt w' v ps := RowAt.kept h k
theorem FltO.kept {w w' : World} {lo hi : Nat} {v : Value} {ps : List FltD} (h : FltO w lo hi v ps) (k : Kept w w') : FltO w' lo hi v ps := RowO.kept h k
theorem FltO.but {w w' : World} {lo hi lo' hi' : Nat} {v : Value} {ps : List FltD} (h : FltO w lo hi v ps) (k : But lo' hi' w w') (ho : hi ≤ lo' ∨ hi' ≤ lo) : FltO w' lo hi v ps := RowO.but h k ho
theorem FltO.mono {w : World} {lo hi lo' hi' : Nat} {v : Value} {ps : List FltD} (h : FltO w lo hi v ps) (h1 : lo' ≤ lo) (h2 : hi ≤ hi') : FltO w lo' hi' v ps := RowO.mono h h1 h2
theorem FltO.low {w : World} {lo hi : Nat} {v : Value} {ps : List FltD} (h : FltO w lo hi v ps) : FltO w lo w.heap.size v ps := RowO.low h
theorem FltO.at {w : World} {lo hi : Nat} {v : Value} {ps : List FltD} (h : FltO w lo hi v ps) : FltAt w v ps := own_row h.1
theorem FltO.form {w : World} {lo hi : Nat} {v : Value} {ps : List FltD} (h : FltO w lo hi v ps) : ∃ ao cap, v = .slice ao ps.length cap := by
  obtain ⟨ao, cap, e, _⟩ := own_form h.1
  exact ⟨ao, cap, e⟩

theorem flt_get {w : World} {v : Value} {ps : List FltD} (h : FltAt w v ps) {i : Nat} {p : FltD} (hp : ps[i]? = some p) :
    ∃ b o cap, v = .slice (some ⟨b, o, none⟩) ps.length cap ∧ w.cell? ⟨b, o + i, none⟩ = some (.float .f64 p) := by
  obtain ⟨b, o, cap, e, hc⟩ := row_get 1 fltC fltC_len (by omega) h hp
  exact ⟨b, o, cap, e, by have := hc 0 _ rfl; simpa using this⟩
theorem FltO.cells {w : World} {lo hi g cap n : Nat} {ps : List FltD} (h : FltO w lo hi (.slice (some ⟨g, 0, none⟩) n cap) ps) {i : Nat} {p : FltD} (hp : ps[i]? = some p) :
    w.cell? ⟨g, i, none⟩ = some (.float .f64 p) ∧ ∀ o, w.frozen? ⟨g, o, none⟩ = false := by
  obtain ⟨hc, hf⟩ := own_get 1 fltC fltC_len (by omega) h hp
  exact ⟨by have := hc 0 _ rfl; simpa using this, hf⟩
theorem FltO.set {w : World} {lo hi g cap n : Nat} {ps : List FltD} (h : FltO w lo hi (.slice (some ⟨g, 0, none⟩) n cap) ps) (hn : n = ps.length) {i : Nat} {p : FltD} (hp : ps[i]? = some p) (q : Nat) :
    FltO (w.setCell ⟨g, i, none⟩ (.float .f64 q)) lo hi (.slice (some ⟨g, 0, none⟩) n cap) (ps.set i q) := by
  subst hn
  have := RowO.set h (i * 1 + 0) (.float .f64 q)
  unfold FltO
  rw [List.length_set]
  rw [Nat.mul_comm i 1] at this
  rw [flat_set 1 fltC fltC_len ps i 0 p q (.float .f64 q) hp (by omega) rfl] at this
  simpa using this

theorem info23 : (Try.prog.info? 23).map (fun i => (i.zero, i.size, i.bytes)) = some (some (.float .f64 0), 1, 8) := by kernel_rfl

set_option maxHeartbeats 2000000 in
theorem toFltS (ps : List FltD) (v : Value) (w : World) (hv : FltAt w v ps) (hl : ps.length ≤ 1048576) :
    Calls Try.prog 17 #[v] w fun e w' => ∃ v', e = .returned v' ∧ FltO w' w.heap.size w'.heap.size v' ps ∧ Kept w w' := by
  obtain ⟨ao, cap, hsl⟩ := row_nil hv
  subst hsl
  obtain ⟨i0, hi, hz0, hz1, hz2⟩ := info_parts info23
  have hmk : (Instr.makeSlice 28 (.int .i64 (ps.length : Int)) (.int .i64 (ps.length : Int))).run Try.prog w = .ok (.slice (some ⟨w.heap.size, 0, none⟩) ps.length ps.length) (w.alloc (.cells (madeCells #[.float .f64 0] (ps.length * 1)) 23)) := by
    have := run_make (P := Try.prog) w 28 23 i0 _ Try.underlying28 hi hz0 .i64 .i64 (ps.length : Int) (ps.length : Int) (by omega) (by omega) (by rw [hz2]; omega) (by omega)
    rw [this, hz1]
    simp [Value.cells]
  have hm := row_made w w.heap.size 23 #[.float .f64 0] 1 (by omega) fltC flt0 fltC_len rfl ps.length (Nat.le_refl _) (by unfold maxLen; omega)
  clear hi hz0 hz1 hz2
  go_enter Try.func17, Try.ntmps17
  go_wp2
  clear hmk
  go_loopw [4] (fun i wr => ∃ k : Nat, k ≤ ps.length ∧ i = .int .i64 k ∧ FltO wr w.heap.size (w.heap.size + 1) (.slice (some ⟨w.heap.size, 0, none⟩) ps.length ps.length) (ps.take k ++ List.replicate (ps.length - k) flt0) ∧ Kept w wr) (fun i _ => ps.length - (intOf i).toNat)
  case atStart => exact ⟨0, by omega, rfl, by simpa [FltO] using hm, (But.refl _ _ _).alloc _⟩
  case round =>
    obtain ⟨k, hk, rfl, ho, hkp⟩ := hrel
    by_cases hlt : k < ps.length
    · obtain ⟨p, hp⟩ : ∃ p, ps[k]? = some p := ⟨_, List.getElem?_eq_getElem hlt⟩
      obtain ⟨b, o, cap', e, c0⟩ := flt_get (hv.kept hkp) hp
      cases e
      clear hm
      obtain ⟨d0, dz⟩ := ho.cells (fill_get ps flt0 hlt)
      have dz0 := dz k
      have d5 := ho.set (fill_len ps flt0 (by omega)).symm (fill_get ps flt0 hlt) p
      have HS : Hid _ := d5
      clear d5 dz ho
      go_wp2
      refine ⟨⟨k + 1, hlt, by go_num, by rw [← fill_set ps flt0 hp]; exact HS.out, ?_⟩, by simp [intOf]; omega⟩
      exact hkp.setNew (by simp) _
    · have hke : k = ps.length := by omega
      subst hke
      clear hm
      have hsz := hkp.size
      go_wp2
      go_ret
      have hs := own_lt ho.1 (g := w.heap.size) rfl
      refine ⟨_, rfl, ?_, hkp⟩
      simp only [Nat.sub_self, List.replicate_zero, List.append_nil, List.take_length] at ho
      exact RowO.low ho

set_option maxHeartbeats 2000000 in
theorem eqFltS (ps : List FltD) (v v' : Value) (w : World) (hv : FltAt w v ps) (hv' : FltAt w v' ps) (hn : ps.length ≤ 9000000000000000000) :
    Calls Try.prog 18 #[v, v'] w fun e w' => e = .returned (.bool true) ∧ Kept w w' := by
  obtain ⟨ao, cap, hsl⟩ := row_nil hv
  subst hsl
  obtain ⟨ao', cap', hsl⟩ := row_nil hv'
  subst hsl
  go_enter Try.func18, Try.ntmps18
  go_wp2
  go_loopw [5] (fun i wr => ∃ (k : Nat), k ≤ ps.length ∧ i = .int .i64 k ∧ Kept w wr) (fun i _ => ps.length - (intOf i).toNat)
  case atStart => exact ⟨0, by omega, rfl, But.refl _ _ _⟩
  case round =>
    obtain ⟨k, hk, rfl, hkp⟩ := hrel
    by_cases hlt : k < ps.length
    · obtain ⟨p, hp⟩ : ∃ p, ps[k]? = some p := ⟨_, List.getElem?_eq_getElem hlt⟩
      obtain ⟨b, o, cap1, e, c0⟩ := flt_get (hv.kept hkp) hp
      cases e
      obtain ⟨b', o', cap1', e, c0'⟩ := flt_get (hv'.kept hkp) hp
      cases e
      have HK : Hid _ := hkp
      clear hkp
      have z1 : (0 : Int) ≤ (k : Int) := by omega
      have z2 : (k : Int) < (ps.length : Int) := by omega
      go_wp2_with fail
      go_region_held3 (fun w' => w'.cell? ⟨b, o + k, none⟩ = some (.float .f64 p) ∧ w'.cell? ⟨b', o' + k, none⟩ = some (.float .f64 p) ∧ Kept wr w') (first | (refine ⟨?_, ?_, ?_⟩ <;> first | assumption | exact But.refl _ _ _ | exact (But.refl _ _ _).drew) | simp [go_sem, *])
        (first | (go_at_call 30; refine (sameFloat _ _ rfl _).mono ?_; rintro e w' ⟨rfl, rfl⟩))
      go_wp2
      exact ⟨⟨k + 1, hlt, by go_num, HK.out.drewN _⟩, by simp [intOf]; omega⟩
    · have hke : k = ps.length := by omega
      subst hke
      go_wp2
      go_ret
      exact ⟨rfl, hkp⟩
section
variable {H : Type} {enc : TypeId × Value → H} {P : Program} {w : World} {base : Nat} {spare : Nat → Bool} {held : Bool}
theorem trod_float {t : TypeId} {k : FloatKind} {fuel : Nat} {cs : List Value} {x : DataW H × List MemPlace} (ht : P.underlying t = some (.float k)) (h : DataW.trod enc P w base spare held fuel t cs = some x) :
    ∃ b, cs = [.float k b] ∧ x = (.lit (.float k b), []) ∧ (Lit.float k b).wf = true := by
  cases fuel with
  | zero => simp [DataW.trod] at h
  | succ n =>
    unfold DataW.trod at h
    rw [ht] at h
    split at h <;> simp_all
end
section
open Go.Deep
variable {H : Type} {enc : TypeId × Value → H} {w : World} {base : Nat} {spare : Nat → Bool} {held : Bool}
set_option maxRecDepth 100000

theorem open_flt {fuel : Nat} {cs : List Value} {x : DataW H × List MemPlace} (h : DataW.trod enc Try.prog w base spare held fuel 23 cs = some x) : ∃ p : FltD, cs = fltC p ∧ p < 18446744073709551616 := by
  obtain ⟨a, e, _, hw⟩ := trod_float Try.underlying23 h
  exact ⟨a, e, by simpa [Lit.wf] using hw⟩
theorem open_fltS {v : Value} {d : DataW H} {ps : List MemPlace} {r : Reach} {b0 : Nat} (hval : Value.okWide Try.prog w r b0 28 v) (hd : DataW.Trod enc Try.prog w base spare held 28 v d ps) : ∃ l : List FltD, FltAt w v l ∧ (∀ p ∈ l, p < 18446744073709551616) ∧ l.length ≤ maxLen := by
  obtain ⟨ao, len, cap, rfl⟩ := okWide_slice Try.underlying28 hval
  obtain ⟨fuel, hf⟩ := hd
  obtain ⟨u, l, e, hr, hq, hl⟩ := open_rows (α := FltD) Try.underlying28 (show Try.prog.cellsOf 23 = 1 by kernel_rfl) (by omega) fltC fltC_len (fun p => p < 18446744073709551616) (fun _ _ _ h => open_flt h) hf
  simp [Value.cells] at e
  subst e
  exact ⟨l, hr, hq, hl⟩
end

end Go.Proofs.Ytghmnhohdbombaa
