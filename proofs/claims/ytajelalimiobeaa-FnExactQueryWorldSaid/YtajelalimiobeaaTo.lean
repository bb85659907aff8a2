/-
  What the functions answer that copy a world that comes in: the same world, in memory of its own.
-/
import Derived.Test.YtajelalimiobeaaRows
import Derived.Test.YtajelalimiobeaaOwn
namespace Go.Proofs.Ytajelalimiobeaa
open Go.ChangeShapes Go.WideShapes Go.ChangeAt Go.RowKit

theorem made_flat {α : Type} (z : Array Value) (k : Nat) (hk : 0 < k) (f : α → List Value) (a : α) (hf : ∀ a, (f a).length = k) (hz : f a = z.toList) (n : Nat) : (madeCells z (n * k)).toList = (List.replicate n a).flatMap f := by
  have hs : z.size = k := by rw [← Array.length_toList, ← hz, hf]
  apply List.ext_getElem?
  intro m
  by_cases hm : m < n * k
  · have h1 : m / k < n := (Nat.div_lt_iff_lt_mul hk).2 hm
    have h2 : m % k < k := Nat.mod_lt _ hk
    have h3 := flat_get k f hf (List.replicate n a) (m / k) (m % k) a (by simp [h1]) h2
    rw [Nat.div_add_mod] at h3
    rw [h3, hz, Array.getElem?_toList, Array.getElem?_toList]
    simp only [madeCells, Array.getElem?_map, Array.getElem?_range, hm, if_true, Option.map_some, hs]
    rw [getElem!_pos z (m % k) (by omega), Array.getElem?_eq_getElem (by omega)]
  · rw [List.getElem?_eq_none (by rw [Array.length_toList, size_madeCells]; omega), List.getElem?_eq_none (by rw [flat_len k f hf]; simp; omega)]
theorem row_made {α : Type} (w : World) (lo : Nat) (e : TypeId) (z : Array Value) (k : Nat) (hk : 0 < k) (f : α → List Value) (a : α) (hf : ∀ a, (f a).length = k) (hz : f a = z.toList) (n : Nat) (hlo : lo ≤ w.heap.size) (hn : n ≤ maxLen) :
    RowO (w.alloc (.cells (madeCells z (n * k)) e)) lo (w.heap.size + 1) e k (.slice (some ⟨w.heap.size, 0, none⟩) n n) n ((List.replicate n a).flatMap f) := by
  refine ⟨⟨by rw [flat_len k f hf]; simp, .inr ⟨w.heap.size, n, _, rfl, hlo, heap_alloc_new w _, Nat.le_refl _, hn, size_madeCells _ _, ?_⟩⟩, fun g hg => ?_⟩
  · rw [made_flat z k hk f a hf hz, List.take_of_length_le (by rw [flat_len k f hf]; simp)]
  · simp [Value.ownBlock] at hg
    omega

theorem info89 : (Try.prog.info? 89).map (fun i => (i.zero, i.size, i.bytes)) = some (some (.agg #[.string ByteArray.empty, .int .i64 0, .int .i64 0]), 3, 32) := by kernel_rfl
theorem info36 : (Try.prog.info? 36).map (fun i => (i.zero, i.size, i.bytes)) = some (some (.agg #[.int .i64 0, .slice none 0 0]), 2, 32) := by kernel_rfl
def p0 : PD := (ByteArray.empty, 0, 0)
def z0 : PE := (0, .slice none 0 0, [])

theorem fill_get {α : Type} (l : List α) (d : α) {k : Nat} (h : k < l.length) : (l.take k ++ List.replicate (l.length - k) d)[k]? = some d := by
  rw [List.getElem?_append_right (by simp; omega)]
  have : k - (l.take k).length = 0 := by simp; omega
  rw [this, List.getElem?_replicate, if_pos (by omega)]
theorem fill_set {α : Type} (l : List α) (d : α) {k : Nat} {a : α} (h : l[k]? = some a) : (l.take k ++ List.replicate (l.length - k) d).set k a = l.take (k + 1) ++ List.replicate (l.length - (k + 1)) d := by
  have hk : k < l.length := (List.getElem?_eq_some_iff.1 h).1
  have hl : (l.take k).length = k := by simp; omega
  rw [List.set_append_right _ _ (by omega), hl, Nat.sub_self, show l.length - k = (l.length - (k + 1)) + 1 by omega, List.replicate_succ, List.set_cons_zero, take_snoc h, List.append_assoc]
  rfl
theorem fill_len {α : Type} (l : List α) (d : α) {k : Nat} (h : k ≤ l.length) : (l.take k ++ List.replicate (l.length - k) d).length = l.length := by simp; omega

theorem toPart (s : ByteArray) (a b : Int) (w : World) :
    Calls Try.prog 139 #[.agg #[.string s, .int .i64 a, .int .i64 b]] w fun e w' => e = .returned (.agg #[.string s, .int .i64 a, .int .i64 b]) ∧ Kept w w' := by
  go_enter Try.func139, Try.ntmps139
  go_wp2
  refine bodyPost_ret (v := .agg #[.string s, .int .i64 a, .int .i64 b]) (by simp [results, Try.results139, go_sem]) rfl ?_
  exact ⟨rfl, (((But.refl _ _ _).alloc _).alloc _).alloc _⟩

set_option maxHeartbeats 1000000 in
theorem toPartS (ps : List PD) (v : Value) (w : World) (hv : PartsAt w v ps) (hl : ps.length ≤ 1048576) :
    Calls Try.prog 120 #[v] w fun e w' => ∃ v', e = .returned v' ∧ PartsO w' w.heap.size w'.heap.size v' ps ∧ Kept w w' := by
  obtain ⟨ao, cap, hsl⟩ := row_nil hv
  subst hsl
  obtain ⟨i0, hi, hz0, hz1, hz2⟩ := info_parts info89
  have hmk : (Instr.makeSlice 34 (.int .i64 (ps.length : Int)) (.int .i64 (ps.length : Int))).run Try.prog w = .ok (.slice (some ⟨w.heap.size, 0, none⟩) ps.length ps.length) (w.alloc (.cells (madeCells #[.string ByteArray.empty, .int .i64 0, .int .i64 0] (ps.length * 3)) 89)) := by
    have := run_make (P := Try.prog) w 34 89 i0 _ Try.underlying34 hi hz0 .i64 .i64 (ps.length : Int) (ps.length : Int) (by omega) (by omega) (by rw [hz2]; omega) (by omega)
    rw [this, hz1]
    simp [Value.cells]
  have hm := row_made w w.heap.size 89 #[.string ByteArray.empty, .int .i64 0, .int .i64 0] 3 (by omega) pc p0 pc_len rfl ps.length (Nat.le_refl _) (by unfold maxLen; omega)
  clear hi hz0 hz1 hz2
  go_enter Try.func120, Try.ntmps120
  go_wp2
  clear hmk
  go_loopw [4] (fun i wr => ∃ k : Nat, k ≤ ps.length ∧ i = .int .i64 k ∧ PartsO wr w.heap.size (w.heap.size + 1) (.slice (some ⟨w.heap.size, 0, none⟩) ps.length ps.length) (ps.take k ++ List.replicate (ps.length - k) p0) ∧ Kept w wr) (fun i _ => ps.length - (intOf i).toNat)
  case atStart => exact ⟨0, by omega, rfl, by simpa [PartsO, partCells] using hm, (But.refl _ _ _).alloc _⟩
  case round =>
    obtain ⟨k, hk, rfl, ho, hkp⟩ := hrel
    by_cases hlt : k < ps.length
    · obtain ⟨p, hp⟩ : ∃ p, ps[k]? = some p := ⟨_, List.getElem?_eq_getElem hlt⟩
      obtain ⟨b, o, cap', e, c0, c1, c2⟩ := parts_get (hv.kept hkp) hp
      cases e
      clear hm
      go_wp2_with (go_at_call 139; refine (toPart _ _ _ _).mono ?_; rintro e w' ⟨rfl, hk2⟩
                   have ho2 := PartsO.kept ho hk2
                   obtain ⟨d0, d1, d2, dz⟩ := ho2.cells (fill_get ps p0 hlt)
                   have dz0 := dz (k * 3)
                   have dz1 := dz (k * 3 + 1)
                   have dz2 := dz (k * 3 + 2)
                   obtain ⟨d3, d4, d5⟩ := ho2.store (fill_len ps p0 (by omega)).symm (fill_get ps p0 hlt) p
                   have HS : Hid _ := d5
                   clear d5 dz ho ho2)
      refine ⟨⟨k + 1, hlt, by go_num, by rw [← fill_set ps p0 hp]; exact HS.out, ?_⟩, by simp [intOf]; omega⟩
      exact (((hkp.trans hk2).setNew (by simp) _).setNew (by simp) _).setNew (by simp) _
    · have hke : k = ps.length := by omega
      subst hke
      clear hm
      have hsz := hkp.size
      go_wp2
      go_ret
      have hs := own_lt ho.1 (g := w.heap.size) rfl
      refine ⟨_, rfl, ?_, hkp⟩
      simp only [Nat.sub_self, List.replicate_zero, List.append_nil, List.take_length] at ho
      exact RowO.low ho

theorem toEntity (ps : List PD) (id : Int) (v : Value) (w : World) (hv : PartsAt w v ps) (hl : ps.length ≤ 1048576) :
    Calls Try.prog 103 #[.agg #[.int .i64 id, v]] w fun e w' => ∃ v', e = .returned (.agg #[.int .i64 id, v']) ∧ PartsO w' w.heap.size w'.heap.size v' ps ∧ Kept w w' := by
  obtain ⟨ao, cap, hsl⟩ := row_nil hv
  subst hsl
  go_enter Try.func103, Try.ntmps103
  go_wp2_with (go_at_call 120; refine (toPartS ps _ _ (hv.kept ((((But.refl _ _ _).alloc _).alloc _).alloc _)) hl).mono ?_
               rintro e w' ⟨v', rfl, ho, hk⟩
               obtain ⟨ao', cap', hf, _⟩ := own_form ho.1
               subst hf
               have K : Kept w w' := ((((But.refl _ _ _).alloc _).alloc _).alloc _).trans hk
               have L1 := (((Loc.new _ [.int .i64 0, .slice none 0 0] 36).alloc _).kept hk)
               have L2 := (Loc.new _ [.int .i64 id, .slice none 0 0] 36).kept hk
               simp only [World.size_alloc] at L1 L2 ho
               have f0 := L1.cell 0 rfl
               have f1 := L1.cell 1 rfl
               have f2 := L2.cell 0 rfl
               have f3 := L2.cell 1 rfl
               have g0 := L1.frozen 0
               have g1 := L1.frozen 1
               have g2 := L2.frozen 0
               have g3 := L2.frozen 1
               have ho : Hid _ := ho
               have K : Hid _ := K
               clear hk L1 L2)
  have B : But w.heap.size (w.heap.size + 3) w' (((w'.setCell ⟨w.heap.size + 1 + 1, 1, none⟩ (.slice ao' ps.length cap')).setCell ⟨w.heap.size + 1, 0, none⟩ (.int .i64 id)).setCell ⟨w.heap.size + 1, 1, none⟩ (.slice ao' ps.length cap')) :=
    (((But.refl _ _ _).setCell (by simp; omega) (by simp) _).setCell (by simp) (by simp) _).setCell (by simp) (by simp) _
  refine bodyPost_ret (v := .agg #[.int .i64 id, .slice ao' ps.length cap']) (by simp [results, Try.results103, go_sem, f0, f1]) rfl ?_
  exact ⟨_, rfl, ((ho.out.but B (by omega)).mono (by omega) B.size).low, (K.out.onto B (Nat.le_refl _))⟩

set_option maxHeartbeats 1000000 in
theorem toEntityS (zs : List PE) (v : Value) (w : World) (hv : EntsAt w v zs) (hl : zs.length ≤ 1048576) (hp : ∀ z ∈ zs, z.2.2.length ≤ 1048576) :
    Calls Try.prog 70 #[v] w fun e w' => ∃ v' zs', e = .returned v' ∧ zs'.map strip = zs.map strip ∧ EntsO w' w.heap.size w'.heap.size v' zs' ∧ Kept w w' := by
  obtain ⟨ao, cap, hsl⟩ := row_nil hv.1
  subst hsl
  obtain ⟨i0, hi, hz0, hz1, hz2⟩ := info_parts info36
  have hmk : (Instr.makeSlice 23 (.int .i64 (zs.length : Int)) (.int .i64 (zs.length : Int))).run Try.prog w = .ok (.slice (some ⟨w.heap.size, 0, none⟩) zs.length zs.length) (w.alloc (.cells (madeCells #[.int .i64 0, .slice none 0 0] (zs.length * 2)) 36)) := by
    have := run_make (P := Try.prog) w 23 36 i0 _ Try.underlying23 hi hz0 .i64 .i64 (zs.length : Int) (zs.length : Int) (by omega) (by omega) (by rw [hz2]; omega) (by omega)
    rw [this, hz1]
    simp [Value.cells]
  have hm := row_made w w.heap.size 36 #[.int .i64 0, .slice none 0 0] 2 (by omega) ec z0 ec_len rfl zs.length (Nat.le_refl _) (by unfold maxLen; omega)
  clear hi hz0 hz1 hz2
  go_enter Try.func70, Try.ntmps70
  go_wp2
  clear hmk
  go_loopw [4] (fun i wr => ∃ (k : Nat) (ys : List PE), k ≤ zs.length ∧ i = .int .i64 k ∧ ys.length = zs.length ∧ ys.map strip = (zs.take k ++ List.replicate (zs.length - k) z0).map strip ∧
    EntsO wr w.heap.size wr.heap.size (.slice (some ⟨w.heap.size, 0, none⟩) zs.length zs.length) ys ∧ Kept w wr) (fun i _ => zs.length - (intOf i).toNat)
  case atStart =>
    refine ⟨0, List.replicate zs.length z0, by omega, rfl, by simp, by simp, ⟨?_, fun i z hz => ?_, fun i j z z' hij hz hz' => ?_⟩, (But.refl _ _ _).alloc _⟩
    · have := hm.low
      simpa [entCells] using this
    · obtain rfl : z = z0 := List.eq_of_mem_replicate (List.mem_of_getElem? hz)
      exact ⟨World.ownsRow_nil _ _ _ _, fun g hg => by simp [z0, Value.ownBlock] at hg⟩
    · obtain rfl : z = z0 := List.eq_of_mem_replicate (List.mem_of_getElem? hz)
      exact fun g hg => by simp [z0, Value.ownBlock] at hg
  case round =>
    obtain ⟨k, ys, hk, rfl, hyl, hys, ho, hkp⟩ := hrel
    have HY : Hid (ys.length = zs.length ∧ ys.map strip = (zs.take k ++ List.replicate (zs.length - k) z0).map strip) := ⟨hyl, hys⟩
    clear hyl hys hm
    by_cases hlt : k < zs.length
    · obtain ⟨z, hz⟩ : ∃ z, zs[k]? = some z := ⟨_, List.getElem?_eq_getElem hlt⟩
      obtain ⟨y, hy⟩ : ∃ y, ys[k]? = some y := ⟨_, List.getElem?_eq_getElem (by have := HY.out.1; omega)⟩
      obtain ⟨b, o, cap', ao', n, cap'', e, ez, c0, c1, en, hpa⟩ := ents_get (hv.kept hkp) hz
      cases e
      subst en
      have hpl := hp z (List.mem_of_getElem? hz)
      go_wp2_with (go_at_call 103; refine (toEntity _ _ _ _ hpa hpl).mono ?_
                   rintro e w' ⟨pv, rfl, hpo, hk2⟩
                   obtain ⟨ao2, cap2, hf, _⟩ := own_form hpo.1
                   subst hf
                   have ho2 := (ho.kept hk2).mono (Nat.le_refl _) hk2.size
                   have hpo2 := hpo.mono (Nat.le_trans hkp.size (Nat.le_refl _)) (Nat.le_refl _)
                   obtain ⟨d0, d1, dz⟩ := ho2.cells hy
                   have dz0 := dz (k * 2)
                   have dz1 := dz (k * 2 + 1)
                   obtain ⟨d3, d4⟩ := ho2.store HY.out.1.symm hy z.1 hpo2 (fun j x _ hx => ap_low ((ho.parts j x hx).kept hk2) hpo (by omega))
                   have HS : Hid _ := d4
                   clear d4 dz ho ho2 hpo hpo2)
      have K2 := ((hkp.trans hk2).setNew (p := ⟨w.heap.size, k * 2, none⟩) (by simp) (.int .i64 z.1)).setNew (p := ⟨w.heap.size, k * 2 + 1, none⟩) (by simp) (.slice ao2 z.2.2.length cap2)
      refine ⟨⟨k + 1, _, hlt, by go_num, by rw [List.length_set]; exact HY.out.1, ?_, HS.out.low, K2⟩, by simp [intOf]; omega⟩
      rw [← fill_set zs z0 hz, List.map_set, List.map_set, HY.out.2]
      rfl
    · have hke : k = zs.length := by omega
      subst hke
      go_wp2
      go_ret
      refine ⟨_, ys, rfl, ?_, ho, hkp⟩
      have := HY.out.2
      simpa using this

theorem toWorld (D : WD) (v : Value) (w : World) (hv : WAt w v D) (hl : ecost D.2.2 ≤ 1048576) :
    Calls Try.prog 26 #[v] w fun e w' => ∃ v', e = .returned v' ∧ WO w' w.heap.size w'.heap.size v' D ∧ Kept w w' := by
  obtain ⟨ev, zs, rfl, he, hes⟩ := hv
  obtain ⟨ao, cap, hsl⟩ := row_nil he.1
  subst hsl
  have hzl : zs.length = D.2.2.length := by rw [← hes]; simp
  have hl1 : zs.length ≤ 1048576 := by unfold ecost at hl; omega
  have hl2 : ∀ z ∈ zs, z.2.2.length ≤ 1048576 := fun z hz => by
    obtain ⟨i, hi⟩ := List.mem_iff_getElem?.1 hz
    have := parts_le (l := D.2.2) (k := i) (e := strip z) (by rw [← hes, List.getElem?_map, hi]; rfl)
    unfold ecost at hl
    unfold pcost at this
    simp only [strip] at this
    omega
  have HE : Hid (zs.map strip = D.2.2) := hes
  clear hes hzl
  go_enter Try.func26, Try.ntmps26
  go_wp2_with (go_at_call 70; refine (toEntityS zs _ _ (he.kept ((((But.refl _ _ _).alloc _).alloc _).alloc _)) hl1 hl2).mono ?_
               rintro e w' ⟨v', zs', rfl, hst, ho, hk⟩
               obtain ⟨ao', cap', hf, _⟩ := own_form ho.row.1
               subst hf
               have HST : Hid (zs'.map strip = zs.map strip) := hst
               have K : Kept w w' := ((((But.refl _ _ _).alloc _).alloc _).alloc _).trans hk
               have L1 := (((Loc.new _ [.int .i64 0, .int .i64 0, .slice none 0 0] 25).alloc _).kept hk)
               have L2 := (Loc.new _ [.int .i64 D.1, .int .i64 D.2.1, .slice none 0 0] 25).kept hk
               simp only [World.size_alloc] at L1 L2 ho
               have f0 := L1.cell 0 rfl
               have f1 := L1.cell 1 rfl
               have f2 := L1.cell 2 rfl
               have f3 := L2.cell 0 rfl
               have f4 := L2.cell 1 rfl
               have f5 := L2.cell 2 rfl
               have g0 := L1.frozen 0
               have g1 := L1.frozen 1
               have g2 := L1.frozen 2
               have g5 := L2.frozen 2
               have ho : Hid _ := ho
               have K : Hid _ := K
               clear hk L1 L2 hst)
  have B : But w.heap.size (w.heap.size + 3) w' ((((w'.setCell ⟨w.heap.size + 1 + 1, 2, none⟩ (.slice ao' zs'.length cap')).setCell ⟨w.heap.size + 1, 0, none⟩ (.int .i64 D.1)).setCell ⟨w.heap.size + 1, 1, none⟩ (.int .i64 D.2.1)).setCell ⟨w.heap.size + 1, 2, none⟩ (.slice ao' zs'.length cap')) :=
    ((((But.refl _ _ _).setCell (by simp; omega) (by simp) _).setCell (by simp) (by simp) _).setCell (by simp) (by simp) _).setCell (by simp) (by simp) _
  refine bodyPost_ret (v := .agg #[.int .i64 D.1, .int .i64 D.2.1, .slice ao' zs'.length cap']) (by simp [results, Try.results26, go_sem, f0, f1, f2]) rfl ?_
  exact ⟨_, rfl, ⟨_, zs', rfl, ((ho.out.but B (by omega)).mono (by omega) B.size).low, HST.out.trans HE.out⟩, (K.out.onto B (Nat.le_refl _))⟩
end Go.Proofs.Ytajelalimiobeaa
