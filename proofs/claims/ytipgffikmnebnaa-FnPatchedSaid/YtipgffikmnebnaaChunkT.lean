/-
  Lists of chunks copied, and held against one another.
-/
import Derived.Test.YtipgffikmnebnaaChunk
import Derived.Deep.RegionHeld3
namespace Go.Proofs.Ytipgffikmnebnaa
open Go.ChangeShapes Go.WideShapes Go.ChangeAt Go.RowKit

set_option maxHeartbeats 2000000 in
theorem toChunk (f0 : Int) (f1 : Int) (f2 : Value) (l : List BytD) (w : World) (hv : BytAt w f2 l) (hl : l.length ≤ 1048576) :
    Calls Try.prog 103 #[.agg #[.int .i64 f0, .int .i64 f1, f2]] w fun e w' => ∃ v', e = .returned (.agg #[.int .i64 f0, .int .i64 f1, v']) ∧ BytO w' (w.heap.size + 1) w'.heap.size v' l ∧ Kept w w' := by
  obtain ⟨ao, cap, hsl⟩ := row_nil hv
  subst hsl
  go_enter Try.func103, Try.ntmps103
  go_wp2_with (go_at_call 48; refine (toBytS l _ _ (hv.kept ((((But.refl _ _ _).alloc _).alloc _).alloc _)) hl).mono ?_
               rintro e w' ⟨v', rfl, ho, hk⟩
               obtain ⟨ao', cap', hf, _⟩ := own_form ho.1
               subst hf
               have K : Kept w w' := ((((But.refl _ _ _).alloc _).alloc _).alloc _).trans hk
               have L0 := ((((Loc.new _ [.int .i64 f0, .int .i64 f1, .slice ao l.length cap] 136).alloc _).alloc _).kept hk)
               have L1 := (((Loc.new _ [.int .i64 0, .int .i64 0, .slice none 0 0] 108).alloc _).kept hk)
               have L2 := (Loc.new _ [.int .i64 f0, .int .i64 f1, .slice none 0 0] 108).kept hk
               simp only [World.size_alloc] at L0 L1 L2 ho
               have f0_0 := L0.cell 0 rfl
               have f0_1 := L1.cell 0 rfl
               have f0_2 := L2.cell 0 rfl
               have g0_1 := L1.frozen 0
               have g0_2 := L2.frozen 0
               have f1_0 := L0.cell 1 rfl
               have f1_1 := L1.cell 1 rfl
               have f1_2 := L2.cell 1 rfl
               have g1_1 := L1.frozen 1
               have g1_2 := L2.frozen 1
               have f2_0 := L0.cell 2 rfl
               have f2_1 := L1.cell 2 rfl
               have f2_2 := L2.cell 2 rfl
               have g2_1 := L1.frozen 2
               have g2_2 := L2.frozen 2
               have ho : Hid _ := ho
               have hksz := hk.size
               simp at hksz
               have K : Hid _ := K
               clear hk L0 L1 L2)
  have B : But w.heap.size (w.heap.size + 3) w' ((((w'.setCell ⟨w.heap.size + 1 + 1, 2, none⟩ ((.slice ao' l.length cap'))).setCell ⟨w.heap.size + 1, 0, none⟩ (.int .i64 f0)).setCell ⟨w.heap.size + 1, 1, none⟩ (.int .i64 f1)).setCell ⟨w.heap.size + 1, 2, none⟩ ((.slice ao' l.length cap'))) := ((((But.refl _ _ _).setCell (by simp; try omega) (by simp; try omega) _).setCell (by simp; try omega) (by simp; try omega) _).setCell (by simp; try omega) (by simp; try omega) _).setCell (by simp; try omega) (by simp; try omega) _
  refine bodyPost_ret (v := .agg #[.int .i64 f0, .int .i64 f1, (.slice ao' l.length cap')]) (by simp [results, Try.results103, go_sem, *]) rfl ?_
  exact ⟨_, rfl, ((ho.out.but B (by omega)).mono (by omega) B.size).low, (K.out.onto B (Nat.le_refl _))⟩

theorem info108 : (Try.prog.info? 108).map (fun i => (i.zero, i.size, i.bytes)) = some (some (.agg #[.int .i64 0, .int .i64 0, .slice none 0 0]), 3, 40) := by kernel_rfl
/-- Rows whose lists lie apart from the row's own block, and from one another. -/
structure ChunkR (w : World) (g n : Nat) (ys : List ChunkE) : Prop where
  row : RowO w g (g + 1) 108 3 (.slice (some ⟨g, 0, none⟩) n n) ys.length (ys.flatMap chunkC)
  inn : ∀ (i : Nat) (y : ChunkE), ys[i]? = some y → BytO w (g + 1) w.heap.size y.2.2.1 y.2.2.2
  apart : ∀ (i j : Nat) (p p' : ChunkE), i ≠ j → ys[i]? = some p → ys[j]? = some p' → Ap p.2.2.1 p'.2.2.1
theorem ChunkR.kept {w w' : World} {g n : Nat} {ys : List ChunkE} (h : ChunkR w g n ys) (k : Kept w w') : ChunkR w' g n ys := ⟨RowO.kept h.row k, fun i r hr => ((h.inn i r hr).kept k).mono (Nat.le_refl _) k.size, h.apart⟩
theorem ChunkR.cells {w : World} {g n : Nat} {ys : List ChunkE} (h : ChunkR w g n ys) {i : Nat} {p : ChunkE} (hp : ys[i]? = some p) :
    w.cell? ⟨g, i * 3, none⟩ = some (.int .i64 p.1) ∧ w.cell? ⟨g, i * 3 + 1, none⟩ = some (.int .i64 p.2.1) ∧ w.cell? ⟨g, i * 3 + 2, none⟩ = some (p.2.2.1) ∧ ∀ o, w.frozen? ⟨g, o, none⟩ = false := by
  obtain ⟨hc, hf⟩ := own_get 3 chunkC chunkC_len (by omega) h.row hp
  exact ⟨hc 0 _ rfl, hc 1 _ rfl, hc 2 _ rfl, hf⟩

theorem ChunkR.setRow {w : World} {g n : Nat} {ys : List ChunkE} (h : ChunkR w g n ys) (hn : n = ys.length) {i : Nat} {p : ChunkE} (hp : ys[i]? = some p) (q : ChunkE) :
    RowO (((w.setCell ⟨g, i * 3, none⟩ (.int .i64 q.1)).setCell ⟨g, i * 3 + 1, none⟩ (.int .i64 q.2.1)).setCell ⟨g, i * 3 + 2, none⟩ (q.2.2.1)) g (g + 1) 108 3 (.slice (some ⟨g, 0, none⟩) n n) (ys.set i q).length ((ys.set i q).flatMap chunkC) := by
  subst hn
  have hi' : i < ys.length := (List.getElem?_eq_some_iff.1 hp).1
  have r0 := RowO.set (h.row) (3 * i + 0) (.int .i64 q.1)
  rw [flat_set 3 chunkC chunkC_len ys i 0 p (q.1, p.2) (.int .i64 q.1) hp (by omega) rfl] at r0
  have g0 : (ys.set i (q.1, p.2))[i]? = some (q.1, p.2) := by simp [hi']
  have r1 := RowO.set (r0) (3 * i + 1) (.int .i64 q.2.1)
  rw [flat_set 3 chunkC chunkC_len (ys.set i (q.1, p.2)) i 1 (q.1, p.2) (q.1, q.2.1, p.2.2) (.int .i64 q.2.1) g0 (by omega) rfl] at r1
  have g1 : ((ys.set i (q.1, p.2)).set i (q.1, q.2.1, p.2.2))[i]? = some (q.1, q.2.1, p.2.2) := by simp [hi']
  have r2 := RowO.set (r1) (3 * i + 2) (q.2.2.1)
  rw [flat_set 3 chunkC chunkC_len ((ys.set i (q.1, p.2)).set i (q.1, q.2.1, p.2.2)) i 2 (q.1, q.2.1, p.2.2) q (q.2.2.1) g1 (by omega) rfl] at r2
  simp only [List.set_set] at r2
  rw [Nat.mul_comm i 3, List.length_set]
  exact r2

set_option maxHeartbeats 4000000 in
theorem toChunkS (ps : List ChunkE) (v : Value) (w : World) (hv : ChunkAt w v ps) (hl : ps.length ≤ 1048576) (hp : ∀ p ∈ ps, p.2.2.2.length ≤ 1048576) :
    Calls Try.prog 56 #[v] w fun e w' => ∃ v' ys, e = .returned v' ∧ ys.map stripChunk = ps.map stripChunk ∧ ChunkO w' w.heap.size w'.heap.size v' ys ∧ Kept w w' := by
  obtain ⟨ao, cap, hsl⟩ := row_nil hv.1
  subst hsl
  obtain ⟨i0, hi, hz0, hz1, hz2⟩ := info_parts info108
  have hmk : (Instr.makeSlice 43 (.int .i64 (ps.length : Int)) (.int .i64 (ps.length : Int))).run Try.prog w = .ok (.slice (some ⟨w.heap.size, 0, none⟩) ps.length ps.length) (w.alloc (.cells (madeCells #[.int .i64 0, .int .i64 0, .slice none 0 0] (ps.length * 3)) 108)) := by
    have := run_make (P := Try.prog) w 43 108 i0 _ Try.underlying43 hi hz0 .i64 .i64 (ps.length : Int) (ps.length : Int) (by omega) (by omega) (by rw [hz2]; omega) (by omega)
    rw [this, hz1]
    simp [Value.cells]
  have hm := row_made w w.heap.size 108 #[.int .i64 0, .int .i64 0, .slice none 0 0] 3 (by omega) chunkC chunk0 chunkC_len rfl ps.length (Nat.le_refl _) (by unfold maxLen; omega)
  clear hi hz0 hz1 hz2
  go_enter Try.func56, Try.ntmps56
  go_wp2
  clear hmk
  go_loopw [4] (fun i wr => ∃ (k : Nat) (ys : List ChunkE), k ≤ ps.length ∧ i = .int .i64 k ∧ ys.length = ps.length ∧ ys.map stripChunk = (ps.take k ++ List.replicate (ps.length - k) chunk0).map stripChunk ∧ ChunkR wr w.heap.size ps.length ys ∧ Kept w wr) (fun i _ => ps.length - (intOf i).toNat)
  case atStart =>
    refine ⟨0, List.replicate ps.length chunk0, by omega, rfl, by simp, by simp, ⟨by simpa using hm, fun i y hy => ?_, fun i j y y' hij hy hy' => ?_⟩, (But.refl _ _ _).alloc _⟩
    · obtain rfl : y = chunk0 := List.eq_of_mem_replicate (List.mem_of_getElem? hy)
      exact ⟨World.ownsRow_nil _ _ _ _, fun g hg => by simp [chunk0, Value.ownBlock] at hg⟩
    · obtain rfl : y = chunk0 := List.eq_of_mem_replicate (List.mem_of_getElem? hy)
      exact fun g hg => by simp [chunk0, Value.ownBlock] at hg
  case round =>
    obtain ⟨k, ys, hk, rfl, hyl, hys, ho, hkp⟩ := hrel
    have HY : Hid (ys.length = ps.length ∧ ys.map stripChunk = (ps.take k ++ List.replicate (ps.length - k) chunk0).map stripChunk) := ⟨hyl, hys⟩
    clear hm
    by_cases hlt : k < ps.length
    · obtain ⟨p, hpk⟩ : ∃ p, ps[k]? = some p := ⟨_, List.getElem?_eq_getElem hlt⟩
      obtain ⟨y, hy⟩ : ∃ y, ys[k]? = some y := ⟨_, List.getElem?_eq_getElem (by omega)⟩
      obtain ⟨b, o, cap', e, c0, c1, c2, hpa⟩ := chunk_get (hv.kept hkp) hpk
      cases e
      have hpl := hp p (List.mem_of_getElem? hpk)
      have HB : Hid ((ps.take k ++ List.replicate (ps.length - k) chunk0).map stripChunk = _ ∧ stripChunk p = stripChunk p) := ⟨rfl, rfl⟩
      clear HB
      have HPK : Hid (ps[k]? = some p) := hpk
      clear hyl hys hpk
      obtain ⟨y0, y1, ⟨y2, l⟩⟩ := p
      dsimp only at hpa hpl c0 c1 c2
      obtain ⟨ao3, cap3, hsl3⟩ := row_nil hpa
      subst hsl3
      have hsz0 := hkp.size
      have hlt1 := own_lt ho.row.1 (g := w.heap.size) rfl
      go_wp2_with (go_at_call 103; refine (toChunk _ _ _ _ _ hpa hpl).mono ?_
                   rintro e w' ⟨pv, rfl, hpo, hk2⟩
                   obtain ⟨ao2, cap2, hf, _⟩ := own_form hpo.1
                   subst hf
                   have HAP : Hid (∀ (i : Nat) (r : ChunkE), ys[i]? = some r → Ap r.2.2.1 (.slice ao2 l.length cap2)) := fun i r hr => ap_low ((ho.inn i r hr).kept hk2) hpo (.inl (by omega))
                   have ho2 := ho.kept hk2
                   obtain ⟨d0, d1, d2, dz⟩ := ho2.cells hy
                   have dz0 := dz (k * 3)
                   have dz1 := dz (k * 3 + 1)
                   have dz2 := dz (k * 3 + 2)
                   have HO : Hid _ := ho2
                   have hs2 := hk2.size
                   have HPO : Hid _ := hpo
                   clear dz ho ho2 hpo)
      have HR := ChunkR.setRow HO.out HY.out.1.symm hy (y0, y1, (.slice ao2 l.length cap2, l))
      have B : But w.heap.size (w.heap.size + 1) w' (((w'.setCell ⟨w.heap.size, k * 3, none⟩ (.int .i64 y0)).setCell ⟨w.heap.size, k * 3 + 1, none⟩ (.int .i64 y1)).setCell ⟨w.heap.size, k * 3 + 2, none⟩ (.slice ao2 l.length cap2)) := (((But.refl _ _ _).setCell (by simp; try omega) (by simp; try omega) _).setCell (by simp; try omega) (by simp; try omega) _).setCell (by simp; try omega) (by simp; try omega) _
      refine ⟨⟨k + 1, ys.set k (y0, y1, (.slice ao2 l.length cap2, l)), hlt, by go_num, by simp [HY.out.1], ?_, ⟨HR, fun i z hz => ?_, fun i j z z' hij hz hz' => ?_⟩, (hkp.trans hk2).onto B (Nat.le_refl _)⟩, by simp [intOf]; omega⟩
      · rw [List.map_set, HY.out.2, ← fill_set ps chunk0 HPK.out, List.map_set]
        rfl
      · rcases get_set hz with ⟨_, rfl⟩ | ⟨_, hz⟩
        · exact (HPO.out.but B (by omega)).mono (by omega) B.size
        · exact ((HO.out.inn i z hz).but B (by omega)).mono (Nat.le_refl _) B.size
      · rcases get_set hz with ⟨hik, rfl⟩ | ⟨hik, hz⟩
        · rcases get_set hz' with ⟨hjk, rfl⟩ | ⟨_, hz'⟩
          · exact absurd (hik.trans hjk.symm) hij
          · exact (HAP.out j z' hz').symm
        · rcases get_set hz' with ⟨_, rfl⟩ | ⟨_, hz'⟩
          · exact HAP.out i z hz
          · exact HO.out.apart i j z z' hij hz hz'
    · have hke : k = ps.length := by omega
      subst hke
      have hsz := hkp.size
      go_wp2
      go_ret
      have hs := own_lt ho.row.1 (g := w.heap.size) rfl
      refine ⟨_, ys, rfl, ?_, ⟨?_, fun i y hy => (ho.inn i y hy).mono (by omega) (Nat.le_refl _), ho.apart⟩, hkp⟩
      · rw [HY.out.2]
        simp
      · have := RowO.low ho.row
        rw [HY.out.1] at this ⊢
        exact this

set_option maxHeartbeats 2000000 in
theorem eqChunk (f0 : Int) (f1 : Int) (v v' : Value) (l : List BytD) (w : World) (hv : BytAt w v l) (hv' : BytAt w v' l) (hn : l.length ≤ 9000000000000000000) :
    Calls Try.prog 101 #[.agg #[.int .i64 f0, .int .i64 f1, v], .agg #[.int .i64 f0, .int .i64 f1, v']] w fun e w' => e = .returned (.bool true) ∧ Kept w w' := by
  obtain ⟨ao, cap, hsl⟩ := row_nil hv
  subst hsl
  obtain ⟨ao', cap', hsl⟩ := row_nil hv'
  subst hsl
  have KA : ∀ a b : Obj, Kept w ((w.alloc a).alloc b) := fun a b => ((But.refl _ _ _).alloc _).alloc _
  go_enter Try.func101, Try.ntmps101
  go_wp2_with (go_at_call 50; refine (eqBytS l _ _ _ (hv.kept (KA _ _)) (hv'.kept (KA _ _)) hn).mono ?_
               rintro e w1 ⟨rfl, hk⟩
               have L0 := (((Loc.new _ [.int .i64 f0, .int .i64 f1, .slice ao l.length cap] 108).alloc _).kept hk)
               have L1 := (Loc.new _ [.int .i64 f0, .int .i64 f1, .slice ao' l.length cap'] 108).kept hk
               simp only [World.size_alloc] at L0 L1
               have a0 := L0.cell 0 rfl
               have b0 := L1.cell 0 rfl
               have a1 := L0.cell 1 rfl
               have b1 := L1.cell 1 rfl
               have a2 := L0.cell 2 rfl
               have b2 := L1.cell 2 rfl
               clear L0 L1)
  go_ret
  exact ⟨rfl, (KA _ _).trans hk⟩

set_option maxHeartbeats 4000000 in
theorem eqChunkS (ps qs : List ChunkE) (v v' : Value) (w : World) (hpq : ps.map stripChunk = qs.map stripChunk) (hv : ChunkAt w v ps) (hv' : ChunkAt w v' qs) (hn : ps.length ≤ 9000000000000000000) (hm : ∀ p ∈ ps, p.2.2.2.length ≤ 9000000000000000000) :
    Calls Try.prog 49 #[v, v'] w fun e w' => e = .returned (.bool true) ∧ Kept w w' := by
  have hlen : qs.length = ps.length := by have := congrArg List.length hpq; simpa using this.symm
  obtain ⟨ao, cap, hsl⟩ := row_nil hv.1
  subst hsl
  obtain ⟨ao', cap', hsl⟩ := row_nil hv'.1
  rw [hlen] at hsl
  subst hsl
  go_enter Try.func49, Try.ntmps49
  go_wp2
  go_loopw [5] (fun i wr => ∃ (k : Nat), k ≤ ps.length ∧ i = .int .i64 k ∧ Kept w wr) (fun i _ => ps.length - (intOf i).toNat)
  case atStart => exact ⟨0, by omega, rfl, But.refl _ _ _⟩
  case round =>
    obtain ⟨k, hk, rfl, hkp⟩ := hrel
    by_cases hlt : k < ps.length
    · obtain ⟨p, hp⟩ : ∃ p, ps[k]? = some p := ⟨_, List.getElem?_eq_getElem hlt⟩
      obtain ⟨q, hq⟩ : ∃ q, qs[k]? = some q := ⟨_, List.getElem?_eq_getElem (by omega)⟩
      have hst : stripChunk p = stripChunk q := by
        have := congrArg (fun l => l[k]?) hpq
        simpa [hp, hq] using this
      obtain ⟨b, o, cap1, e, c0, c1, c2, hpa⟩ := chunk_get (hv.kept hkp) hp
      cases e
      obtain ⟨b', o', cap1', e, c0', c1', c2', hqa⟩ := chunk_get (hv'.kept hkp) hq
      rw [hlen] at e
      cases e
      have hll := hm p (List.mem_of_getElem? hp)
      clear hp hq
      obtain ⟨y0, y1, ⟨v1, l⟩⟩ := p
      obtain ⟨x0, x1, ⟨v2, l2⟩⟩ := q
      simp only [stripChunk, Prod.mk.injEq] at hst
      obtain ⟨rfl, rfl, rfl⟩ := hst
      dsimp only at hpa hqa hll c0 c1 c2 c0' c1' c2'
      obtain ⟨a1, p1, hsl⟩ := row_nil hpa
      subst hsl
      obtain ⟨a2, p2, hsl⟩ := row_nil hqa
      subst hsl
      have z1 : (0 : Int) ≤ (k : Int) := by omega
      have z2 : (k : Int) < (ps.length : Int) := by omega
      have HK : Hid _ := hkp
      have HP : Hid _ := hpa
      have HQ : Hid _ := hqa
      clear hkp hpa hqa
      go_wp2_with fail
      go_region_held3 (fun w' => Kept wr w' ∧ w'.cell? ⟨b, o + k * 3, none⟩ = some (.int .i64 y0) ∧ w'.cell? ⟨b, o + k * 3 + 1, none⟩ = some (.int .i64 y1) ∧ w'.cell? ⟨b, o + k * 3 + 2, none⟩ = some (.slice a1 l.length p1) ∧ w'.cell? ⟨b', o' + k * 3, none⟩ = some (.int .i64 y0) ∧ w'.cell? ⟨b', o' + k * 3 + 1, none⟩ = some (.int .i64 y1) ∧ w'.cell? ⟨b', o' + k * 3 + 2, none⟩ = some (.slice a2 l.length p2)) (first | (refine ⟨?_, ?_, ?_, ?_, ?_, ?_, ?_⟩ <;> first | assumption | exact But.refl _ _ _ | exact (But.refl _ _ _).drew) | simp [go_sem, *])
        (first | (go_at_call 101; refine (eqChunk _ _ _ _ _ _ (RowAt.kept HP.out (But.drew (But.refl _ _ _))) (RowAt.kept HQ.out (But.drew (But.refl _ _ _))) hll).mono ?_; rintro e w' ⟨rfl, hk2⟩; have c0 := Kept.cell hk2 c0; have c1 := Kept.cell hk2 c1; have c2 := Kept.cell hk2 c2; have c0' := Kept.cell hk2 c0'; have c1' := Kept.cell hk2 c1'; have c2' := Kept.cell hk2 c2'; have hkk : Kept wr w' := ((But.refl _ _ wr).drew).trans hk2))
      go_wp2
      exact ⟨⟨k + 1, hlt, by go_num, HK.out.trans hkk⟩, by simp [intOf]; omega⟩
    · have hke : k = ps.length := by omega
      subst hke
      go_wp2
      go_ret
      exact ⟨rfl, hkp⟩

end Go.Proofs.Ytipgffikmnebnaa
