/-
  Lists of voices copied.
-/
import Derived.Test.YtapfafibhjpkdaaVoiceA
namespace Go.Proofs.Ytapfafibhjpkdaa
open Go.ChangeShapes Go.WideShapes Go.ChangeAt Go.RowKit
theorem info27 : (Try.prog.info? 27).map (fun i => (i.zero, i.size, i.bytes)) = some (some (.agg #[.slice none 0 0, .int .i64 0, .bool false, .int .i64 0, .int .i64 0, .int .i64 0]), 6, 64) := by kernel_rfl
/-- Rows whose lists lie apart from the row's own block, and from one another. -/
structure VoiceR (w : World) (g n : Nat) (ys : List VoiceE) : Prop where
  row : RowO w g (g + 1) 27 6 (.slice (some ⟨g, 0, none⟩) n n) ys.length (ys.flatMap voiceC)
  inn : ∀ (i : Nat) (y : VoiceE), ys[i]? = some y → NumO w (g + 1) w.heap.size y.1.1 y.1.2
  apart : ∀ (i j : Nat) (p p' : VoiceE), i ≠ j → ys[i]? = some p → ys[j]? = some p' → Ap p.1.1 p'.1.1
theorem VoiceR.kept {w w' : World} {g n : Nat} {ys : List VoiceE} (h : VoiceR w g n ys) (k : Kept w w') : VoiceR w' g n ys := ⟨RowO.kept h.row k, fun i r hr => ((h.inn i r hr).kept k).mono (Nat.le_refl _) k.size, h.apart⟩
theorem VoiceR.cells {w : World} {g n : Nat} {ys : List VoiceE} (h : VoiceR w g n ys) {i : Nat} {p : VoiceE} (hp : ys[i]? = some p) :
    w.cell? ⟨g, i * 6, none⟩ = some (p.1.1) ∧ w.cell? ⟨g, i * 6 + 1, none⟩ = some (.int .i64 p.2.1) ∧ w.cell? ⟨g, i * 6 + 2, none⟩ = some (.bool p.2.2.1) ∧ w.cell? ⟨g, i * 6 + 3, none⟩ = some (.int .i64 p.2.2.2.1) ∧ w.cell? ⟨g, i * 6 + 4, none⟩ = some (.int .i64 p.2.2.2.2.1) ∧ w.cell? ⟨g, i * 6 + 5, none⟩ = some (.int .i64 p.2.2.2.2.2) ∧ ∀ o, w.frozen? ⟨g, o, none⟩ = false := by
  obtain ⟨hc, hf⟩ := own_get 6 voiceC voiceC_len (by omega) h.row hp
  exact ⟨hc 0 _ rfl, hc 1 _ rfl, hc 2 _ rfl, hc 3 _ rfl, hc 4 _ rfl, hc 5 _ rfl, hf⟩

theorem VoiceR.setRow {w : World} {g n : Nat} {ys : List VoiceE} (h : VoiceR w g n ys) (hn : n = ys.length) {i : Nat} {p : VoiceE} (hp : ys[i]? = some p) (q : VoiceE) :
    RowO ((((((w.setCell ⟨g, i * 6, none⟩ (q.1.1)).setCell ⟨g, i * 6 + 1, none⟩ (.int .i64 q.2.1)).setCell ⟨g, i * 6 + 2, none⟩ (.bool q.2.2.1)).setCell ⟨g, i * 6 + 3, none⟩ (.int .i64 q.2.2.2.1)).setCell ⟨g, i * 6 + 4, none⟩ (.int .i64 q.2.2.2.2.1)).setCell ⟨g, i * 6 + 5, none⟩ (.int .i64 q.2.2.2.2.2)) g (g + 1) 27 6 (.slice (some ⟨g, 0, none⟩) n n) (ys.set i q).length ((ys.set i q).flatMap voiceC) := by
  subst hn
  have hi' : i < ys.length := (List.getElem?_eq_some_iff.1 hp).1
  have r0 := RowO.set (h.row) (6 * i + 0) (q.1.1)
  rw [flat_set 6 voiceC voiceC_len ys i 0 p (q.1, p.2) (q.1.1) hp (by omega) rfl] at r0
  have g0 : (ys.set i (q.1, p.2))[i]? = some (q.1, p.2) := by simp [hi']
  have r1 := RowO.set (r0) (6 * i + 1) (.int .i64 q.2.1)
  rw [flat_set 6 voiceC voiceC_len (ys.set i (q.1, p.2)) i 1 (q.1, p.2) (q.1, q.2.1, p.2.2) (.int .i64 q.2.1) g0 (by omega) rfl] at r1
  have g1 : ((ys.set i (q.1, p.2)).set i (q.1, q.2.1, p.2.2))[i]? = some (q.1, q.2.1, p.2.2) := by simp [hi']
  have r2 := RowO.set (r1) (6 * i + 2) (.bool q.2.2.1)
  rw [flat_set 6 voiceC voiceC_len ((ys.set i (q.1, p.2)).set i (q.1, q.2.1, p.2.2)) i 2 (q.1, q.2.1, p.2.2) (q.1, q.2.1, q.2.2.1, p.2.2.2) (.bool q.2.2.1) g1 (by omega) rfl] at r2
  have g2 : (((ys.set i (q.1, p.2)).set i (q.1, q.2.1, p.2.2)).set i (q.1, q.2.1, q.2.2.1, p.2.2.2))[i]? = some (q.1, q.2.1, q.2.2.1, p.2.2.2) := by simp [hi']
  have r3 := RowO.set (r2) (6 * i + 3) (.int .i64 q.2.2.2.1)
  rw [flat_set 6 voiceC voiceC_len (((ys.set i (q.1, p.2)).set i (q.1, q.2.1, p.2.2)).set i (q.1, q.2.1, q.2.2.1, p.2.2.2)) i 3 (q.1, q.2.1, q.2.2.1, p.2.2.2) (q.1, q.2.1, q.2.2.1, q.2.2.2.1, p.2.2.2.2) (.int .i64 q.2.2.2.1) g2 (by omega) rfl] at r3
  have g3 : ((((ys.set i (q.1, p.2)).set i (q.1, q.2.1, p.2.2)).set i (q.1, q.2.1, q.2.2.1, p.2.2.2)).set i (q.1, q.2.1, q.2.2.1, q.2.2.2.1, p.2.2.2.2))[i]? = some (q.1, q.2.1, q.2.2.1, q.2.2.2.1, p.2.2.2.2) := by simp [hi']
  have r4 := RowO.set (r3) (6 * i + 4) (.int .i64 q.2.2.2.2.1)
  rw [flat_set 6 voiceC voiceC_len ((((ys.set i (q.1, p.2)).set i (q.1, q.2.1, p.2.2)).set i (q.1, q.2.1, q.2.2.1, p.2.2.2)).set i (q.1, q.2.1, q.2.2.1, q.2.2.2.1, p.2.2.2.2)) i 4 (q.1, q.2.1, q.2.2.1, q.2.2.2.1, p.2.2.2.2) (q.1, q.2.1, q.2.2.1, q.2.2.2.1, q.2.2.2.2.1, p.2.2.2.2.2) (.int .i64 q.2.2.2.2.1) g3 (by omega) rfl] at r4
  have g4 : (((((ys.set i (q.1, p.2)).set i (q.1, q.2.1, p.2.2)).set i (q.1, q.2.1, q.2.2.1, p.2.2.2)).set i (q.1, q.2.1, q.2.2.1, q.2.2.2.1, p.2.2.2.2)).set i (q.1, q.2.1, q.2.2.1, q.2.2.2.1, q.2.2.2.2.1, p.2.2.2.2.2))[i]? = some (q.1, q.2.1, q.2.2.1, q.2.2.2.1, q.2.2.2.2.1, p.2.2.2.2.2) := by simp [hi']
  have r5 := RowO.set (r4) (6 * i + 5) (.int .i64 q.2.2.2.2.2)
  rw [flat_set 6 voiceC voiceC_len (((((ys.set i (q.1, p.2)).set i (q.1, q.2.1, p.2.2)).set i (q.1, q.2.1, q.2.2.1, p.2.2.2)).set i (q.1, q.2.1, q.2.2.1, q.2.2.2.1, p.2.2.2.2)).set i (q.1, q.2.1, q.2.2.1, q.2.2.2.1, q.2.2.2.2.1, p.2.2.2.2.2)) i 5 (q.1, q.2.1, q.2.2.1, q.2.2.2.1, q.2.2.2.2.1, p.2.2.2.2.2) q (.int .i64 q.2.2.2.2.2) g4 (by omega) rfl] at r5
  simp only [List.set_set] at r5
  rw [Nat.mul_comm i 6, List.length_set]
  exact r5

set_option maxHeartbeats 4000000 in
theorem toVoiceS (ps : List VoiceE) (v : Value) (w : World) (hv : VoiceAt w v ps) (hl : ps.length ≤ 1048576) (hp : ∀ p ∈ ps, p.1.2.length ≤ 1048576) :
    Calls Try.prog 16 #[v] w fun e w' => ∃ v' ys, e = .returned v' ∧ ys.map stripVoice = ps.map stripVoice ∧ VoiceO w' w.heap.size w'.heap.size v' ys ∧ Kept w w' := by
  obtain ⟨ao, cap, hsl⟩ := row_nil hv.1
  subst hsl
  obtain ⟨i0, hi, hz0, hz1, hz2⟩ := info_parts info27
  have hmk : (Instr.makeSlice 35 (.int .i64 (ps.length : Int)) (.int .i64 (ps.length : Int))).run Try.prog w = .ok (.slice (some ⟨w.heap.size, 0, none⟩) ps.length ps.length) (w.alloc (.cells (madeCells #[.slice none 0 0, .int .i64 0, .bool false, .int .i64 0, .int .i64 0, .int .i64 0] (ps.length * 6)) 27)) := by
    have := run_make (P := Try.prog) w 35 27 i0 _ Try.underlying35 hi hz0 .i64 .i64 (ps.length : Int) (ps.length : Int) (by omega) (by omega) (by rw [hz2]; omega) (by omega)
    rw [this, hz1]
    simp [Value.cells]
  have hm := row_made w w.heap.size 27 #[.slice none 0 0, .int .i64 0, .bool false, .int .i64 0, .int .i64 0, .int .i64 0] 6 (by omega) voiceC voice0 voiceC_len rfl ps.length (Nat.le_refl _) (by unfold maxLen; omega)
  clear hi hz0 hz1 hz2
  go_enter Try.func16, Try.ntmps16
  go_wp2
  clear hmk
  go_loopw [4] (fun i wr => ∃ (k : Nat) (ys : List VoiceE), k ≤ ps.length ∧ i = .int .i64 k ∧ ys.length = ps.length ∧ ys.map stripVoice = (ps.take k ++ List.replicate (ps.length - k) voice0).map stripVoice ∧ VoiceR wr w.heap.size ps.length ys ∧ Kept w wr) (fun i _ => ps.length - (intOf i).toNat)
  case atStart =>
    refine ⟨0, List.replicate ps.length voice0, by omega, rfl, by simp, by simp, ⟨by simpa using hm, fun i y hy => ?_, fun i j y y' hij hy hy' => ?_⟩, (But.refl _ _ _).alloc _⟩
    · obtain rfl : y = voice0 := List.eq_of_mem_replicate (List.mem_of_getElem? hy)
      exact ⟨World.ownsRow_nil _ _ _ _, fun g hg => by simp [voice0, Value.ownBlock] at hg⟩
    · obtain rfl : y = voice0 := List.eq_of_mem_replicate (List.mem_of_getElem? hy)
      exact fun g hg => by simp [voice0, Value.ownBlock] at hg
  case round =>
    obtain ⟨k, ys, hk, rfl, hyl, hys, ho, hkp⟩ := hrel
    have HY : Hid (ys.length = ps.length ∧ ys.map stripVoice = (ps.take k ++ List.replicate (ps.length - k) voice0).map stripVoice) := ⟨hyl, hys⟩
    clear hm
    by_cases hlt : k < ps.length
    · obtain ⟨p, hpk⟩ : ∃ p, ps[k]? = some p := ⟨_, List.getElem?_eq_getElem hlt⟩
      obtain ⟨y, hy⟩ : ∃ y, ys[k]? = some y := ⟨_, List.getElem?_eq_getElem (by omega)⟩
      obtain ⟨b, o, cap', e, c0, c1, c2, c3, c4, c5, hpa⟩ := voice_get (hv.kept hkp) hpk
      cases e
      have hpl := hp p (List.mem_of_getElem? hpk)
      have HB : Hid ((ps.take k ++ List.replicate (ps.length - k) voice0).map stripVoice = _ ∧ stripVoice p = stripVoice p) := ⟨rfl, rfl⟩
      clear HB
      have HPK : Hid (ps[k]? = some p) := hpk
      clear hyl hys hpk
      obtain ⟨⟨y0, l⟩, y1, y2, y3, y4, y5⟩ := p
      dsimp only at hpa hpl c0 c1 c2 c3 c4 c5
      obtain ⟨ao3, cap3, hsl3⟩ := row_nil hpa
      subst hsl3
      have hsz0 := hkp.size
      have hlt1 := own_lt ho.row.1 (g := w.heap.size) rfl
      go_wp2_with (go_at_call 11; refine (toVoice _ _ _ _ _ _ _ _ hpa hpl).mono ?_
                   rintro e w' ⟨pv, rfl, hpo, hk2⟩
                   obtain ⟨ao2, cap2, hf, _⟩ := own_form hpo.1
                   subst hf
                   have HAP : Hid (∀ (i : Nat) (r : VoiceE), ys[i]? = some r → Ap r.1.1 (.slice ao2 l.length cap2)) := fun i r hr => ap_low ((ho.inn i r hr).kept hk2) hpo (.inl (by omega))
                   have ho2 := ho.kept hk2
                   obtain ⟨d0, d1, d2, d3, d4, d5, dz⟩ := ho2.cells hy
                   have dz0 := dz (k * 6)
                   have dz1 := dz (k * 6 + 1)
                   have dz2 := dz (k * 6 + 2)
                   have dz3 := dz (k * 6 + 3)
                   have dz4 := dz (k * 6 + 4)
                   have dz5 := dz (k * 6 + 5)
                   have HO : Hid _ := ho2
                   have hs2 := hk2.size
                   have HPO : Hid _ := hpo
                   clear dz ho ho2 hpo)
      have HR := VoiceR.setRow HO.out HY.out.1.symm hy ((.slice ao2 l.length cap2, l), y1, y2, y3, y4, y5)
      have B : But w.heap.size (w.heap.size + 1) w' ((((((w'.setCell ⟨w.heap.size, k * 6, none⟩ (.slice ao2 l.length cap2)).setCell ⟨w.heap.size, k * 6 + 1, none⟩ (.int .i64 y1)).setCell ⟨w.heap.size, k * 6 + 2, none⟩ (.bool y2)).setCell ⟨w.heap.size, k * 6 + 3, none⟩ (.int .i64 y3)).setCell ⟨w.heap.size, k * 6 + 4, none⟩ (.int .i64 y4)).setCell ⟨w.heap.size, k * 6 + 5, none⟩ (.int .i64 y5)) := ((((((But.refl _ _ _).setCell (by simp; try omega) (by simp; try omega) _).setCell (by simp; try omega) (by simp; try omega) _).setCell (by simp; try omega) (by simp; try omega) _).setCell (by simp; try omega) (by simp; try omega) _).setCell (by simp; try omega) (by simp; try omega) _).setCell (by simp; try omega) (by simp; try omega) _
      refine ⟨⟨k + 1, ys.set k ((.slice ao2 l.length cap2, l), y1, y2, y3, y4, y5), hlt, by go_num, by simp [HY.out.1], ?_, ⟨HR, fun i z hz => ?_, fun i j z z' hij hz hz' => ?_⟩, (hkp.trans hk2).onto B (Nat.le_refl _)⟩, by simp [intOf]; omega⟩
      · rw [List.map_set, HY.out.2, ← fill_set ps voice0 HPK.out, List.map_set]
        rfl
      · rcases get_set hz with ⟨_, rfl⟩ | ⟨_, hz⟩
        · exact (HPO.out.but B (by omega)).mono (by omega) B.size
        · exact ((HO.out.inn i z hz).but B (by omega)).mono (Nat.le_refl _) B.size
      · rcases get_set hz with ⟨hik, rfl⟩ | ⟨hik, hz⟩
        · rcases get_set hz' with ⟨hjk, rfl⟩ | ⟨_, hz'⟩
          · exact absurd (hik.trans hjk.symm) hij
          · exact (HAP.out j z' hz').symm
        · rcases get_set hz' with ⟨_, rfl⟩ | ⟨_, hz'⟩
          · exact HAP.out i z hz
          · exact HO.out.apart i j z z' hij hz hz'
    · have hke : k = ps.length := by omega
      subst hke
      have hsz := hkp.size
      go_wp2
      go_ret
      have hs := own_lt ho.row.1 (g := w.heap.size) rfl
      refine ⟨_, ys, rfl, ?_, ⟨?_, fun i y hy => (ho.inn i y hy).mono (by omega) (Nat.le_refl _), ho.apart⟩, hkp⟩
      · rw [HY.out.2]
        simp
      · have := RowO.low ho.row
        rw [HY.out.1] at this ⊢
        exact this

end Go.Proofs.Ytapfafibhjpkdaa
