/-
  What the functions answer that copy choices.
-/
import Derived.Test.YtjpceimaggcncaaChoice
namespace Go.Proofs.Ytjpceimaggcncaa
open Go.ChangeShapes Go.WideShapes Go.ChangeAt Go.RowKit

set_option maxHeartbeats 2000000 in
theorem toChoice (f0 : ByteArray) (f1 : Value) (l : List NumD) (f2 : Int) (w : World) (hv : NumAt w f1 l) (hl : l.length ≤ 1048576) :
    Calls Try.prog 64 #[.agg #[.string f0, f1, .int .i64 f2]] w fun e w' => ∃ v', e = .returned (.agg #[.string f0, v', .int .i64 f2]) ∧ NumO w' (w.heap.size + 1) w'.heap.size v' l ∧ Kept w w' := by
  obtain ⟨ao, cap, hsl⟩ := row_nil hv
  subst hsl
  go_enter Try.func64, Try.ntmps64
  go_wp2_with (go_at_call 32; refine (toNumS l _ _ (hv.kept ((((But.refl _ _ _).alloc _).alloc _).alloc _)) hl).mono ?_
               rintro e w' ⟨v', rfl, ho, hk⟩
               obtain ⟨ao', cap', hf, _⟩ := own_form ho.1
               subst hf
               have K : Kept w w' := ((((But.refl _ _ _).alloc _).alloc _).alloc _).trans hk
               have L0 := ((((Loc.new _ [.string f0, .slice ao l.length cap, .int .i64 f2] 94).alloc _).alloc _).kept hk)
               have L1 := (((Loc.new _ [.string ByteArray.empty, .slice none 0 0, .int .i64 0] 95).alloc _).kept hk)
               have L2 := (Loc.new _ [.string f0, .slice none 0 0, .int .i64 0] 95).kept hk
               simp only [World.size_alloc] at L0 L1 L2 ho
               have f0_0 := L0.cell 0 rfl
               have f0_1 := L1.cell 0 rfl
               have f0_2 := L2.cell 0 rfl
               have g0_1 := L1.frozen 0
               have g0_2 := L2.frozen 0
               have f1_0 := L0.cell 1 rfl
               have f1_1 := L1.cell 1 rfl
               have f1_2 := L2.cell 1 rfl
               have g1_1 := L1.frozen 1
               have g1_2 := L2.frozen 1
               have f2_0 := L0.cell 2 rfl
               have f2_1 := L1.cell 2 rfl
               have f2_2 := L2.cell 2 rfl
               have g2_1 := L1.frozen 2
               have g2_2 := L2.frozen 2
               have ho : Hid _ := ho
               have hksz := hk.size
               simp at hksz
               have K : Hid _ := K
               clear hk L0 L1 L2)
  have B : But w.heap.size (w.heap.size + 3) w' (((((w'.setCell ⟨w.heap.size + 1 + 1, 1, none⟩ ((.slice ao' l.length cap'))).setCell ⟨w.heap.size + 1 + 1, 2, none⟩ (.int .i64 f2)).setCell ⟨w.heap.size + 1, 0, none⟩ (.string f0)).setCell ⟨w.heap.size + 1, 1, none⟩ ((.slice ao' l.length cap'))).setCell ⟨w.heap.size + 1, 2, none⟩ (.int .i64 f2)) := (((((But.refl _ _ _).setCell (by simp; try omega) (by simp; try omega) _).setCell (by simp; try omega) (by simp; try omega) _).setCell (by simp; try omega) (by simp; try omega) _).setCell (by simp; try omega) (by simp; try omega) _).setCell (by simp; try omega) (by simp; try omega) _
  refine bodyPost_ret (v := .agg #[.string f0, (.slice ao' l.length cap'), .int .i64 f2]) (by simp [results, Try.results64, go_sem, *]) rfl ?_
  exact ⟨_, rfl, ((ho.out.but B (by omega)).mono (by omega) B.size).low, (K.out.onto B (Nat.le_refl _))⟩

theorem info95 : (Try.prog.info? 95).map (fun i => (i.zero, i.size, i.bytes)) = some (some (.agg #[.string ByteArray.empty, .slice none 0 0, .int .i64 0]), 3, 48) := by kernel_rfl
/-- Rows whose lists lie apart from the row's own block. -/
def ChoiceR (w : World) (g n : Nat) (ys : List ChoiceE) : Prop := RowO w g (g + 1) 95 3 (.slice (some ⟨g, 0, none⟩) n n) ys.length (ys.flatMap choiceC) ∧ ∀ y ∈ ys, NumO w (g + 1) w.heap.size y.2.1.1 y.2.1.2
theorem ChoiceR.kept {w w' : World} {g n : Nat} {ys : List ChoiceE} (h : ChoiceR w g n ys) (k : Kept w w') : ChoiceR w' g n ys := ⟨RowO.kept h.1 k, fun y hy => ((h.2 y hy).kept k).mono (Nat.le_refl _) k.size⟩
theorem ChoiceR.cells {w : World} {g n : Nat} {ys : List ChoiceE} (h : ChoiceR w g n ys) {i : Nat} {p : ChoiceE} (hp : ys[i]? = some p) :
    w.cell? ⟨g, i * 3, none⟩ = some (.string p.1) ∧ w.cell? ⟨g, i * 3 + 1, none⟩ = some (p.2.1.1) ∧ w.cell? ⟨g, i * 3 + 2, none⟩ = some (.int .i64 p.2.2) ∧ ∀ o, w.frozen? ⟨g, o, none⟩ = false := by
  obtain ⟨hc, hf⟩ := own_get 3 choiceC choiceC_len (by omega) h.1 hp
  exact ⟨hc 0 _ rfl, hc 1 _ rfl, hc 2 _ rfl, hf⟩

theorem ChoiceR.row {w : World} {g n : Nat} {ys : List ChoiceE} (h : ChoiceR w g n ys) (hn : n = ys.length) {i : Nat} {p : ChoiceE} (hp : ys[i]? = some p) (q : ChoiceE) :
    RowO (((w.setCell ⟨g, i * 3, none⟩ (.string q.1)).setCell ⟨g, i * 3 + 1, none⟩ (q.2.1.1)).setCell ⟨g, i * 3 + 2, none⟩ (.int .i64 q.2.2)) g (g + 1) 95 3 (.slice (some ⟨g, 0, none⟩) n n) (ys.set i q).length ((ys.set i q).flatMap choiceC) := by
  subst hn
  have hi' : i < ys.length := (List.getElem?_eq_some_iff.1 hp).1
  have r0 := RowO.set (h.1) (3 * i + 0) (.string q.1)
  rw [flat_set 3 choiceC choiceC_len ys i 0 p (q.1, p.2) (.string q.1) hp (by omega) rfl] at r0
  have g0 : (ys.set i (q.1, p.2))[i]? = some (q.1, p.2) := by simp [hi']
  have r1 := RowO.set (r0) (3 * i + 1) (q.2.1.1)
  rw [flat_set 3 choiceC choiceC_len (ys.set i (q.1, p.2)) i 1 (q.1, p.2) (q.1, q.2.1, p.2.2) (q.2.1.1) g0 (by omega) rfl] at r1
  have g1 : ((ys.set i (q.1, p.2)).set i (q.1, q.2.1, p.2.2))[i]? = some (q.1, q.2.1, p.2.2) := by simp [hi']
  have r2 := RowO.set (r1) (3 * i + 2) (.int .i64 q.2.2)
  rw [flat_set 3 choiceC choiceC_len ((ys.set i (q.1, p.2)).set i (q.1, q.2.1, p.2.2)) i 2 (q.1, q.2.1, p.2.2) q (.int .i64 q.2.2) g1 (by omega) rfl] at r2
  simp only [List.set_set] at r2
  rw [Nat.mul_comm i 3, List.length_set]
  exact r2

set_option maxHeartbeats 4000000 in
theorem toChoiceS (ps : List ChoiceE) (v : Value) (w : World) (hv : ChoiceAt w v ps) (hl : ps.length ≤ 1048576) (hp : ∀ p ∈ ps, p.2.1.2.length ≤ 1048576) :
    Calls Try.prog 35 #[v] w fun e w' => ∃ v' ys, e = .returned v' ∧ ys.map stripChoice = ps.map stripChoice ∧ ChoiceO w' w.heap.size w'.heap.size v' ys ∧ Kept w w' := by
  obtain ⟨ao, cap, hsl⟩ := row_nil hv.1
  subst hsl
  obtain ⟨i0, hi, hz0, hz1, hz2⟩ := info_parts info95
  have hmk : (Instr.makeSlice 56 (.int .i64 (ps.length : Int)) (.int .i64 (ps.length : Int))).run Try.prog w = .ok (.slice (some ⟨w.heap.size, 0, none⟩) ps.length ps.length) (w.alloc (.cells (madeCells #[.string ByteArray.empty, .slice none 0 0, .int .i64 0] (ps.length * 3)) 95)) := by
    have := run_make (P := Try.prog) w 56 95 i0 _ Try.underlying56 hi hz0 .i64 .i64 (ps.length : Int) (ps.length : Int) (by omega) (by omega) (by rw [hz2]; omega) (by omega)
    rw [this, hz1]
    simp [Value.cells]
  have hm := row_made w w.heap.size 95 #[.string ByteArray.empty, .slice none 0 0, .int .i64 0] 3 (by omega) choiceC choice0 choiceC_len rfl ps.length (Nat.le_refl _) (by unfold maxLen; omega)
  clear hi hz0 hz1 hz2
  go_enter Try.func35, Try.ntmps35
  go_wp2
  clear hmk
  go_loopw [4] (fun i wr => ∃ (k : Nat) (ys : List ChoiceE), k ≤ ps.length ∧ i = .int .i64 k ∧ ys.length = ps.length ∧ ys.map stripChoice = (ps.take k ++ List.replicate (ps.length - k) choice0).map stripChoice ∧ ChoiceR wr w.heap.size ps.length ys ∧ Kept w wr) (fun i _ => ps.length - (intOf i).toNat)
  case atStart =>
    refine ⟨0, List.replicate ps.length choice0, by omega, rfl, by simp, by simp, ⟨by simpa using hm, fun y hy => ?_⟩, (But.refl _ _ _).alloc _⟩
    obtain rfl : y = choice0 := List.eq_of_mem_replicate hy
    exact ⟨World.ownsRow_nil _ _ _ _, fun g hg => by simp [choice0, Value.ownBlock] at hg⟩
  case round =>
    obtain ⟨k, ys, hk, rfl, hyl, hys, ho, hkp⟩ := hrel
    have HY : Hid (ys.length = ps.length ∧ ys.map stripChoice = (ps.take k ++ List.replicate (ps.length - k) choice0).map stripChoice) := ⟨hyl, hys⟩
    clear hm
    by_cases hlt : k < ps.length
    · obtain ⟨p, hpk⟩ : ∃ p, ps[k]? = some p := ⟨_, List.getElem?_eq_getElem hlt⟩
      obtain ⟨y, hy⟩ : ∃ y, ys[k]? = some y := ⟨_, List.getElem?_eq_getElem (by omega)⟩
      obtain ⟨b, o, cap', e, c0, c1, c2, hpa⟩ := choice_get (hv.kept hkp) hpk
      cases e
      have hpl := hp p (List.mem_of_getElem? hpk)
      have HB : Hid ((ps.take k ++ List.replicate (ps.length - k) choice0).map stripChoice = _ ∧ stripChoice p = stripChoice p) := ⟨rfl, rfl⟩
      clear HB
      have HPK : Hid (ps[k]? = some p) := hpk
      clear hyl hys hpk
      obtain ⟨y0, ⟨y1, l⟩, y2⟩ := p
      dsimp only at hpa hpl c0 c1 c2
      obtain ⟨ao3, cap3, hsl3⟩ := row_nil hpa
      subst hsl3
      have hsz0 := hkp.size
      have hlt1 := own_lt ho.1.1 (g := w.heap.size) rfl
      go_wp2_with (go_at_call 64; refine (toChoice _ _ _ _ _ hpa hpl).mono ?_
                   rintro e w' ⟨pv, rfl, hpo, hk2⟩
                   obtain ⟨ao2, cap2, hf, _⟩ := own_form hpo.1
                   subst hf
                   have ho2 := ho.kept hk2
                   obtain ⟨d0, d1, d2, dz⟩ := ho2.cells hy
                   have dz0 := dz (k * 3)
                   have dz1 := dz (k * 3 + 1)
                   have dz2 := dz (k * 3 + 2)
                   have HO : Hid _ := ho2
                   have hs2 := hk2.size
                   have HPO : Hid _ := hpo
                   clear dz ho ho2 hpo)
      have HR := ChoiceR.row HO.out HY.out.1.symm hy (y0, (.slice ao2 l.length cap2, l), y2)
      have B : But w.heap.size (w.heap.size + 1) w' (((w'.setCell ⟨w.heap.size, k * 3, none⟩ (.string y0)).setCell ⟨w.heap.size, k * 3 + 1, none⟩ (.slice ao2 l.length cap2)).setCell ⟨w.heap.size, k * 3 + 2, none⟩ (.int .i64 y2)) := (((But.refl _ _ _).setCell (by simp; try omega) (by simp; try omega) _).setCell (by simp; try omega) (by simp; try omega) _).setCell (by simp; try omega) (by simp; try omega) _
      refine ⟨⟨k + 1, ys.set k (y0, (.slice ao2 l.length cap2, l), y2), hlt, by go_num, by simp [HY.out.1], ?_, ⟨HR, fun z hz => ?_⟩, (hkp.trans hk2).onto B (Nat.le_refl _)⟩, by simp [intOf]; omega⟩
      · rw [List.map_set, HY.out.2, ← fill_set ps choice0 HPK.out, List.map_set]
        rfl
      · rcases List.mem_or_eq_of_mem_set hz with hz | rfl
        · exact ((HO.out.2 z hz).but B (by omega)).mono (Nat.le_refl _) B.size
        · exact (HPO.out.but B (by omega)).mono (by omega) B.size
    · have hke : k = ps.length := by omega
      subst hke
      have hsz := hkp.size
      go_wp2
      go_ret
      have hs := own_lt ho.1.1 (g := w.heap.size) rfl
      refine ⟨_, ys, rfl, ?_, ⟨?_, fun y hy => (ho.2 y hy).mono (by omega) (Nat.le_refl _)⟩, hkp⟩
      · rw [HY.out.2]
        simp
      · have := ho.1.low
        rw [HY.out.1] at this ⊢
        exact this

end Go.Proofs.Ytjpceimaggcncaa
