/-
  Lists of chunks weighed.
-/
import Derived.Test.YtipgffikmnebnaaChunk
namespace Go.Proofs.Ytipgffikmnebnaa
open Go.ChangeShapes Go.WideShapes Go.ChangeAt Go.RowKit

set_option maxHeartbeats 2000000 in
theorem szChunk (f0 : Int) (f1 : Int) (f2 : Value) (l : List BytD) (left : Int) (w : World) (hv : BytAt w f2 l) (hl : 0 ≤ left) (hm : left ≤ 1048576) (hn : l.length ≤ 9223372036854775807) :
    Calls Try.prog 102 #[.agg #[.int .i64 f0, .int .i64 f1, f2], .int .i64 left] w fun e w' => e = .returned (.int .i64 (leftOf left (l.length))) ∧ Kept w w' := by
  obtain ⟨ao, cap, hsl⟩ := row_nil hv
  subst hsl
  by_cases h0 : left < (l.length : Int)
  · have d0 : decide (left - (l.length : Int) < 0) = true := by simp; omega
    go_enter Try.func102, Try.ntmps102
    go_wp2_with (go_at_call 122; refine (szBytS l _ _ _ (hv.kept ((But.refl _ _ _).alloc _)) (by omega) (by omega) hn).mono ?_; rintro e w1 ⟨rfl, k1⟩; rw [leftOf_no (by omega)]; have L9 := (Loc.new w [.int .i64 f0, .int .i64 f1, .slice ao l.length cap] 136).kept k1; clear L9)
    go_ret
    exact ⟨ret_int (leftOf_no (by omega)).symm, But.trans ((But.refl _ _ _).alloc _) k1⟩
  · have d0 : decide (left - (l.length : Int) < 0) = false := by simp; omega
    go_enter Try.func102, Try.ntmps102
    go_wp2_with (go_at_call 122; refine (szBytS l _ _ _ (hv.kept ((But.refl _ _ _).alloc _)) (by omega) (by omega) hn).mono ?_; rintro e w1 ⟨rfl, k1⟩; rw [leftOf_yes (by omega)]; have L9 := (Loc.new w [.int .i64 f0, .int .i64 f1, .slice ao l.length cap] 136).kept k1; clear L9)
    go_ret
    exact ⟨ret_int (by rw [leftOf_yes (by omega)] <;> omega), But.trans ((But.refl _ _ _).alloc _) k1⟩

/-- How much a list weighs. -/
def chunkOne (p : ChunkE) : Nat := p.2.2.2.length
def chunkSum (ps : List ChunkE) : Nat := (ps.map chunkOne).sum
def chunkCost (ps : List ChunkE) : Nat := ps.length + chunkSum ps
theorem chunkSum_snoc (l : List ChunkE) (p : ChunkE) : chunkSum (l ++ [p]) = chunkSum l + chunkOne p := by simp [chunkSum]
theorem chunkSum_take (l : List ChunkE) (k : Nat) : chunkSum (l.take k) ≤ chunkSum l := by
  have h := congrArg chunkSum (List.take_append_drop k l)
  have h2 : ∀ a b : List ChunkE, chunkSum (a ++ b) = chunkSum a + chunkSum b := fun a b => by simp [chunkSum]
  rw [h2] at h
  omega
theorem chunkSum_le {l : List ChunkE} {k : Nat} {p : ChunkE} (h : l[k]? = some p) : chunkOne p ≤ chunkSum l := by
  have := chunkSum_take l (k + 1)
  rw [take_snoc h, chunkSum_snoc] at this
  omega

/-- All that the counts of a list must keep to. -/
def ChunkFit (ps : List ChunkE) : Prop := ∀ p ∈ ps, p.2.2.2.length ≤ 9223372036854775807

set_option maxHeartbeats 2000000 in
theorem szChunkS (ps : List ChunkE) (v : Value) (left : Int) (w : World) (hv : ChunkAt w v ps) (hl : 0 ≤ left) (hm : left ≤ 1048576) (hn : ps.length ≤ 9223372036854775807) (hs : ChunkFit ps) :
    Calls Try.prog 54 #[v, .int .i64 left] w fun e w' => e = .returned (.int .i64 (leftOf left (chunkCost ps))) ∧ Kept w w' := by
  obtain ⟨ao, cap, hsl⟩ := row_nil hv.1
  subst hsl
  by_cases hc : left < (ps.length : Int)
  · go_enter Try.func54, Try.ntmps54
    go_wp2
    go_ret
    exact ⟨ret_int (leftOf_no (by unfold chunkCost; omega)).symm, But.refl _ _ _⟩
  · have hc' : (ps.length : Int) ≤ left := by omega
    have hc2 : decide (left - (ps.length : Int) < 0) = false := by simp; omega
    go_enter Try.func54, Try.ntmps54
    go_wp2
    go_loopw [1, 5] (fun l i wr => ∃ (k : Nat) (c : Int), k ≤ ps.length ∧ i = .int .i64 k ∧ l = .int .i64 c ∧ c = left - ps.length - chunkSum (ps.take k) ∧ 0 ≤ c ∧ Kept w wr) (fun l i _ => ps.length - (intOf i).toNat)
    case atStart => exact ⟨0, _, by omega, rfl, rfl, by simp [chunkSum], by omega, But.refl _ _ _⟩
    case round =>
      obtain ⟨k, c, hk, rfl, rfl, hcv, h0, hkp⟩ := hrel
      have HC : Hid (c = left - ps.length - chunkSum (ps.take k)) := hcv
      clear hcv
      by_cases hlt : k < ps.length
      · obtain ⟨p, hp⟩ : ∃ p, ps[k]? = some p := ⟨_, List.getElem?_eq_getElem hlt⟩
        obtain ⟨b, o, cap', e, c0, c1, c2, hpa⟩ := chunk_get (hv.kept hkp) hp
        cases e
        have hcm : c ≤ 1048576 := by have := HC.out; omega
        have hps := hs p (List.mem_of_getElem? hp)
        have hsn := chunkSum_snoc (ps.take k) p
        rw [← take_snoc hp] at hsn
        have hst := chunkSum_take ps (k + 1)
        have HS : Hid (chunkSum (ps.take (k + 1)) = chunkSum (ps.take k) + (p.2.2.2.length) ∧ chunkSum (ps.take (k + 1)) ≤ chunkSum ps) := ⟨hsn, hst⟩
        clear hsn hst
        obtain ⟨y0, y1, ⟨y2, l⟩⟩ := p
        dsimp only at hps hpa c0 c1 c2
        obtain ⟨ao3, cap3, hsl3⟩ := row_nil hpa
        subst hsl3
        have HP : Hid (BytAt wr (.slice ao3 l.length cap3) l) := hpa
        clear hpa
        obtain ⟨M, hM⟩ : ∃ M : Nat, l.length = M := ⟨_, rfl⟩
        have HM : Hid (l.length = M) := hM
        clear hM
        by_cases hle : (M : Int) ≤ c
        · have hd : decide (c - (M : Int) < 0) = false := by simp; omega
          go_wp2_with (go_at_call 102; refine (szChunk _ _ _ _ _ _ HP.out h0 hcm hps).mono ?_; rw [HM.out, leftOf_yes hle]; rintro e w' ⟨rfl, hk2⟩)
          have hM := HM.out
          have hS' := HS.out
          exact ⟨⟨k + 1, _, hlt, by go_num, rfl, by have := HC.out; omega, by omega, hkp.trans hk2⟩, by simp [intOf]; omega⟩
        · go_wp2_with (go_at_call 102; refine (szChunk _ _ _ _ _ _ HP.out h0 hcm hps).mono ?_; rw [HM.out, leftOf_no (by omega)]; rintro e w' ⟨rfl, hk2⟩)
          have hM := HM.out
          have hS' := HS.out
          go_ret
          exact ⟨ret_int (leftOf_no (by have := HC.out; unfold chunkCost; omega)).symm, hkp.trans hk2⟩
      · have hke : k = ps.length := by omega
        subst hke
        go_wp2
        go_ret
        have := HC.out
        rw [List.take_length] at this
        exact ⟨ret_int (by rw [leftOf_yes (by unfold chunkCost; omega)]; unfold chunkCost; omega), hkp⟩

end Go.Proofs.Ytipgffikmnebnaa
