/-
  What the cursor's reals answers: a new row of some floats, at most 65; and the functions that draw one float, a row, two turns.
-/
import Derived.Test.YthbhoppmdcfgeaaReal
import Derived.Test.YthbhoppmdcfgeaaMean
namespace Go.Proofs.Ythbhoppmdcfgeaa
open Go.ChangeShapes Go.WideShapes Go.ChangeAt Go.RowKit Ieee

/-- Of the blocks that were there only b has turned. -/
structure KB (b : Nat) (W w' : World) : Prop where
  os : w'.os = W.os
  output : w'.output = W.output
  size : W.heap.size ≤ w'.heap.size
  block : ∀ i, i < W.heap.size → i ≠ b → w'.heap[i]? = W.heap[i]?
theorem KB.refl (b : Nat) (W : World) : KB b W W := ⟨rfl, rfl, Nat.le_refl _, fun _ _ _ => rfl⟩
theorem KB.of {b : Nat} {W w : World} (h : GrownBut b W w) : KB b W w := ⟨h.1.1, h.1.2.1, h.2.2, fun i hi hb => h.block i hi hb⟩
theorem KB.trans {b : Nat} {x y z : World} (h : KB b x y) (k : KB b y z) : KB b x z :=
  ⟨k.os.trans h.os, k.output.trans h.output, Nat.le_trans h.size k.size, fun i hi hb => (k.block i (Nat.lt_of_lt_of_le hi h.size) hb).trans (h.block i hi hb)⟩
theorem KB.grownBy {b : Nat} {W w w' : World} {row : Option Nat} (h : KB b W w) (g : w.grownBy w' row) (hrow : ∀ k, row = some k → W.heap.size ≤ k) : KB b W w' :=
  ⟨g.os.trans h.os, g.output.trans h.output, Nat.le_trans h.size g.size, fun i hi hb => (g.block i (Nat.lt_of_lt_of_le hi h.size) (fun e => by have := hrow i e.symm; omega)).trans (h.block i hi hb)⟩
/-- Where the block is one that the call itself has laid, nothing that was there has turned. -/
theorem KB.new {W w' : World} {o : Obj} (h : KB W.heap.size (W.alloc o) w') : Kept W w' := by
  refine ⟨⟨h.os, h.output, fun i hi => ?_⟩, by have := h.size; simp at this; omega⟩
  have e : w'.heap[i]? = W.heap[i]? := (h.block i (by simp; omega) (by omega)).trans (Below.heap_alloc W _ i hi)
  rw [e]
  cases W.heap[i]? with
  | none => simp
  | some x => cases x <;> simp

theorem CurOk.blocks {w w' : World} {b : Nat} {K : Int} (h : CurOk w b K) (hb : ∀ i, i ≤ b → w'.heap[i]? = w.heap[i]?) : CurOk w' b K := by
  obtain ⟨ao, len, cap, p, seed, c, hp⟩ := h
  have cell : ∀ i o, i ≤ b → w'.cell? ⟨i, o, none⟩ = w.cell? ⟨i, o, none⟩ := fun i o hi => World.cell?_of_block (w := w) (a := ⟨i, o, none⟩) (hb i hi)
  have frz : ∀ o, w'.frozen? ⟨b, o, none⟩ = w.frozen? ⟨b, o, none⟩ := fun o => World.frozen?_of_block (w := w) (a := ⟨b, o, none⟩) (hb b (Nat.le_refl _))
  refine ⟨ao, len, cap, p, seed, ⟨(cell b 0 (Nat.le_refl _)).trans c.c0, (cell b 1 (Nat.le_refl _)).trans c.c1, (cell b 2 (Nat.le_refl _)).trans c.c2, (frz 1).trans c.f1, (frz 2).trans c.f2, c.p0, c.s0, c.s1, c.ln, fun i hi => ?_⟩, hp⟩
  obtain ⟨ab, off, z, e, hl, hc, b0, b1⟩ := c.by8 i hi
  exact ⟨ab, off, z, e, hl, (cell ab (off + i) (by omega)).trans hc, b0, b1⟩
theorem Own.but {B b : Nat} {wr w1 : World} {v : Value} {ys : List Nat} (h : Own B wr v ys) (g : GrownBut b wr w1) (hb : b < B) : Own B w1 v ys := by
  refine ⟨h.1, ?_⟩
  rcases h.2 with h0 | ⟨gg, cap, cur, e, hB, hh, r⟩
  · exact .inl h0
  · have hlt : gg < wr.heap.size := by
      rcases Nat.lt_or_ge gg wr.heap.size with h | h
      · exact h
      · rw [Array.getElem?_eq_none h] at hh; cases hh
    exact .inr ⟨gg, cap, cur, e, hB, (g.block gg hlt (by omega)).trans hh, r⟩
theorem wide_snoc {xs : List Nat} {r : Nat} (h : Wide xs) (hr : r < 18446744073709551616) : Wide (xs ++ [r]) := by
  rw [wide_iff] at *
  intro x hx
  rcases List.mem_append.1 hx with h1 | h1
  · exact h x h1
  · simp at h1; omega

/-- One more is appended. -/
theorem reals_step {W wr w1 w2 : World} {b : Nat} {K : Int} {v v' : Value} {xs : List Nat} {r : Nat} (hb : b < W.heap.size) (hk : KB b W wr) (ho : Own W.heap.size wr v xs) (hx : Wide xs) (g : GrownBut b wr w1) (hr : r < 18446744073709551616) (hC : CurOk w1 b K)
    (h1 : w2.ownsRow W.heap.size 25 1 v' (xs.length + 1) (xs.map (Value.float .f64) ++ [.float .f64 r])) (hg : (w1.alloc (.cells #[.float .f64 r] 25)).grownBy w2 v.ownBlock) :
    Own W.heap.size w2 v' (xs ++ [r]) ∧ Wide (xs ++ [r]) ∧ CurOk w2 b K ∧ KB b W w2 := by
  have ho1 := ho.but g hb
  have hrow : ∀ k, v.ownBlock = some k → W.heap.size ≤ k := fun k hk => (World.ownsRow.lt ho1 k hk).1
  have hk1 := hk.trans (KB.of g)
  have hk2 : KB b W (w1.alloc (.cells #[.float .f64 r] 25)) := hk1.trans (KB.of (GrownBut.of ((Grown.refl w1).alloc _ _)))
  refine ⟨by unfold Own; simpa using h1, wide_snoc hx hr, hC.blocks fun i hi => ?_, hk2.grownBy hg hrow⟩
  have hs : i < w1.heap.size := by have := hk1.size; omega
  rw [hg.block i (by simp; omega) (fun e => by have := hrow i e.symm; omega), Below.heap_alloc w1 _ i hs]

def RealsAns (b : Nat) (w : World) (e : Ending) (w' : World) : Prop := ∃ v xs, e = .returned v ∧ Own w.heap.size w' v xs ∧ Wide xs ∧ xs.length ≤ 65 ∧ KB b w w'
set_option maxHeartbeats 2000000 in
theorem reals_ok (w : World) (b : Nat) (K : Int) (h : CurOk w b K) (hK : K ≤ 1000000000) :
    Calls Try.prog 39 #[.pointer (some ⟨b, 0, none⟩)] w (RealsAns b w) := by
  obtain ⟨i0, hi, hz0, hz1, hz2⟩ := info_parts info25
  have hlt := h.lt
  go_enter Try.func39, Try.ntmps39
  go_wp2_with fail
  refine (pick_ok _ b K 7 h (by omega) (by omega)).mono ?_
  rintro e w1 ⟨m, rfl, hm, hC1, hg1⟩
  go_wp2_with fail
  refine (one_ok _ b (K + 2) 30 hC1 (by omega) (by omega)).mono ?_
  rintro e w2 ⟨yes, rfl, hC2, hg2⟩
  cases yes
  · obtain ⟨m, rfl, hm2⟩ := nat_of m 7 hm.1 hm.2
    go_wp2
    go_loopw [3, 4] (fun v n wr => ∃ (m : Nat) (xs : List Nat), n = .int .i64 m ∧ m + xs.length ≤ 65 ∧ Own w.heap.size wr v xs ∧ Wide xs ∧ CurOk wr b (K + 6 + 20 * xs.length) ∧ KB b w wr) (fun _ n _ => (intOf n).toNat)
    case atStart => exact ⟨m, [], rfl, by simp; omega, World.ownsRow_nil _ _ _ _, fun i hi => by simp at hi, hC2.le (by simp; omega), (KB.of hg1).trans (KB.of hg2)⟩
    case round =>
      clear hC1 hg1 hC2 hg2
      obtain ⟨m, xs, rfl, hml, hown, hwd, hcur, hkb⟩ := hrel
      by_cases hm0 : 0 < m
      · have hm1 : (0 : Int) < (m : Int) := by omega
        go_wp2_with (first
          | (go_at_call 61; refine (real_ok _ b (K + 6 + 20 * xs.length) hcur (by omega)).mono ?_; rintro e w3 ⟨r, rfl, hr, hC3, hg3⟩)
          | (at_builtin; refine wpList_append_own _ rfl _ _ 23 rfl w.heap.size 25 i0 (.float .f64 0) 1 8 Try.underlying23 hi hz0 hz1 hz2 rfl (by decide) _ _ _ rfl (World.ownsRow.alloc (Own.but hown hg3 hlt) _) ⟨_, 0, none⟩ 1 1 [.float .f64 r] rfl rfl (news_cell _ r) (news_one r) (by unfold maxLen; omega) (by omega) (by have := hkb.size; have := (KB.of hg3).size; simp; omega) ?_; intro v' w4 hown' hgrow _))
        have R := reals_step hlt hkb hown hwd hg3 hr hC3 hown' hgrow
        have em : ((m - 1 : Nat) : Int) = (m : Int) - 1 := by omega
        exact ⟨⟨m - 1, xs ++ [r], by rw [em], by simp; omega, R.1, R.2.1, R.2.2.1.le (by simp; omega), R.2.2.2⟩, by simp [intOf]; omega⟩
      · have hm1 : decide ((0 : Int) < (m : Int)) = false := by simp; omega
        go_wp2
        go_ret
        exact ⟨_, xs, rfl, hown, hwd, by omega, hkb⟩
  · go_wp2_with fail
    refine (pick_ok _ b (K + 4) 2 (hC2.le (by omega)) (by omega) (by omega)).mono ?_
    rintro e w3 ⟨q, rfl, hq, hC3, hg3⟩
    obtain ⟨q, rfl, hq2⟩ := nat_of q 2 hq.1 hq.2
    go_wp2
    go_loopw [3, 4] (fun v n wr => ∃ (m : Nat) (xs : List Nat), n = .int .i64 m ∧ m + xs.length ≤ 65 ∧ Own w.heap.size wr v xs ∧ Wide xs ∧ CurOk wr b (K + 6 + 20 * xs.length) ∧ KB b w wr) (fun _ n _ => (intOf n).toNat)
    case atStart => exact ⟨64 + q, [], by rw [Int.natCast_add]; rfl, by simp; omega, World.ownsRow_nil _ _ _ _, fun i hi => by simp at hi, hC3.le (by simp; omega), ((KB.of hg1).trans (KB.of hg2)).trans (KB.of hg3)⟩
    case round =>
      clear hC1 hg1 hC2 hg2 hC3 hg3
      obtain ⟨m, xs, rfl, hml, hown, hwd, hcur, hkb⟩ := hrel
      by_cases hm0 : 0 < m
      · have hm1 : (0 : Int) < (m : Int) := by omega
        go_wp2_with (first
          | (go_at_call 61; refine (real_ok _ b (K + 6 + 20 * xs.length) hcur (by omega)).mono ?_; rintro e w3 ⟨r, rfl, hr, hC3, hg3⟩)
          | (at_builtin; refine wpList_append_own _ rfl _ _ 23 rfl w.heap.size 25 i0 (.float .f64 0) 1 8 Try.underlying23 hi hz0 hz1 hz2 rfl (by decide) _ _ _ rfl (World.ownsRow.alloc (Own.but hown hg3 hlt) _) ⟨_, 0, none⟩ 1 1 [.float .f64 r] rfl rfl (news_cell _ r) (news_one r) (by unfold maxLen; omega) (by omega) (by have := hkb.size; have := (KB.of hg3).size; simp; omega) ?_; intro v' w4 hown' hgrow _))
        have R := reals_step hlt hkb hown hwd hg3 hr hC3 hown' hgrow
        have em : ((m - 1 : Nat) : Int) = (m : Int) - 1 := by omega
        exact ⟨⟨m - 1, xs ++ [r], by rw [em], by simp; omega, R.1, R.2.1, R.2.2.1.le (by simp; omega), R.2.2.2⟩, by simp [intOf]; omega⟩
      · have hm1 : decide ((0 : Int) < (m : Int)) = false := by simp; omega
        go_wp2
        go_ret
        exact ⟨_, xs, rfl, hown, hwd, by omega, hkb⟩

/-- len bytes lie behind ao. -/
def Code (W : World) (ao : Option Addr) (len : Nat) : Prop := ∀ i, i < len → ∃ ab off c, ao = some ⟨ab, off, none⟩ ∧ W.cell? ⟨ab, off + i, none⟩ = some (.int .u8 c) ∧ 0 ≤ c ∧ c ≤ 255
theorem Code.kept {W W' : World} {ao : Option Addr} {len : Nat} (h : Code W ao len) (k : Kept W W') : Code W' ao len := fun i hi => by
  obtain ⟨ab, off, c, e, hc, r⟩ := h i hi
  exact ⟨ab, off, c, e, k.cell hc, r⟩
theorem Code.cur {W : World} {ao : Option Addr} {len cap : Nat} {t : TypeId} (h : Code W ao len) (hl : len ≤ 1048576) : CurOk (W.alloc (.cells #[.slice ao len cap, .int .i64 0, .int .u64 0] t)) W.heap.size 0 := by
  refine ⟨ao, len, cap, 0, 0, ⟨by simp [go_sem], by simp [go_sem], by simp [go_sem], ?_, ?_, by omega, by omega, by omega, hl, fun i hi => ?_⟩, by omega⟩
  · rw [frozen?_alloc_cells]; simp [World.frozen?]
  · rw [frozen?_alloc_cells]; simp [World.frozen?]
  · obtain ⟨ab, off, c, e, hc, hb⟩ := h i hi
    have hs := size_of_cell hc
    exact ⟨ab, off, c, e, by omega, (gcell ((Grown.refl W).alloc _ _) ab (off + i) hs).trans hc, hb⟩

theorem own_form2 {B : Nat} {wr : World} {v : Value} {ys : List Nat} (h : Own B wr v ys) : ∃ ao cap, v = .slice ao ys.length cap ∧ ys.length ≤ cap ∧ cap ≤ maxLen ∧ FRow wr ao ys := by
  rcases h.2 with ⟨rfl, h0⟩ | ⟨g, cap, cur, rfl, _, _, hle, hmx, _⟩
  · refine ⟨none, 0, by rw [h0], by omega, Nat.zero_le _, fun i hi => by omega⟩
  · refine ⟨some ⟨g, 0, none⟩, cap, rfl, hle, hmx, fun i hi => ⟨g, 0, rfl, ?_⟩⟩
    have := World.ownsRow.cellAt h i (by omega)
    rw [Nat.zero_add, this, List.getElem?_map, List.getD_eq_getElem?_getD, List.getElem?_eq_getElem hi]
    rfl
def RowAns (w : World) (e : Ending) (w' : World) : Prop := ∃ ao cap xs, e = .returned (.slice ao xs.length cap) ∧ FRow w' ao xs ∧ Wide xs ∧ xs.length ≤ 65 ∧ xs.length ≤ cap ∧ cap ≤ maxLen ∧ Kept w w'
theorem drawRow (ao : Option Addr) (len cap : Nat) (w : World) (hc : Code w ao len) (hl : len ≤ 1048576) : Calls Try.prog 13 #[.slice ao len cap] w (RowAns w) := by
  go_enter Try.func13, Try.ntmps13
  go_wp2_with fail
  refine (reals_ok _ w.heap.size 0 (hc.cur hl) (by omega)).mono ?_
  rintro e w1 ⟨v, xs, rfl, hown, hwd, hln, hkb⟩
  obtain ⟨ao', cap', rfl, hcp, hmx, hfr⟩ := own_form2 hown
  go_wp2
  go_ret
  exact ⟨ao', cap', xs, rfl, hfr, hwd, hln, hcp, hmx, hkb.new⟩
def FloatAns (w : World) (e : Ending) (w' : World) : Prop := ∃ r, e = .returned (.float .f64 r) ∧ r < 18446744073709551616 ∧ Kept w w'
theorem drawGood (ao : Option Addr) (len cap : Nat) (w : World) (hc : Code w ao len) (hl : len ≤ 1048576) : Calls Try.prog 48 #[.slice ao len cap] w (FloatAns w) := by
  go_enter Try.func48, Try.ntmps48
  go_wp2_with fail
  refine (real_ok _ w.heap.size 0 (hc.cur hl) (by omega)).mono ?_
  rintro e w1 ⟨r, rfl, hr, _, hg⟩
  go_wp2
  go_ret
  exact ⟨r, rfl, hr, (KB.of hg).new⟩
theorem drawTo (ao : Option Addr) (len cap : Nat) (w : World) (hc : Code w ao len) (hl : len ≤ 1048576) : Calls Try.prog 18 #[.slice ao len cap] w (FloatAns w) := by
  go_enter Try.func18, Try.ntmps18
  go_wp2_with fail
  refine (drawGood ao len cap _ hc hl).mono ?_
  rintro e w1 ⟨r, rfl, hr, hk⟩
  go_wp2
  go_ret
  exact ⟨r, rfl, hr, hk⟩
end Go.Proofs.Ythbhoppmdcfgeaa
