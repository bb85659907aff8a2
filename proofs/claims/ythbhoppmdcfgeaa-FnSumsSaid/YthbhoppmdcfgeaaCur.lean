/-
  What the cursor that reads drawn choices answers (next, pick, one, among, wide): a number in its range; it writes into its own block alone.
-/
import Derived.Test.YthbhoppmdcfgeaaCopy
import Derived.Laws.Bits64
import Derived.Deep.QuietTactic
import Derived.BigQuiet
namespace Go.Proofs.Ythbhoppmdcfgeaa
open Go.ChangeShapes Go.WideShapes Go.ChangeAt Go.RowKit

/-- Of what was there only block b has turned. -/
def GrownBut (b : Nat) (W w' : World) : Prop := W.keptBut w' (fun p => p.block = b) ∧ (∀ a, w'.frozen? a = W.frozen? a) ∧ W.heap.size ≤ w'.heap.size
theorem GrownBut.refl (b : Nat) (W : World) : GrownBut b W W := ⟨World.keptBut_refl _ _, fun _ => rfl, Nat.le_refl _⟩
theorem GrownBut.trans {b : Nat} {x y z : World} (h : GrownBut b x y) (k : GrownBut b y z) : GrownBut b x z :=
  ⟨World.keptBut_trans h.1 k.1, fun a => (k.2.1 a).trans (h.2.1 a), Nat.le_trans h.2.2 k.2.2⟩
theorem GrownBut.of {b : Nat} {x y : World} (h : Grown x y) : GrownBut b x y := ⟨World.keptBut_mono (fun _ f => f.elim) h.1, h.2.1, h.2.2⟩

theorem cur_keptCell (w : World) (b o : Nat) (v : Value) : w.keptBut (w.setCell ⟨b, o, none⟩ v) (fun p => p.block = b) := by
  refine ⟨rfl, rfl, fun i hi => ?_⟩
  have e : (w.setCell ⟨b, o, none⟩ v).heap = w.heap.modify b fun
      | .cells c t fr => .cells (c.setIfInBounds o v) t fr
      | x => x := by
    simp only [World.setCell]
    congr 1
  rw [e, Array.getElem?_modify]
  by_cases hb : b = i
  · subst hb
    rw [if_pos rfl]
    cases h : w.heap[b]? with
    | none => simp
    | some x =>
      cases x <;> simp [MemPlace.block]
  · rw [if_neg hb]
    cases h : w.heap[i]? with
    | none => simp
    | some x => cases x <;> simp

theorem GrownBut.setCell {b : Nat} {W w' : World} (h : GrownBut b W w') (o : Nat) (v : Value) : GrownBut b W (w'.setCell ⟨b, o, none⟩ v) :=
  ⟨World.keptBut_trans h.1 (cur_keptCell _ _ _ _), fun x => (World.frozen?_setCell _ _ _ _).trans (h.2.1 x), by simpa [World.setCell] using h.2.2⟩
theorem GrownBut.block {b : Nat} {W w1 : World} (h : GrownBut b W w1) (i : Nat) (hi : i < W.heap.size) (hb : i ≠ b) : w1.heap[i]? = W.heap[i]? := by
  have hk := h.1.2.2 i hi
  cases e1 : W.heap[i]? with
  | none => rw [e1] at hk; simpa using hk
  | some o =>
    rw [e1] at hk
    cases e2 : w1.heap[i]? with
    | none => rw [e2] at hk; cases o <;> simp at hk
    | some o' =>
      rw [e2] at hk
      cases o <;> cases o' <;> simp [MemPlace.block, hb] at hk ⊢ <;> first
        | exact hk
        | (obtain ⟨h1, h2, h3, h4⟩ := hk; exact ⟨Array.ext_getElem? h4, h1, h2⟩)
        | skip
theorem size_of_cell {w : World} {b o : Nat} {v : Value} (h : w.cell? ⟨b, o, none⟩ = some v) : b < w.heap.size := by
  rcases Nat.lt_or_ge b w.heap.size with hb | hb
  · exact hb
  · simp [World.cell?, Array.getElem?_eq_none hb] at h
theorem GrownBut.cell {b : Nat} {W w1 : World} (h : GrownBut b W w1) {i o : Nat} {v : Value} (hc : W.cell? ⟨i, o, none⟩ = some v) (hb : i ≠ b) : w1.cell? ⟨i, o, none⟩ = some v :=
  (World.cell?_of_block (w := W) (a := ⟨i, o, none⟩) (h.block i (size_of_cell hc) hb)).trans hc
/-- Where the block is one that the call itself has laid, nothing that was there has turned. -/
theorem GrownBut.new {W w' : World} {c : Array Value} {t : TypeId} (h : GrownBut W.heap.size (W.alloc (.cells c t)) w') : Grown W w' := by
  refine ⟨⟨h.1.1, h.1.2.1, fun i hi => ?_⟩, fun a => (h.2.1 a).trans (frozen?_alloc_cells _ _ _ a), by have := h.2.2; simp at this; omega⟩
  have e1 := h.block i (by simp; omega) (by omega)
  rw [Below.heap_alloc W _ i hi] at e1
  rw [e1]
  cases W.heap[i]? with
  | none => simp
  | some x => cases x <;> simp

/-- The cursor lies in block b; its bytes lie elsewhere. -/
structure Cur (w : World) (b : Nat) (ao : Option Addr) (len cap : Nat) (p : Int) (seed : Int) : Prop where
  c0 : w.cell? ⟨b, 0, none⟩ = some (.slice ao len cap)
  c1 : w.cell? ⟨b, 1, none⟩ = some (.int .i64 p)
  c2 : w.cell? ⟨b, 2, none⟩ = some (.int .u64 seed)
  f1 : w.frozen? ⟨b, 1, none⟩ = false
  f2 : w.frozen? ⟨b, 2, none⟩ = false
  p0 : 0 ≤ p
  s0 : 0 ≤ seed
  s1 : seed < 18446744073709551616
  ln : len ≤ 1048576
  by8 : ∀ i, i < len → ∃ ab off c, ao = some ⟨ab, off, none⟩ ∧ ab < b ∧ w.cell? ⟨ab, off + i, none⟩ = some (.int .u8 c) ∧ 0 ≤ c ∧ c ≤ 255

theorem Cur.step {w w' : World} {b : Nat} {ao : Option Addr} {len cap : Nat} {p p' seed seed' : Int} (h : Cur w b ao len cap p seed) (g : GrownBut b w w')
    (k0 : w'.cell? ⟨b, 0, none⟩ = some (.slice ao len cap)) (k1 : w'.cell? ⟨b, 1, none⟩ = some (.int .i64 p')) (k2 : w'.cell? ⟨b, 2, none⟩ = some (.int .u64 seed')) (hp : 0 ≤ p') (hs : 0 ≤ seed') (hs' : seed' < 18446744073709551616) :
    Cur w' b ao len cap p' seed' :=
  ⟨k0, k1, k2, (g.2.1 _).trans h.f1, (g.2.1 _).trans h.f2, hp, hs, hs', h.ln, fun i hi => by
    obtain ⟨ab, off, c, e, hb, hc, b0, b1⟩ := h.by8 i hi
    exact ⟨ab, off, c, e, hb, g.cell hc (Nat.ne_of_lt hb), b0, b1⟩⟩
theorem Cur.grown {w w' : World} {b : Nat} {ao : Option Addr} {len cap : Nat} {p seed : Int} (h : Cur w b ao len cap p seed) (g : Grown w w') : Cur w' b ao len cap p seed :=
  have hb := size_of_cell h.c0
  h.step (GrownBut.of g) ((gcell g b 0 hb).trans h.c0) ((gcell g b 1 hb).trans h.c1) ((gcell g b 2 hb).trans h.c2) h.p0 h.s0 h.s1

theorem wrap_lo (n : Int) : 0 ≤ IntKind.u64.wrap n := by rw [IntKind.wrap_u64]; omega
theorem wrap_hi (n : Int) : IntKind.u64.wrap n < 18446744073709551616 := by rw [IntKind.wrap_u64]; omega

set_option maxHeartbeats 1000000 in
theorem next_in (w : World) (b ab off len cap k : Nat) (c seed : Int) (h : Cur w b (some ⟨ab, off, none⟩) len cap k seed) (hk : k < len) (hc : w.cell? ⟨ab, off + k, none⟩ = some (.int .u8 c)) (hc0 : 0 ≤ c) (hc1 : c ≤ 255) :
    Calls Try.prog 63 #[.pointer (some ⟨b, 0, none⟩)] w fun e w' => ∃ n s', e = .returned (.int .i64 n) ∧ (0 ≤ n ∧ n ≤ 255) ∧ Cur w' b (some ⟨ab, off, none⟩) len cap (k + 1) s' ∧ GrownBut b w w' := by
  have c0 := h.c0
  have c1 := h.c1
  have c2 := h.c2
  have f1 := h.f1
  have f2 := h.f2
  have ln := h.ln
  have s0 := h.s0
  have s1 := h.s1
  go_enter Try.func63, Try.ntmps63
  go_wp2
  go_quiet (fail)
  go_wp2
  go_quiet (fail)
  go_wp2
  go_quiet (fail)
  go_wp2
  go_ret
  have g : GrownBut b w ((w.setCell ⟨b, 1, none⟩ (.int .i64 (k + 1))).setCell ⟨b, 2, none⟩ (.int .u64 (IntKind.u64.wrap (IntKind.u64.wrap (IntKind.u64.wrap (seed * 6364136223846793005) + c) + 1442695040888963407)))) := ((GrownBut.refl b w).setCell 1 _).setCell 2 _
  exact ⟨c, IntKind.u64.wrap (IntKind.u64.wrap (IntKind.u64.wrap (seed * 6364136223846793005) + c) + 1442695040888963407), rfl, ⟨hc0, hc1⟩, h.step g (by simp [go_sem, c0]) (by simp [go_sem, c1]) (by simp [go_sem, c2]) (by omega) (wrap_lo _) (wrap_hi _), g⟩

theorem and255 (a : Int) (h0 : 0 ≤ a) (h : a < 18446744073709551616) : bits .and .u64 a 255 = a % 256 := by
  obtain ⟨n, rfl⟩ := Int.eq_ofNat_of_zero_le h0
  have hn : n < 18446744073709551616 := by omega
  have h1 : (BitVec.ofInt 64 (n : Int)).toNat = n := by
    rw [BitVec.ofInt_natCast, BitVec.toNat_ofNat]; exact Nat.mod_eq_of_lt (by omega)
  have h2 : (BitVec.ofInt 64 ((255 : Nat) : Int)).toNat = 255 := by decide
  show IntKind.u64.wrap ((BitVec.ofInt 64 (n : Int) &&& BitVec.ofInt 64 ((255 : Nat) : Int)).toNat : Int) = _
  have e2 : n &&& 255 = n % 256 := Nat.and_two_pow_sub_one_eq_mod n 8
  rw [BitVec.toNat_and, h1, h2, IntKind.wrap_u64, e2]
  omega

set_option maxHeartbeats 1000000 in
theorem next_out (w : World) (b : Nat) (ao : Option Addr) (len cap : Nat) (p seed : Int) (h : Cur w b ao len cap p seed) (hk : len ≤ p) (hp : p ≤ 4611686018427387904) :
    Calls Try.prog 63 #[.pointer (some ⟨b, 0, none⟩)] w fun e w' => ∃ n s', e = .returned (.int .i64 n) ∧ (0 ≤ n ∧ n ≤ 255) ∧ Cur w' b ao len cap (p + 1) s' ∧ GrownBut b w w' := by
  have c0 := h.c0
  have c1 := h.c1
  have c2 := h.c2
  have f1 := h.f1
  have f2 := h.f2
  have ln := h.ln
  have s0 := h.s0
  have s1 := h.s1
  have p0 := h.p0
  have d1 : decide (p < (len : Int)) = false := by simp; omega
  have d2 : decide (p + 1 ≤ (len : Int)) = false := by simp; omega
  go_enter Try.func63, Try.ntmps63
  go_wp2
  go_quiet (fail)
  go_wp2
  go_quiet (fail)
  go_wp2
  go_ret
  have g : GrownBut b w ((w.setCell ⟨b, 1, none⟩ (.int .i64 (p + 1))).setCell ⟨b, 2, none⟩ (.int .u64 (IntKind.u64.wrap (IntKind.u64.wrap (IntKind.u64.wrap (seed * 6364136223846793005)) + 1442695040888963407)))) := ((GrownBut.refl b w).setCell 1 _).setCell 2 _
  have r0 := wrap_lo (IntKind.u64.wrap (IntKind.u64.wrap (seed * 6364136223846793005)) + 1442695040888963407)
  have r1 := wrap_hi (IntKind.u64.wrap (IntKind.u64.wrap (seed * 6364136223846793005)) + 1442695040888963407)
  refine ⟨_, IntKind.u64.wrap (IntKind.u64.wrap (IntKind.u64.wrap (seed * 6364136223846793005)) + 1442695040888963407), rfl, ?_, h.step g (by simp [go_sem, c0]) (by simp [go_sem, c1]) (by simp [go_sem, c2]) (by omega) r0 r1, g⟩
  rw [and255 _ (by omega) (by omega), IntWalk.wrap64_in _ (by omega)]
  omega

/-- The cursor lies in block b, and has read at most K choices. -/
def CurOk (w : World) (b : Nat) (K : Int) : Prop := ∃ ao len cap p seed, Cur w b ao len cap p seed ∧ p ≤ K
theorem CurOk.grown {w w' : World} {b : Nat} {K : Int} (h : CurOk w b K) (g : Grown w w') : CurOk w' b K := by
  obtain ⟨ao, len, cap, p, seed, h, hp⟩ := h
  exact ⟨ao, len, cap, p, seed, h.grown g, hp⟩
theorem CurOk.le {w : World} {b : Nat} {K K' : Int} (h : CurOk w b K) (hk : K ≤ K') : CurOk w b K' := by
  obtain ⟨ao, len, cap, p, seed, h, hp⟩ := h
  exact ⟨ao, len, cap, p, seed, h, by omega⟩
theorem CurOk.lt {w : World} {b : Nat} {K : Int} (h : CurOk w b K) : b < w.heap.size := by
  obtain ⟨ao, len, cap, p, seed, h, hp⟩ := h
  exact size_of_cell h.c0
theorem CurOk.k0 {w : World} {b : Nat} {K : Int} (h : CurOk w b K) : 0 ≤ K := by
  obtain ⟨ao, len, cap, p, seed, h, hp⟩ := h
  have := h.p0
  omega

/-- A number for which P holds is answered; the cursor has read at most K choices. -/
def Drawn (b : Nat) (K : Int) (P : Int → Prop) (w : World) (e : Ending) (w' : World) : Prop := ∃ n, e = .returned (.int .i64 n) ∧ P n ∧ CurOk w' b K ∧ GrownBut b w w'

theorem next_ok (w : World) (b : Nat) (K : Int) (h : CurOk w b K) (hK : K ≤ 1152921504606846976) :
    Calls Try.prog 63 #[.pointer (some ⟨b, 0, none⟩)] w (Drawn b (K + 1) (fun n => 0 ≤ n ∧ n ≤ 255) w) := by
  obtain ⟨ao, len, cap, p, seed, h, hp⟩ := h
  have p0 := h.p0
  rcases Int.lt_or_le p len with hl | hl
  · obtain ⟨k, rfl⟩ := Int.eq_ofNat_of_zero_le p0
    obtain ⟨ab, off, c, rfl, hb, hc, b0, b1⟩ := h.by8 k (by omega)
    refine (next_in w b ab off len cap k c seed h (by omega) hc b0 b1).mono ?_
    rintro e w' ⟨n, s', he, hn, hC, hg⟩
    exact ⟨n, he, hn, ⟨_, _, _, _, _, hC, by omega⟩, hg⟩
  · refine (next_out w b ao len cap p seed h hl (by omega)).mono ?_
    rintro e w' ⟨n, s', he, hn, hC, hg⟩
    exact ⟨n, he, hn, ⟨_, _, _, _, _, hC, by omega⟩, hg⟩

set_option maxHeartbeats 400000 in
theorem pick_low (w : World) (b : Nat) (K n : Int) (h : CurOk w b K) (hK : K ≤ 1152921504606846900) (h1 : 1 < n) (h2 : n ≤ 200) :
    Calls Try.prog 59 #[.pointer (some ⟨b, 0, none⟩), .int .i64 n] w (Drawn b (K + 2) (fun r => 0 ≤ r ∧ r < n) w) := by
  have d1 : decide (n ≤ 1) = false := by simp; omega
  have d2 : decide (200 < n) = false := by simp; omega
  go_enter Try.func59, Try.ntmps59
  go_wp2_with (go_at_call 63; refine (next_ok _ b K h (by omega)).mono ?_; rintro e w1 ⟨x, rfl, hx, hC, hg⟩)
  go_ret
  exact ⟨x % n, rfl, ⟨Int.emod_nonneg _ (by omega), Int.emod_lt_of_pos _ (by omega)⟩, hC.le (by omega), hg⟩

set_option maxHeartbeats 400000 in
theorem pick_high (w : World) (b : Nat) (K n : Int) (h : CurOk w b K) (hK : K ≤ 1152921504606846900) (h1 : 200 < n) :
    Calls Try.prog 59 #[.pointer (some ⟨b, 0, none⟩), .int .i64 n] w (Drawn b (K + 2) (fun r => 0 ≤ r ∧ r < n) w) := by
  have d1 : decide (n ≤ 1) = false := by simp; omega
  go_enter Try.func59, Try.ntmps59
  go_wp2_with fail
  refine (next_ok _ b K h (by omega)).mono ?_
  rintro e w1 ⟨x, rfl, hx, hC, hg⟩
  go_wp2_with fail
  refine (next_ok _ b (K + 1) hC (by omega)).mono ?_
  rintro e w2 ⟨y, rfl, hy, hC2, hg2⟩
  go_wp2_with fail
  go_ret
  exact ⟨(x * 256 + y) % n, rfl, ⟨Int.emod_nonneg _ (by omega), Int.emod_lt_of_pos _ (by omega)⟩, hC2.le (by omega), hg.trans hg2⟩

theorem pick_ok (w : World) (b : Nat) (K n : Int) (h : CurOk w b K) (hK : K ≤ 1152921504606846900) (h1 : 1 < n) :
    Calls Try.prog 59 #[.pointer (some ⟨b, 0, none⟩), .int .i64 n] w (Drawn b (K + 2) (fun r => 0 ≤ r ∧ r < n) w) := by
  rcases Int.lt_or_le 200 n with hl | hl
  · exact pick_high w b K n h hK hl
  · exact pick_low w b K n h hK h1 hl

def DrawnB (b : Nat) (K : Int) (w : World) (e : Ending) (w' : World) : Prop := ∃ y : Bool, e = .returned (.bool y) ∧ CurOk w' b K ∧ GrownBut b w w'
theorem one_ok (w : World) (b : Nat) (K n : Int) (h : CurOk w b K) (hK : K ≤ 1152921504606846900) (h1 : 1 < n) :
    Calls Try.prog 60 #[.pointer (some ⟨b, 0, none⟩), .int .i64 n] w (DrawnB b (K + 2) w) := by
  go_enter Try.func60, Try.ntmps60
  go_wp2_with (go_at_call 59; refine (pick_ok _ b K n h hK h1).mono ?_; rintro e w1 ⟨x, rfl, hx, hC, hg⟩)
  go_ret
  exact ⟨_, rfl, hC, hg⟩

/-- A list of numbers lies in block l. -/
def Listed (w : World) (l : Nat) (zs : List Int) : Prop := ∀ i, i < zs.length → w.cell? ⟨l, i, none⟩ = some (.int .i64 (zs.getD i 0))


set_option maxHeartbeats 1000000 in
theorem wide_ok (w : World) (b : Nat) (K : Int) (h : CurOk w b K) (hK : K ≤ 1152921504606846900) :
    Calls Try.prog 65 #[.pointer (some ⟨b, 0, none⟩)] w (Drawn b (K + 8) (fun _ => True) w) := by
  go_enter Try.func65, Try.ntmps65
  go_wp2
  go_loopw [3, 4] (fun x y wr => ∃ (v : Int) (k : Nat), x = .int .i64 v ∧ y = .int .i64 k ∧ k ≤ 8 ∧ CurOk wr b (K + k) ∧ GrownBut b w wr) (fun _ y _ => 8 - (intOf y).toNat)
  case atStart => exact ⟨0, 0, rfl, rfl, by omega, h.le (by omega), GrownBut.refl _ _⟩
  case round =>
    obtain ⟨v, k, rfl, rfl, hk, hC, hg⟩ := hrel
    by_cases hlt : k < 8
    · go_wp2_with (go_at_call 63; refine (next_ok _ b (K + k) hC (by omega)).mono ?_; rintro e w1 ⟨x, rfl, hx, hC1, hg1⟩)
      exact ⟨⟨_, k + 1, rfl, by go_num, by omega, hC1.le (by omega), hg.trans hg1⟩, by simp [intOf]; omega⟩
    · go_wp2_with fail
      go_ret
      exact ⟨v, rfl, trivial, hC.le (by omega), hg⟩
end Go.Proofs.Ythbhoppmdcfgeaa
