/-
  What the cursor that reads drawn choices answers (next, pick, one, among): a number in its range; it writes into its own block alone.
-/
import Derived.Test.YtipgffikmnebnaaText
import Derived.Test.YtipgffikmnebnaaQuiet
import Derived.Laws.Bits64
import Derived.Deep.QuietTactic
import Derived.BigQuiet
import Derived.WalkKit
import Derived.ProofKit
import Derived.OpenShut
import Derived.SizedLaws
namespace Go.Proofs.Ytipgffikmnebnaa
open Go.ChangeShapes Go.WideShapes Go.ChangeAt Go.RowKit

/-- The cursor lies in block b; its bytes lie elsewhere. -/
structure Cur (w : World) (b : Nat) (ao : Option Addr) (len cap : Nat) (p : Int) (seed : Int) : Prop where
  loc : Loc w b [.slice ao len cap, .int .i64 p, .int .u64 seed]
  p0 : 0 ≤ p
  s0 : 0 ≤ seed
  s1 : seed < 18446744073709551616
  ln : len ≤ 9223372036854775807
  by8 : ∀ i, i < len → ∃ ab off c, ao = some ⟨ab, off, none⟩ ∧ ab < b ∧ w.cell? ⟨ab, off + i, none⟩ = some (.int .u8 c) ∧ 0 ≤ c ∧ c ≤ 255

theorem Cur.step {w w' : World} {b : Nat} {ao : Option Addr} {len cap : Nat} {p p' seed seed' : Int} (h : Cur w b ao len cap p seed) (g : But b (b + 1) w w')
    (k : Loc w' b [.slice ao len cap, .int .i64 p', .int .u64 seed']) (hp : 0 ≤ p') (hs : 0 ≤ seed') (hs' : seed' < 18446744073709551616) :
    Cur w' b ao len cap p' seed' :=
  ⟨k, hp, hs, hs', h.ln, fun i hi => by
    obtain ⟨ab, off, c, e, hb, hc, b0, b1⟩ := h.by8 i hi
    exact ⟨ab, off, c, e, hb, g.cell hc (by show ab < b ∨ b + 1 ≤ ab; omega), b0, b1⟩⟩
theorem Cur.kept {w w' : World} {b : Nat} {ao : Option Addr} {len cap : Nat} {p seed : Int} (h : Cur w b ao len cap p seed) (g : Kept w w') : Cur w' b ao len cap p seed :=
  h.step (But.of g) (h.loc.kept g) h.p0 h.s0 h.s1

theorem Cur.but {w w' : World} {b lo hi : Nat} {ao : Option Addr} {len cap : Nat} {p seed : Int} (h : Cur w b ao len cap p seed) (g : But lo hi w w') (hb : b < lo) : Cur w' b ao len cap p seed :=
  ⟨h.loc.but g (.inl hb), h.p0, h.s0, h.s1, h.ln, fun i hi => by
    obtain ⟨ab, off, c, e, hl, hc, b0, b1⟩ := h.by8 i hi
    exact ⟨ab, off, c, e, hl, g.cell hc (.inl (by show ab < lo; omega)), b0, b1⟩⟩

theorem wrap_lo (n : Int) : 0 ≤ IntKind.u64.wrap n := by rw [IntKind.wrap_u64]; omega
theorem wrap_hi (n : Int) : IntKind.u64.wrap n < 18446744073709551616 := by rw [IntKind.wrap_u64]; omega
set_option maxHeartbeats 1000000 in
theorem next_in (w : World) (b ab off len cap k : Nat) (c seed : Int) (h : Cur w b (some ⟨ab, off, none⟩) len cap k seed) (hk : k < len) (hc : w.cell? ⟨ab, off + k, none⟩ = some (.int .u8 c)) (hc0 : 0 ≤ c) (hc1 : c ≤ 255) :
    Calls Try.prog 109 #[.pointer (some ⟨b, 0, none⟩)] w fun e w' => ∃ n s', e = .returned (.int .i64 n) ∧ (0 ≤ n ∧ n ≤ 255) ∧ Cur w' b (some ⟨ab, off, none⟩) len cap (k + 1) s' ∧ But b (b + 1) w w' := by
  have c0 := h.loc.cell 0 rfl
  have c1 := h.loc.cell 1 rfl
  have c2 := h.loc.cell 2 rfl
  have f1 := h.loc.frozen 1
  have f2 := h.loc.frozen 2
  have ln := h.ln
  have s0 := h.s0
  have s1 := h.s1
  go_enter Try.func109, Try.ntmps109
  go_wp2
  go_quiet (fail)
  go_wp2
  go_quiet (fail)
  go_wp2
  go_quiet (fail)
  go_wp2
  go_ret
  exact ⟨c, IntKind.u64.wrap (IntKind.u64.wrap (IntKind.u64.wrap (seed * 6364136223846793005) + c) + 1442695040888963407), rfl, ⟨hc0, hc1⟩, h.step (by repeat (first | exact But.refl _ _ _ | refine But.drewN ?_ _ | refine But.setCell (p := ⟨b, 1, none⟩) ?_ (Nat.le_refl b) (Nat.lt_succ_self b) _ | refine But.setCell (p := ⟨b, 2, none⟩) ?_ (Nat.le_refl b) (Nat.lt_succ_self b) _)) ((h.loc.set 1 _).set 2 _) (by omega) (wrap_lo _) (wrap_hi _), (by repeat (first | exact But.refl _ _ _ | refine But.drewN ?_ _ | refine But.setCell (p := ⟨b, 1, none⟩) ?_ (Nat.le_refl b) (Nat.lt_succ_self b) _ | refine But.setCell (p := ⟨b, 2, none⟩) ?_ (Nat.le_refl b) (Nat.lt_succ_self b) _))⟩

theorem and255 (a : Int) (h0 : 0 ≤ a) (h : a < 18446744073709551616) : bits .and .u64 a 255 = a % 256 := by
  obtain ⟨n, rfl⟩ := Int.eq_ofNat_of_zero_le h0
  have hn : n < 18446744073709551616 := by omega
  have h1 : (BitVec.ofInt 64 (n : Int)).toNat = n := by
    rw [BitVec.ofInt_natCast, BitVec.toNat_ofNat]; exact Nat.mod_eq_of_lt (by omega)
  have h2 : (BitVec.ofInt 64 ((255 : Nat) : Int)).toNat = 255 := by decide
  show IntKind.u64.wrap ((BitVec.ofInt 64 (n : Int) &&& BitVec.ofInt 64 ((255 : Nat) : Int)).toNat : Int) = _
  have e2 : n &&& 255 = n % 256 := Nat.and_two_pow_sub_one_eq_mod n 8
  rw [BitVec.toNat_and, h1, h2, IntKind.wrap_u64, e2]
  omega

set_option maxHeartbeats 1000000 in
theorem next_out (w : World) (b : Nat) (ao : Option Addr) (len cap : Nat) (p seed : Int) (h : Cur w b ao len cap p seed) (hk : len ≤ p) (hp : p ≤ 4611686018427387904) :
    Calls Try.prog 109 #[.pointer (some ⟨b, 0, none⟩)] w fun e w' => ∃ n s', e = .returned (.int .i64 n) ∧ (0 ≤ n ∧ n ≤ 255) ∧ Cur w' b ao len cap (p + 1) s' ∧ But b (b + 1) w w' := by
  have c0 := h.loc.cell 0 rfl
  have c1 := h.loc.cell 1 rfl
  have c2 := h.loc.cell 2 rfl
  have f1 := h.loc.frozen 1
  have f2 := h.loc.frozen 2
  have ln := h.ln
  have s0 := h.s0
  have s1 := h.s1
  have p0 := h.p0
  have d1 : decide (p < (len : Int)) = false := by simp; omega
  have d2 : decide (p + 1 ≤ (len : Int)) = false := by simp; omega
  go_enter Try.func109, Try.ntmps109
  go_wp2
  go_quiet (fail)
  go_wp2
  go_quiet (fail)
  go_wp2
  go_ret
  have r0 := wrap_lo (IntKind.u64.wrap (IntKind.u64.wrap (seed * 6364136223846793005)) + 1442695040888963407)
  have r1 := wrap_hi (IntKind.u64.wrap (IntKind.u64.wrap (seed * 6364136223846793005)) + 1442695040888963407)
  refine ⟨_, IntKind.u64.wrap (IntKind.u64.wrap (IntKind.u64.wrap (seed * 6364136223846793005)) + 1442695040888963407), rfl, ?_, h.step (by repeat (first | exact But.refl _ _ _ | refine But.drewN ?_ _ | refine But.setCell (p := ⟨b, 1, none⟩) ?_ (Nat.le_refl b) (Nat.lt_succ_self b) _ | refine But.setCell (p := ⟨b, 2, none⟩) ?_ (Nat.le_refl b) (Nat.lt_succ_self b) _)) ((h.loc.set 1 _).set 2 _) (by omega) r0 r1, (by repeat (first | exact But.refl _ _ _ | refine But.drewN ?_ _ | refine But.setCell (p := ⟨b, 1, none⟩) ?_ (Nat.le_refl b) (Nat.lt_succ_self b) _ | refine But.setCell (p := ⟨b, 2, none⟩) ?_ (Nat.le_refl b) (Nat.lt_succ_self b) _))⟩
  rw [and255 _ (by omega) (by omega), IntWalk.wrap64_in _ (by omega)]
  omega

/-- The cursor lies in block b, and has read at most K choices. -/
def CurOk (w : World) (b : Nat) (K : Int) : Prop := ∃ ao len cap p seed, Cur w b ao len cap p seed ∧ p ≤ K
theorem CurOk.kept {w w' : World} {b : Nat} {K : Int} (h : CurOk w b K) (g : Kept w w') : CurOk w' b K := by
  obtain ⟨ao, len, cap, p, seed, h, hp⟩ := h
  exact ⟨ao, len, cap, p, seed, h.kept g, hp⟩
theorem CurOk.but {w w' : World} {b lo hi : Nat} {K : Int} (h : CurOk w b K) (g : But lo hi w w') (hb : b < lo) : CurOk w' b K := by
  obtain ⟨ao, len, cap, p, seed, h, hp⟩ := h
  exact ⟨ao, len, cap, p, seed, h.but g hb, hp⟩
theorem CurOk.set {w : World} {b T : Nat} {K : Int} (h : CurOk w b K) (hb : b < T) (j : Nat) (v : Value) : CurOk (w.setCell ⟨T, j, none⟩ v) b K :=
  h.but ((But.refl T (T + 1) w).setCell (p := ⟨T, j, none⟩) (Nat.le_refl T) (Nat.lt_succ_self T) v) hb
theorem CurOk.alloc {w : World} {b : Nat} {K : Int} (h : CurOk w b K) (o : Obj) : CurOk (w.alloc o) b K := h.kept ((But.refl _ _ w).alloc o)
theorem CurOk.le {w : World} {b : Nat} {K K' : Int} (h : CurOk w b K) (hk : K ≤ K') : CurOk w b K' := by
  obtain ⟨ao, len, cap, p, seed, h, hp⟩ := h
  exact ⟨ao, len, cap, p, seed, h, by omega⟩
theorem CurOk.lt {w : World} {b : Nat} {K : Int} (h : CurOk w b K) : b < w.heap.size := by
  obtain ⟨ao, len, cap, p, seed, h, hp⟩ := h
  exact h.loc.lt
theorem CurOk.k0 {w : World} {b : Nat} {K : Int} (h : CurOk w b K) : 0 ≤ K := by
  obtain ⟨ao, len, cap, p, seed, h, hp⟩ := h
  have := h.p0
  omega

/-- A number for which P holds is answered; the cursor has read at most K choices. -/
def Drawn (b : Nat) (K : Int) (P : Int → Prop) (w : World) (e : Ending) (w' : World) : Prop := ∃ n, e = .returned (.int .i64 n) ∧ P n ∧ CurOk w' b K ∧ But b (b + 1) w w'

theorem next_ok (w : World) (b : Nat) (K : Int) (h : CurOk w b K) (hK : K ≤ 1152921504606846976) :
    Calls Try.prog 109 #[.pointer (some ⟨b, 0, none⟩)] w (Drawn b (K + 1) (fun n => 0 ≤ n ∧ n ≤ 255) w) := by
  obtain ⟨ao, len, cap, p, seed, h, hp⟩ := h
  have p0 := h.p0
  rcases Int.lt_or_le p len with hl | hl
  · obtain ⟨k, rfl⟩ := Int.eq_ofNat_of_zero_le p0
    obtain ⟨ab, off, c, rfl, hb, hc, b0, b1⟩ := h.by8 k (by omega)
    refine (next_in w b ab off len cap k c seed h (by omega) hc b0 b1).mono ?_
    rintro e w' ⟨n, s', he, hn, hC, hg⟩
    exact ⟨n, he, hn, ⟨_, _, _, _, _, hC, by omega⟩, hg⟩
  · refine (next_out w b ao len cap p seed h hl (by omega)).mono ?_
    rintro e w' ⟨n, s', he, hn, hC, hg⟩
    exact ⟨n, he, hn, ⟨_, _, _, _, _, hC, by omega⟩, hg⟩

set_option maxHeartbeats 400000 in
theorem pick_low (w : World) (b : Nat) (K n : Int) (h : CurOk w b K) (hK : K ≤ 1152921504606846900) (h1 : 1 < n) (h2 : n ≤ 200) :
    Calls Try.prog 65 #[.pointer (some ⟨b, 0, none⟩), .int .i64 n] w (Drawn b (K + 2) (fun r => 0 ≤ r ∧ r < n) w) := by
  have d1 : decide (n ≤ 1) = false := by simp; omega
  have d2 : decide (200 < n) = false := by simp; omega
  go_enter Try.func65, Try.ntmps65
  go_wp2_with (go_at_call 109; refine (next_ok _ b K h (by omega)).mono ?_; rintro e w1 ⟨x, rfl, hx, hC, hg⟩)
  go_ret
  exact ⟨x % n, rfl, ⟨Int.emod_nonneg _ (by omega), Int.emod_lt_of_pos _ (by omega)⟩, hC.le (by omega), hg⟩

set_option maxHeartbeats 400000 in
theorem pick_high (w : World) (b : Nat) (K n : Int) (h : CurOk w b K) (hK : K ≤ 1152921504606846900) (h1 : 200 < n) :
    Calls Try.prog 65 #[.pointer (some ⟨b, 0, none⟩), .int .i64 n] w (Drawn b (K + 2) (fun r => 0 ≤ r ∧ r < n) w) := by
  have d1 : decide (n ≤ 1) = false := by simp; omega
  go_enter Try.func65, Try.ntmps65
  go_wp2_with fail
  refine (next_ok _ b K h (by omega)).mono ?_
  rintro e w1 ⟨x, rfl, hx, hC, hg⟩
  go_wp2_with fail
  refine (next_ok _ b (K + 1) hC (by omega)).mono ?_
  rintro e w2 ⟨y, rfl, hy, hC2, hg2⟩
  go_wp2_with fail
  go_ret
  exact ⟨(x * 256 + y) % n, rfl, ⟨Int.emod_nonneg _ (by omega), Int.emod_lt_of_pos _ (by omega)⟩, hC2.le (by omega), hg.trans hg2⟩

theorem pick_ok (w : World) (b : Nat) (K n : Int) (h : CurOk w b K) (hK : K ≤ 1152921504606846900) (h1 : 1 < n) :
    Calls Try.prog 65 #[.pointer (some ⟨b, 0, none⟩), .int .i64 n] w (Drawn b (K + 2) (fun r => 0 ≤ r ∧ r < n) w) := by
  rcases Int.lt_or_le 200 n with hl | hl
  · exact pick_high w b K n h hK hl
  · exact pick_low w b K n h hK h1 hl

def DrawnB (b : Nat) (K : Int) (w : World) (e : Ending) (w' : World) : Prop := ∃ y : Bool, e = .returned (.bool y) ∧ CurOk w' b K ∧ But b (b + 1) w w'
theorem one_ok (w : World) (b : Nat) (K n : Int) (h : CurOk w b K) (hK : K ≤ 1152921504606846900) (h1 : 1 < n) :
    Calls Try.prog 66 #[.pointer (some ⟨b, 0, none⟩), .int .i64 n] w (DrawnB b (K + 2) w) := by
  go_enter Try.func66, Try.ntmps66
  go_wp2_with (go_at_call 65; refine (pick_ok _ b K n h hK h1).mono ?_; rintro e w1 ⟨x, rfl, hx, hC, hg⟩)
  go_ret
  exact ⟨_, rfl, hC, hg⟩

/-- A list of numbers lies in block l. -/
def Listed (w : World) (l : Nat) (zs : List Int) : Prop := ∀ i, i < zs.length → w.cell? ⟨l, i, none⟩ = some (.int .i64 (zs.getD i 0))

set_option maxHeartbeats 400000 in
theorem among_ok (w : World) (b l : Nat) (K : Int) (zs : List Int) (h : CurOk w b K) (hK : K ≤ 1152921504606846900) (hl : l ≠ b) (hz : Listed w l zs) (h1 : 1 < zs.length) (h2 : zs.length ≤ 1000) (n : Nat) (hn : n = zs.length) :
    Calls Try.prog 67 #[.pointer (some ⟨b, 0, none⟩), .slice (some ⟨l, 0, none⟩) n n] w (Drawn b (K + 2) (fun z => z ∈ zs) w) := by
  have n1 : 1 < n := by omega
  have n2 : n ≤ 1000 := by omega
  have Hn : Hid (n = zs.length) := hn
  clear hn h1 h2
  go_enter Try.func67, Try.ntmps67
  go_wp2_with fail
  refine (pick_ok _ b K n h hK (by omega)).mono ?_
  rintro e w1 ⟨x, rfl, hx, hC, hg⟩
  obtain ⟨k, rfl⟩ := Int.eq_ofNat_of_zero_le hx.1
  have hk : k < n := by omega
  have ck := hg.cell (hz k (by have := Hn.out; omega)) (by show l < b ∨ b + 1 ≤ l; omega)
  have hm : Hid (zs.getD k 0 ∈ zs) := by
    have hk' : k < zs.length := by have := Hn.out; omega
    show zs.getD k 0 ∈ zs
    rw [List.getD_eq_getElem?_getD, List.getElem?_eq_getElem hk']
    exact List.getElem_mem hk'
  generalize zs.getD k 0 = z at *
  go_wp2
  go_ret
  exact ⟨z, rfl, hm.out, hC, hg⟩

/-- len bytes lie behind ao. -/
def Code (W : World) (ao : Option Addr) (len : Nat) : Prop := ∀ i, i < len → ∃ ab off c, ao = some ⟨ab, off, none⟩ ∧ W.cell? ⟨ab, off + i, none⟩ = some (.int .u8 c) ∧ 0 ≤ c ∧ c ≤ 255
theorem cellsByte : Try.prog.cellsOf 5 = 1 := by kernel_rfl
theorem u8_bd (c : Int) (h : (Lit.int .u8 c).wf = true) : 0 ≤ c ∧ c ≤ 255 := by
  have h' : IntKind.u8.min ≤ c ∧ c ≤ IntKind.u8.max := by simpa [Lit.wf] using h
  have e : IntKind.u8.min = 0 := by decide
  have e' : IntKind.u8.max = 255 := by decide
  rw [e, e'] at h'
  exact h'
set_option maxRecDepth 100000 in
theorem code_of {H : Type} {enc : TypeId × Value → H} {W : World} {base : Nat} {v0 : Value} {d0 : DataW H} {p0 : List MemPlace} (hval : Value.okWide Try.prog W .any base 22 v0)
    (h0 : DataW.Trod enc Try.prog W 0 (fun _ => true) true 22 v0 d0 p0) : ∃ ao len cap, v0 = .slice ao len cap ∧ len ≤ maxLen ∧ Code W ao len := by
  obtain ⟨ao, len, cap, rfl⟩ := okWide_slice Try.underlying22 hval
  obtain ⟨fuel, hf⟩ := h0
  refine ⟨ao, len, cap, rfl, ?_⟩
  rcases open_ints Try.underlying22 Try.underlying5 cellsByte hf with ⟨hcs, hx⟩ | ⟨a, len', cap', zs, hcs, _, hl, hm, hz, hx, hcell, hwz⟩
  · simp [Value.cells] at hcs
    obtain ⟨rfl, rfl, rfl⟩ := hcs
    exact ⟨by unfold maxLen; omega, fun i hi => by omega⟩
  · simp [Value.cells] at hcs
    obtain ⟨rfl, rfl, rfl⟩ := hcs
    simp only [if_true] at hz
    refine ⟨Nat.le_trans hl hm, fun i hi => ?_⟩
    have hi' : i < zs.length := by omega
    obtain ⟨ab, off, rfl, hat⟩ := ints_at hcell (by omega)
    refine ⟨ab, off, zs.getD i 0, rfl, hat i hi', ?_⟩
    refine u8_bd _ (hwz _ ?_)
    rw [List.getD_eq_getElem?_getD, List.getElem?_eq_getElem hi']
    exact List.getElem_mem hi'
theorem block_of_cell {w : World} {b o : Nat} {v : Value} (h : w.cell? ⟨b, o, none⟩ = some v) : b < w.heap.size := by
  rcases Nat.lt_or_ge b w.heap.size with hb | hb
  · exact hb
  · simp [World.cell?, Array.getElem?_eq_none hb] at h
theorem Code.cur {W : World} {ao : Option Addr} {len cap : Nat} {t : TypeId} (h : Code W ao len) (hl : len ≤ 9223372036854775807) : CurOk (W.alloc (.cells #[.slice ao len cap, .int .i64 0, .int .u64 0] t)) W.heap.size 0 := by
  refine ⟨ao, len, cap, 0, 0, ⟨Loc.new W _ t, by omega, by omega, by omega, hl, fun i hi => ?_⟩, by omega⟩
  obtain ⟨ab, off, c, e, hc, hb⟩ := h i hi
  have hs := block_of_cell hc
  exact ⟨ab, off, c, e, by omega, Kept.cell ((But.refl _ _ W).alloc _) hc, hb⟩
end Go.Proofs.Ytipgffikmnebnaa
