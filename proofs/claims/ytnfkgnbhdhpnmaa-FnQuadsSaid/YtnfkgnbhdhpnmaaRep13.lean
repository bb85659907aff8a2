/-
  A list of one number over and over.
-/
import Derived.Test.YtnfkgnbhdhpnmaaClone13
import Derived.Test.YtnfkgnbhdhpnmaaMath
import Derived.Laws.Externs
import Derived.Laws.CopyRow
import Derived.Laws.IdiomCopy
import Derived.Laws.CopyOwn
import Derived.Deep.RegionHeld3
namespace Go.Proofs.Ytnfkgnbhdhpnmaa
open Go.ChangeShapes Go.WideShapes Go.ChangeAt Go.RowKit

set_option maxRecDepth 100000
set_option linter.unusedVariables false
theorem ret_two {k k' : IntKind} {a b c d : Int} (h : a = c) (h' : b = d) : Ending.returned (.tuple #[.int k a, .int k' b]) = .returned (.tuple #[.int k c, .int k' d]) := by rw [h, h']
set_option maxHeartbeats 400000 in
theorem mul64_any (a b : Int) (w : World) (ha : 0 ≤ a) (ha' : a < 18446744073709551616) (hb : 0 ≤ b) (hb' : b < 18446744073709551616) :
    Calls Try.prog 75 #[.int .u64 a, .int .u64 b] w fun e w' => e = .returned (.tuple #[.int .u64 (a*b/18446744073709551616), .int .u64 (a*b%18446744073709551616)]) ∧ w' = w := by
  go_enter Try.func75, Try.ntmps75
  go_wp2
  go_returns
  refine ⟨?_, rfl⟩
  obtain ⟨e, hp, hq, hr, hs⟩ := Plain.halves a b ha ha' hb hb'
  refine ret_two ?_ (by rw [IntKind.wrap_u64])
  simp only [Plain.and32 _ ha ha', Plain.and32 _ hb hb']
  rw [e]
  generalize a / 4294967296 * (b / 4294967296) = p at *
  generalize a / 4294967296 * (b % 4294967296) = q at *
  generalize a % 4294967296 * (b / 4294967296) = r at *
  generalize a % 4294967296 * (b % 4294967296) = s at *
  clear e ha ha' hb hb'
  simp only [IntKind.wrap_u64]
  rw [Plain.and32 _ (by omega) (by omega)]
  omega
theorem bitsMul (b : Int) (w : World) (hb : 0 ≤ b) (hb' : b ≤ 1048576) :
    Calls Try.prog 72 #[.int .u64 1, .int .u64 b] w fun e w' => e = .returned (.tuple #[.int .u64 0, .int .u64 b]) ∧ w' = w := by
  have e1 : 1 * b / 18446744073709551616 = 0 := by omega
  have e2 : 1 * b % 18446744073709551616 = b := by omega
  go_enter Try.func72, Try.ntmps72
  go_wp2_with (go_at_call 75; refine (mul64_any _ _ _ (by omega) (by omega) (by omega) (by omega)).mono ?_; rintro e w' ⟨rfl, rfl⟩; rw [e1, e2])
  go_returns
  exact ⟨ret_two rfl rfl, rfl⟩
theorem setRow_but (w : World) (g : Nat) (c : Array Value) : But g (g + 1) w (w.setRow g c) :=
  ⟨rfl, rfl, by simp, fun b _ hb => setRow_other w g b _ (by omega)⟩
/-- copy of elements of k cells. -/
theorem run_copy_big {P : Program} (w : World) (dT sT ty elem : TypeId) (k g o dLen dCap : Nat) (a : Addr) (sLen sCap : Nat) (cur : Array Value) (t : TypeId) (cs : List Value)
    (hu : P.underlying dT = some (.slice elem)) (hs : (P.info? elem).map (·.size) = some k)
    (hg : w.heap[g]? = some (.cells cur t (0, 0))) (hn : cs.length = Nat.min sLen dLen * k)
    (hsrc : ∀ j v, cs[j]? = some v → w.cell? (a.add j) = some v) (hfit : o + cs.length ≤ cur.size) (h1 : ∀ v ∈ cs, v.oneCell' = true) :
    (Builtin.copy_ #[dT, sT] ty #[.slice (some ⟨g, o, none⟩) dLen dCap, .slice (some a) sLen sCap]).run P w =
      .ok (goInt (Nat.min sLen dLen)) (w.setRow g (cur.toList.take o ++ cs ++ cur.toList.drop (o + cs.length)).toArray) := by
  have hl := run_loadCells_list (P := P) w a cs hsrc
  have hst := run_storeCells_at P g o t cs 0 cur w hg (by simpa using hfit) h1
  cases hq : P.info? elem with
  | none => simp [hq] at hs
  | some i =>
    have hi : i.size = k := by simpa [hq] using hs
    simp [Builtin.copy_, run_underlying hu, Builtin.lenOf, Builtin.firstCells, sizeOf, typeInfo, hq, hi, ← hn, hl, hst]
theorem wpList_copy_at {P : Program} {w : World} {ops : Array Oper} {rest : List Oper} {o : Oper} {a : Act} {Q : Exit → Act → World → Prop} (hgd : o.guard = none) (d s : Operand) (dT sT : TypeId)
    (ho : o.op = .call { callee := .builtin .copy, args := #[d, s], argTypes := #[dT, sT] }) (v u : Value) (hd : a.eval d = v) (hs : a.eval s = u) {v' : Value} {w' : World}
    (hr : (Builtin.copy_ #[dT, sT] o.type #[v, u]).run P w = .ok v' w') (h : wpList P ops Q rest (a.put o.dst v') w') : wpList P ops Q (o :: rest) a w := by
  refine wpList_plain hgd fun K hK => ?_
  unfold Oper.wp
  simp [execOp, ho, resolve, invoke, builtin, hd, hs, hr, Result.andThen]
  exact hK _ _ h

theorem size_num : (Try.prog.info? 3).map (·.size) = some 1 := by kernel_rfl
theorem fm (l : List NumD) : l.flatMap numC = l.map (fun x => Value.int .i64 x) := by
  induction l with
  | nil => rfl
  | cons x l ih => simp only [List.flatMap_cons, List.map_cons, ih]; rfl
theorem num_block {w : World} {lo hi g cap n : Nat} {R : List NumD} (h : NumO w lo hi (.slice (some ⟨g, 0, none⟩) n cap) R) : ∃ cur : Array Value, w.heap[g]? = some (.cells cur 3 (0, 0)) ∧ cur.size = cap ∧ n ≤ cap ∧ n = R.length ∧ cur.toList.take n = R.map (fun x => Value.int .i64 x) := by
  rcases h.1.2 with ⟨hv, _⟩ | ⟨g', cap', cur', hv, hb, hg', hnc, hcm, hsz, htk⟩
  · cases hv
  · cases hv
    rw [Nat.mul_one] at hsz htk
    rw [fm] at htk
    exact ⟨cur', hg', hsz, hnc, rfl, htk⟩
/-- Numbers laid over a part of a row. -/
theorem num_laid {w : World} {lo hi g cap n : Nat} {R : List NumD} (o : Nat) (l : List NumD) {cur : Array Value} (h : NumO w lo hi (.slice (some ⟨g, 0, none⟩) n cap) R) (hg : w.heap[g]? = some (.cells cur 3 (0, 0))) (hl : o + l.length ≤ n) :
    NumO (w.setRow g (cur.toList.take o ++ l.flatMap numC ++ cur.toList.drop (o + (l.flatMap numC).length)).toArray) lo hi (.slice (some ⟨g, 0, none⟩) n cap) (R.take o ++ l ++ R.drop (o + l.length)) := by
  rcases h.1.2 with ⟨hv, _⟩ | ⟨g', cap', cur', hv, hb, hg', hnc, hcm, hsz, htk⟩
  · cases hv
  · cases hv
    rw [hg] at hg'
    cases hg'
    rw [Nat.mul_one] at hsz htk
    rw [fm] at htk
    have hRl : (R.take o ++ l ++ R.drop (o + l.length)).length = R.length := by simp; omega
    have hfl : (l.flatMap numC).length = l.length := by rw [fm]; simp
    unfold NumO
    rw [hRl]
    refine ⟨⟨by rw [fm, List.length_map, hRl, Nat.mul_one], .inr ⟨g, cap, _, rfl, hb, setRow_heap w g cur _ 3 _ hg, hnc, hcm, ?_, ?_⟩⟩, h.2⟩
    · rw [hfl]
      simp only [List.size_toArray, List.length_append, List.length_drop, List.length_take, Array.length_toList, hfl]
      omega
    · rw [hfl, fm, fm, Nat.mul_one]
      have e1 : (cur.toList.take o).length = o := by simp; omega
      have e2 : (cur.toList.take o ++ l.map (fun x => Value.int .i64 x)).length = o + l.length := by rw [List.length_append, e1, List.length_map]
      show List.take R.length (cur.toList.take o ++ l.map (fun x => Value.int .i64 x) ++ cur.toList.drop (o + l.length)) = _
      rw [List.take_append, List.take_of_length_le (by rw [e2]; omega), e2, List.map_append, List.map_append, List.map_take, List.map_drop, ← htk, List.take_take, Nat.min_eq_left (by omega), List.take_drop, show o + l.length + (R.length - (o + l.length)) = R.length by omega]
def repL (N n : Nat) : List Int := List.replicate n (-1) ++ List.replicate (N - n) 0
theorem repL_len {N n : Nat} (h : n ≤ N) : (repL N n).length = N := by simp [repL]; omega
theorem repL_step {N n c : Nat} (h : n + c ≤ N) : (repL N n).take n ++ List.replicate c (-1) ++ (repL N n).drop (n + (List.replicate c (-1 : Int)).length) = repL N (n + c) := by
  unfold repL
  rw [List.length_replicate, List.take_left' (by simp), List.drop_append, List.drop_of_length_le (by simp), List.nil_append, List.length_replicate, List.drop_replicate, List.replicate_append_replicate]
  congr 2
  omega
theorem repL_get {N n j : Nat} (h : j < n) : (repL N n)[j]? = some (-1) := by
  unfold repL
  rw [List.getElem?_append_left (by simpa using h)]
  simp [h]
set_option maxHeartbeats 4000000 in
theorem irepeat (N : Nat) (g0 : Nat) (w : World) (hc : w.cell? ⟨g0, 0, none⟩ = some (.int .i64 (-1))) (hN : 0 < N) (hN2 : N ≤ 1048576) :
    Calls Try.prog 67 #[.slice (some ⟨g0, 0, none⟩) 1 1, .int .i64 (N : Int)] w fun e w' => ∃ v', e = .returned v' ∧ NumO w' w.heap.size w'.heap.size v' (List.replicate N (-1)) ∧ Kept w w' := by
  obtain ⟨i0, hi, hz0, hz1, hz2⟩ := info_parts info_num
  have hmk : (Instr.makeSlice 23 (.int .i64 (N : Int)) (.int .i64 (N : Int))).run Try.prog w = .ok (.slice (some ⟨w.heap.size, 0, none⟩) N N) (w.alloc (.cells (madeCells #[.int .i64 0] (N * 1)) 3)) := by
    have := run_make (P := Try.prog) w 23 3 i0 _ Try.underlying23 hi hz0 .i64 .i64 (N : Int) (N : Int) (by omega) (by omega) (by rw [hz2]; omega) (by omega)
    rw [this, hz1]
    simp [Value.cells]
  have hm := row_made w w.heap.size 3 #[.int .i64 0] 1 (by omega) numC num0 numC_len rfl N (Nat.le_refl _) (by unfold maxLen; omega)
  have d1 : decide ((N : Int) < 0) = false := by simp
  have d2 : decide ((9223372036854775807 : Int) < (N : Int)) = false := by simp; omega
  go_enter Try.func67, Try.ntmps67
  have hm0 : NumO (w.alloc (.cells (madeCells #[.int .i64 0] (N * 1)) 3)) w.heap.size (w.heap.size + 1) (.slice (some ⟨w.heap.size, 0, none⟩) N N) (repL N 0) := by
    have : repL N 0 = List.replicate N num0 := rfl
    rw [this]
    unfold NumO
    rw [List.length_replicate]
    exact hm
  rw [Nat.mul_one] at hm0 hmk
  obtain ⟨cur, hcur, hcs, -, -, -⟩ := num_block hm0
  have gl := cell_ltG hc
  have hcz : (w.alloc (.cells (madeCells #[.int .i64 0] N) 3)).cell? ⟨g0, 0, none⟩ = some (.int .i64 (-1)) := Kept.cell ((But.refl _ _ w).alloc _) hc
  have hmin : Nat.min 1 N = 1 := Nat.min_eq_left hN
  have hL1 := num_laid 0 [-1] hm0 hcur (by simp; omega)
  have hrep : (repL N 0).take 0 ++ [-1] ++ (repL N 0).drop (0 + [(-1 : Int)].length) = repL N 1 := repL_step (N := N) (n := 0) (c := 1) (by omega)
  rw [hrep] at hL1
  have HM0 : Hid (NumO (w.alloc (.cells (madeCells #[.int .i64 0] N) 3)) w.heap.size (w.heap.size + 1) (.slice (some ⟨w.heap.size, 0, none⟩) N N) (repL N 0)) := hm0
  have HCUR : Hid (_ ∧ _) := And.intro hcur hcs
  have HMIN : Hid (Nat.min 1 N = 1) := hmin
  have HCZ : Hid (_ = _) := hcz
  have hcp : (Builtin.copy_ #[23, 23] 3 #[.slice (some ⟨w.heap.size, 0, none⟩) N N, .slice (some ⟨g0, 0, none⟩) 1 1]).run Try.prog (w.alloc (.cells (madeCells #[.int .i64 0] N) 3)) = .ok (.int .i64 1) _ :=
    (run_copy_big _ 23 23 3 3 1 w.heap.size 0 N N ⟨g0, 0, none⟩ 1 1 cur 3 ([(-1 : Int)].flatMap numC) Try.underlying23 size_num hcur (by rw [hmin]; rfl) (fun j v hj => by obtain rfl : j = 0 := (by rcases j with _ | j; rfl; simp [numC] at hj); simp [numC] at hj; subst hj; exact hcz) (by rw [hcs]; simp [numC]; omega) (by simp [numC, Value.oneCell'])).trans (by rw [hmin]; rfl)
  obtain ⟨W, hW⟩ : ∃ W, W = (w.alloc (.cells (madeCells #[.int .i64 0] N) 3)).setRow w.heap.size (cur.toList.take 0 ++ [(-1 : Int)].flatMap numC ++ cur.toList.drop (0 + ([(-1 : Int)].flatMap numC).length)).toArray := ⟨_, rfl⟩
  rw [← hW] at hcp hL1
  have KW0 : Kept w W := by rw [hW]; exact (((But.refl _ _ w).alloc _).onto (setRow_but _ _ _) (Nat.le_refl _))
  clear hW
  have HL1 : Hid (NumO W w.heap.size (w.heap.size + 1) (.slice (some ⟨w.heap.size, 0, none⟩) N N) (repL N 1)) := hL1
  clear hm hm0 hL1 hi hz0 hz1 hz2 hrep hcur hcs hmin hcz HCUR HMIN HCZ HM0
  repeat (first
    | (go_at_call 72; refine (bitsMul _ _ (by omega) (by omega)).mono ?_; rintro e w1 ⟨rfl, hw1⟩; rw [hw1]; clear hw1 w1; (try dsimp only))
    | go_values | go_skip | go_guarded | go_step | go_upon)

  clear hmk hcp d1 d2 hc gl
  go_loopw [8] (fun i wr => ∃ k : Nat, 1 ≤ k ∧ k ≤ N ∧ i = .int .i64 k ∧ Hid (NumO wr w.heap.size (w.heap.size + 1) (.slice (some ⟨w.heap.size, 0, none⟩) N N) (repL N k)) ∧ Hid (Kept w wr)) (fun i _ => N - (intOf i).toNat)
  case atStart => exact ⟨1, by omega, hN, rfl, HL1, KW0⟩
  case round =>
    obtain ⟨k, hk1, hk, rfl, HO, HK⟩ := hrel
    clear HL1 KW0
    by_cases hlt : k < N
    · have dk : decide ((k : Int) < (N : Int)) = true := by simp; omega
      obtain ⟨cur2, hcur, hcs, -, -, hct⟩ := num_block HO.out
      obtain ⟨C, hC⟩ : ∃ C, C = Nat.min k (N - k) := ⟨_, rfl⟩
      have hC1 : 1 ≤ C ∧ C ≤ k ∧ k + C ≤ N := by
        have h1 : Nat.min k (N - k) ≤ k := Nat.min_le_left k (N - k)
        have h2 : Nat.min k (N - k) ≤ N - k := Nat.min_le_right k (N - k)
        have h3 : 1 ≤ Nat.min k (N - k) := Nat.le_min.2 ⟨hk1, by omega⟩
        rw [← hC] at h1 h2 h3
        exact ⟨h3, h1, by omega⟩
      have hdc : (wr.drew).heap[w.heap.size]? = some (.cells cur2 3 (0, 0)) := hcur
      have hOd := HO.out.kept ((But.refl _ _ wr).drew)
      have hL2 := num_laid k (List.replicate C (-1)) hOd hdc (by simp; omega)
      rw [repL_step hC1.2.2] at hL2
      have hcp : (Builtin.copy_ #[23, 23] 3 #[.slice (some ⟨w.heap.size, k, none⟩) (N - k) (N - k), .slice (some ⟨w.heap.size, 0, none⟩) k N]).run Try.prog wr.drew = .ok (.int .i64 (C : Int)) _ :=
        (run_copy_big _ 23 23 3 3 1 w.heap.size k (N - k) (N - k) ⟨w.heap.size, 0, none⟩ k N cur2 3 ((List.replicate C (-1 : Int)).flatMap numC) Try.underlying23 size_num hdc (by rw [fm, ← hC]; simp) (fun j v hj => by
          rw [fm] at hj
          have hj2 : j < C := by have := (List.getElem?_eq_some_iff.1 hj).1; simpa using this
          have hv : v = .int .i64 (-1) := by simp [hj2] at hj; exact hj.symm
          subst hv
          rw [Go.WideShapes.add_plain, Nat.zero_add]
          exact (hOd.cells (repL_get (N := N) (n := k) (j := j) (by omega))).1) (by rw [fm, hcs]; simp; omega) (ones _)).trans (by rw [← hC]; rfl)
      obtain ⟨W2, hW2⟩ : ∃ W, W = (wr.drew).setRow w.heap.size (cur2.toList.take k ++ (List.replicate C (-1 : Int)).flatMap numC ++ cur2.toList.drop (k + ((List.replicate C (-1 : Int)).flatMap numC).length)).toArray := ⟨_, rfl⟩
      rw [← hW2] at hcp hL2
      have HK2 : Hid (Kept w W2) := by show Kept w W2; rw [hW2]; exact (HK.out.drew).onto (setRow_but _ _ _) (Nat.le_refl _)
      have HL2 : Hid (NumO W2 w.heap.size (w.heap.size + 1) (.slice (some ⟨w.heap.size, 0, none⟩) N N) (repL N (k + C))) := hL2
      have HC1 : Hid _ := hC1
      have hkc : (k : Int) + C ≤ N := by omega
      clear hW2 hL2 hOd hdc hcur hcs hct hC hC1
      repeat (first | go_values | go_skip | go_guarded | go_step | go_upon)
      go_region_held3 (fun w' => True) (simp [go_sem, *]) (fail)
      all_goals
        have hwr : IntKind.i64.wrap ((k : Int) + (C : Int)) = ((k + C : Nat) : Int) := by rw [IntWalk.i64_in ((k : Int) + (C : Int)) (by omega)]; omega
        rw [hwr]
        obtain ⟨c1, c2, c3⟩ := HC1.out
        repeat (first | go_values | go_skip | go_guarded | go_step | go_upon)
        exact ⟨⟨k + C, by omega, c3, rfl, HL2, HK2⟩, by simp [intOf]; omega⟩
    · have hke : k = N := by omega
      subst hke
      repeat (first | go_values | go_skip | go_guarded | go_step | go_upon)
      go_ret
      have h := HO.out
      have h2 := own_lt h.1 (g := w.heap.size) rfl
      refine ⟨_, rfl, ?_, HK.out⟩
      have hr : repL k k = List.replicate k (-1) := by simp [repL]
      rw [hr] at h
      exact NumO.mono h (Nat.le_refl _) h2.2

end Go.Proofs.Ytnfkgnbhdhpnmaa
