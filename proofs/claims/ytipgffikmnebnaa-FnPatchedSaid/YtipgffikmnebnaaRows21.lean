/-
  The drawing of rows of bytes.
-/
import Derived.Test.YtipgffikmnebnaaSame21
import Derived.Test.YtipgffikmnebnaaCur
import Derived.Test.YtipgffikmnebnaaApp21
import Derived.Lib.AppendStr
namespace Go.Proofs.Ytipgffikmnebnaa
open Go.ChangeShapes Go.WideShapes Go.ChangeAt Go.RowKit

set_option maxRecDepth 100000
set_option linter.unusedVariables false
set_option linter.unusedSimpArgs false

theorem nat_of (r : Int) (n : Nat) (h0 : 0 ≤ r) (h1 : r < n) : ∃ k : Nat, r = k ∧ k < n := ⟨r.toNat, by omega, by omega⟩
structure DrB (w wr : World) (b : Nat) (K : Int) (x : Value) (l : List UInt8) : Prop where
  cur : CurOk wr b K
  rx : BytO wr w.heap.size wr.heap.size x l
  but : But b (b + 1) w wr
  lo : b < w.heap.size
theorem DrB.sz {w wr : World} {b : Nat} {K : Int} {x : Value} {l : List UInt8} (h : DrB w wr b K x l) : w.heap.size ≤ wr.heap.size := h.but.size
theorem DrB.le {w wr : World} {b : Nat} {K K' : Int} {x : Value} {l : List UInt8} (h : DrB w wr b K x l) (hk : K ≤ K') : DrB w wr b K' x l := ⟨h.cur.le hk, h.rx, h.but, h.lo⟩
theorem DrB.draw {w wr w' : World} {b : Nat} {K K' : Int} {x : Value} {l : List UInt8} (h : DrB w wr b K x l) (g : But b (b + 1) wr w') (hC : CurOk w' b K') : DrB w w' b K' x l := by
  have := h.lo
  exact ⟨hC, (h.rx.but g (.inr (by omega))).low, h.but.trans g, h.lo⟩
theorem DrB.alloc {w wr : World} {b : Nat} {K : Int} {x : Value} {l : List UInt8} (h : DrB w wr b K x l) (o : Obj) : DrB w (wr.alloc o) b K x l :=
  ⟨h.cur.alloc o, (h.rx.kept ((But.refl _ _ wr).alloc o)).low, h.but.alloc o, h.lo⟩
theorem DrB.grew {w wr w' : World} {b hi : Nat} {K : Int} {x v' : Value} {l l' : List UInt8} (h : DrB w wr b K x l) (o1 : BytO w' w.heap.size w'.heap.size v' l') (b1 : But w.heap.size hi wr w') : DrB w w' b K v' l' :=
  ⟨h.cur.but b1 h.lo, o1, ⟨b1.os.trans h.but.os, b1.out.trans h.but.out, Nat.le_trans h.but.size b1.size, fun i hi' hb => (b1.block i (Nat.lt_of_lt_of_le hi' h.but.size) (.inl hi')).trans (h.but.block i hi' hb)⟩, h.lo⟩
set_option maxHeartbeats 1000000 in
theorem of_ok (w : World) (b l n : Nat) (K : Int) (B : Nat) (h : CurOk w b K) (hK : K ≤ 1152921504606840000) (hl : l ≠ b) (hn : 1 < n) (hn2 : n ≤ 100) (hz : ∀ i, i < n → ∃ s : ByteArray, w.cell? ⟨l, i, none⟩ = some (.string s) ∧ s.size ≤ B) :
    Calls Try.prog 69 #[.pointer (some ⟨b, 0, none⟩), .slice (some ⟨l, 0, none⟩) n n] w fun e w' => ∃ s : ByteArray, e = .returned (.string s) ∧ s.size ≤ B ∧ CurOk w' b (K + 2) ∧ But b (b + 1) w w' := by
  go_enter Try.func69, Try.ntmps69
  repeat (first | go_values | go_skip | go_guarded | go_step | go_upon)
  go_at_call 65
  refine (pick_ok _ b K n h (by omega) (by omega)).mono ?_
  rintro e w1 ⟨x, rfl, hx, hC, hg⟩
  dsimp only
  obtain ⟨k, rfl, hk⟩ := nat_of x n hx.1 hx.2
  obtain ⟨s, hc, hs⟩ := hz k hk
  have ck := hg.cell hc (by show l < b ∨ b + 1 ≤ l; omega)
  clear hz hc hx
  repeat (first | go_values | go_skip | go_guarded | go_step | go_upon)
  go_ret
  exact ⟨s, rfl, hs, hC, hg⟩
theorem tex_new (w : World) (xs : List ByteArray) (t : TypeId) : ∀ i, i < xs.length → (w.alloc (.cells (xs.map fun z => Value.string z).toArray t)).cell? ⟨w.heap.size, i, none⟩ = some (.string (xs.getD i ByteArray.empty)) := by
  intro i hi
  have h : (w.alloc (.cells (xs.map fun z => Value.string z).toArray t)).heap[w.heap.size]? = some (.cells (xs.map fun z => Value.string z).toArray t) := heap_alloc_new w _
  unfold World.cell?
  rw [h]
  show (xs.map fun z => Value.string z).toArray[i]? = _
  rw [List.getElem?_toArray, List.getElem?_map, List.getD_eq_getElem?_getD, List.getElem?_eq_getElem hi]
  rfl

def txL : List ByteArray := [⟨#[97, 98, 99, 100]⟩, ⟨#[97, 98, 99]⟩, ⟨#[120, 121, 122]⟩, ⟨#[113]⟩, ⟨#[104, 101, 108, 108, 111]⟩, ⟨#[0, 1]⟩]
theorem tex_at (w : World) : ∀ i, i < 6 → ∃ s : ByteArray, (w.alloc (.cells (txL.map fun z => Value.string z).toArray 9)).cell? ⟨w.heap.size, i, none⟩ = some (.string s) ∧ s.size ≤ 5 := fun i hi => ⟨_, tex_new w txL 9 i hi, (by decide : ∀ k, k < 6 → (txL.getD k ByteArray.empty).size ≤ 5) i hi⟩
theorem str_cells (s : ByteArray) : Go.Lib.strCells s = s.data.toList.flatMap bytC := by
  unfold Go.Lib.strCells
  induction s.data.toList with
  | nil => rfl
  | cons a t ih => rw [List.map_cons, List.flatMap_cons, ih]; rfl
/-- The letters of a text put behind bytes. -/
theorem apps_byt {w : World} {ops : Array Oper} {rest : List Oper} {o : Oper} {a : Act} {Q : Exit → Act → World → Prop} (hgd : o.guard = none) (s x : Operand)
    (ho : o.op = .call { callee := .builtin .append, args := #[s, x], argTypes := #[22, 9] }) {lo hi : Nat} {v : Value} {ps : List BytD} (hs : a.eval s = v) (hown : BytO w lo hi v ps)
    (t : ByteArray) (hx : a.eval x = .string t) (hb : ps.length + t.size ≤ 100000000) (hlo : lo ≤ w.heap.size)
    (h : ∀ v' w', BytO w' lo w'.heap.size v' (ps ++ t.data.toList) → But lo hi w w' → wpList Try.prog ops Q rest (a.put o.dst v') w') : wpList Try.prog ops Q (o :: rest) a w := by
  obtain ⟨i0, hi0, hz0, hz1, hz2⟩ := info_parts info_bytA
  refine Lib.wpList_append_own_string w hgd s x 22 9 ho lo 5 i0 Try.underlying22 Try.underlying9 hi0 hz0 hz1 hz2 v ps.length (ps.flatMap bytC) hs hown.1 t hx (by unfold maxLen; omega) (by omega) hlo ?_
  intro v' w' h1 h2 _
  refine h v' w' ?_ ((But.refl _ _ w).grown h2 (fun g hg => .inr ⟨(own_lt hown.1 hg).1, hown.2 g hg⟩))
  unfold BytO
  rw [List.length_append, List.flatMap_append, ← str_cells]
  exact RowO.top (by simpa using h1)
set_option maxHeartbeats 8000000 in
theorem rows_ok (w : World) (b : Nat) (K : Int) (h : CurOk w b K) (hK : K ≤ 1152921504606830000) :
    Calls Try.prog 76 #[.pointer (some ⟨b, 0, none⟩)] w fun e w' => ∃ (l : List UInt8) (v : Value), e = .returned v ∧ l.length ≤ 500 ∧ BytO w' w.heap.size w'.heap.size v l ∧ CurOk w' b (K + 60) ∧ But b (b + 1) w w' := by
  have hb := h.lt
  go_enter Try.func76, Try.ntmps76
  repeat (first | go_values | go_skip | go_guarded | go_step | go_upon)
  go_at_call 65
  refine (pick_ok _ b K 12 h (by omega) (by omega)).mono ?_
  rintro e w1 ⟨n, rfl, hn, hC, hg⟩
  dsimp only
  obtain ⟨N, rfl, hN⟩ := nat_of n 12 hn.1 hn.2
  clear hn
  have HDD : Hid (DrB w w1 b (K + 2) (.slice none 0 0) []) := ⟨hC, nil_byt _ _ _, hg, hb⟩
  clear hC hg
  repeat (first | go_values | go_skip | go_guarded | go_step | go_upon)
  go_loopw [3, 4] (fun x y wr => ∃ (m : Nat) (l : List UInt8), y = .int .i64 m ∧ m ≤ 12 ∧ l.length + 5 * m ≤ 60 ∧ DrB w wr b (K + 10 + 2 * (12 - (m : Int))) x l) (fun x y _ => (intOf y).toNat)
  case atStart => exact ⟨N, [], rfl, by omega, by simp; omega, HDD.out.le (by omega)⟩
  case round =>
    obtain ⟨m, l, rfl, hm, hla, hD⟩ := hrel
    obtain ⟨aoa, ca, hfa⟩ := hD.rx.form
    subst hfa
    by_cases hpos : 0 < m
    · have dp : decide ((0 : Int) < (m : Int)) = true := by simp; omega
      have dp2 : decide (0 < m) = true := by simp; omega
      obtain ⟨m', hm'⟩ : ∃ m', m = m' + 1 := ⟨m - 1, by omega⟩
      have hw1 : IntKind.i64.wrap ((m : Int) - 1) = (m' : Int) := by rw [IntWalk.i64_in _ (by omega)]; omega
      have hw2 : (m : Int) - 1 = (m' : Int) := by omega
      have HM' : Hid (m = m' + 1) := hm'
      obtain ⟨KK, hKK⟩ : ∃ KK : Int, KK = K + 10 + 2 * (12 - (m : Int)) := ⟨_, rfl⟩
      rw [← hKK] at hD
      have HKK : Hid (KK = K + 10 + 2 * (12 - (m : Int))) := hKK
      have hKb : KK ≤ K + 40 := by omega
      have HD1 : Hid (DrB w (wr.alloc (.cells (txL.map fun z => Value.string z).toArray 9)) b KK (.slice aoa l.length ca) l) := hD.alloc _
      have HT : Hid (∀ i, i < 6 → ∃ s : ByteArray, (wr.alloc (.cells (txL.map fun z => Value.string z).toArray 9)).cell? ⟨wr.heap.size, i, none⟩ = some (.string s) ∧ s.size ≤ 5) := tex_at wr
      have hne : wr.heap.size ≠ b := by have := hD.cur.lt; omega
      clear hm' hpos hD hKK
      repeat (first | go_values | go_skip | go_guarded | go_step | go_upon)
      go_at_call 69
      refine (of_ok _ b wr.heap.size 6 KK 5 HD1.out.cur (by omega) hne (by omega) (by omega) HT.out).mono ?_
      rintro e w2 ⟨t, rfl, ht, hC2, hg2⟩
      dsimp only
      have HD2 : Hid (DrB w w2 b (KK + 2) (.slice aoa l.length ca) l) := HD1.out.draw hg2 hC2
      clear hC2 hg2 HD1 HT
      repeat (first | (at_builtin; refine forgetL (fun w' => w' = _) rfl ?_) | go_values | go_skip | go_guarded | go_step | go_upon)
      intro W7 hW7
      rw [hW7]
      clear hW7 W7
      refine apps_byt rfl _ _ rfl rfl HD2.out.rx t rfl (by omega) HD2.out.sz ?_
      intro v9 w9 o9 b9
      have h9 := HD2.out.grew o9 b9
      obtain ⟨a9, c9, hf9⟩ := o9.form
      subst hf9
      have HD9 : Hid (DrB w w9 b (KK + 2) (.slice a9 (l ++ t.data.toList).length c9) (l ++ t.data.toList)) := h9
      have htl : (l ++ t.data.toList).length = l.length + t.size := by simp
      generalize l ++ t.data.toList = l9 at *
      clear o9 b9 h9 HD2
      repeat (first | go_values | go_skip | go_guarded | go_step | go_upon)
      have hmm := HM'.out
      have hkk := HKK.out
      exact ⟨⟨m', l9, by go_num, by omega, by omega, by have h := HD9.out.le (K' := K + 10 + 2 * (12 - (m' : Int))) (by omega); first | exact h | (rw [htl] at h; exact h)⟩, by simp [intOf]; omega⟩
    · have dp : decide ((0 : Int) < (m : Int)) = false := by simp; omega
      have dp2 : decide (0 < m) = false := by simp; omega
      have hm0 : m = 0 := by omega
      subst hm0
      have HD1 : Hid (DrB w wr b (K + 40) (.slice aoa l.length ca) l) := hD.le (by omega)
      clear hD
      repeat (first | go_values | go_skip | go_guarded | go_step | go_upon)
      go_at_call 66
      refine (one_ok _ b (K + 40) 30 HD1.out.cur (by omega) (by omega)).mono ?_
      rintro e w5 ⟨yes, rfl, hC5, hg5⟩
      dsimp only
      have HD5 : Hid (DrB w w5 b (K + 40 + 2) (.slice aoa l.length ca) l) := HD1.out.draw hg5 hC5
      clear HD1 hC5 hg5
      cases yes
      · repeat (first | go_values | go_skip | go_guarded | go_step | go_upon)
        go_ret
        exact ⟨l, _, rfl, by omega, HD5.out.rx, HD5.out.cur.le (by omega), HD5.out.but⟩
      · repeat (first | go_values | go_skip | go_guarded | go_step | go_upon)
        go_at_call 65
        refine (pick_ok _ b (K + 42) 2 (HD5.out.cur.le (by omega)) (by omega) (by omega)).mono ?_
        rintro e w6 ⟨z, rfl, hz, hC6, hg6⟩
        dsimp only
        obtain ⟨Z, rfl, hZ⟩ := nat_of z 2 hz.1 hz.2
        obtain ⟨M, hM⟩ : ∃ M, 400 + Z = M := ⟨_, rfl⟩
        have hM1 : M ≤ 401 := by omega
        have hs1 : IntKind.i64.wrap (400 + (Z : Int)) = (M : Int) := by rw [IntWalk.i64_in _ (by omega)]; omega
        have hs2 : (400 : Int) + (Z : Int) = (M : Int) := by omega
        have HD6 : Hid (DrB w w6 b (K + 42 + 2) (.slice aoa l.length ca) l) := HD5.out.draw hg6 hC6
        have h7 := HD6.out.alloc (.cells (madeCells #[.int .u8 0] (M * 1)) 5)
        have hz6 := HD6.out.sz
        have hmk : (Instr.makeSlice 22 (.int .i64 (M : Int)) (.int .i64 (M : Int))).run Try.prog w6 = .ok (.slice (some ⟨w6.heap.size, 0, none⟩) M M) (w6.alloc (.cells (madeCells #[.int .u8 0] (M * 1)) 5)) := by
          obtain ⟨i0, hi, hz0, hz1, hz2⟩ := info_parts info_bytA
          have := run_make (P := Try.prog) w6 22 5 i0 _ Try.underlying22 hi hz0 .i64 .i64 (M : Int) (M : Int) (by omega) (by omega) (by rw [hz2]; omega) (by omega)
          rw [this, hz1]
          simp [Value.cells]
        have hO : BytO (w6.alloc (.cells (madeCells #[.int .u8 0] (M * 1)) 5)) w.heap.size (w6.alloc (.cells (madeCells #[.int .u8 0] (M * 1)) 5)).heap.size (.slice (some ⟨w6.heap.size, 0, none⟩) (List.replicate M (0 : UInt8)).length M) (List.replicate M (0 : UInt8)) := by
          have hm := row_made w6 w.heap.size 5 #[.int .u8 0] 1 (by omega) bytC (0 : UInt8) bytC_len rfl M hz6 (by unfold maxLen; omega)
          simpa [BytO] using hm
        have HO : Hid _ := hO
        have H7 : Hid (DrB w (w6.alloc (.cells (madeCells #[.int .u8 0] (M * 1)) 5)) b (K + 42 + 2) (.slice aoa l.length ca) l) := h7
        clear hC6 hg6 HD6 HD5 h7 hM hz hO
        repeat (first | go_values | go_skip | go_guarded | go_step | go_upon)
        go_ret
        have ho := HO.out
        have hc7 := H7.out.cur
        have hb7 := H7.out.but
        simp only [Nat.mul_one, List.length_replicate] at ho hc7 hb7
        exact ⟨List.replicate M 0, .slice (some ⟨w6.heap.size, 0, none⟩) M M, rfl, by rw [List.length_replicate]; omega, (by unfold BytO; rw [List.length_replicate]; exact ho), hc7.le (by omega), hb7⟩

end Go.Proofs.Ytipgffikmnebnaa
