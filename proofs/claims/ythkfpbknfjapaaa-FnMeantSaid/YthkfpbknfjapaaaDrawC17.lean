/-
  Chords that are drawn.
-/
import Derived.Test.YthkfpbknfjapaaaDrawQ17
import Derived.Test.YthkfpbknfjapaaaPutO17
namespace Go.Proofs.Ythkfpbknfjapaaa
open Go.ChangeShapes Go.WideShapes Go.ChangeAt Go.RowKit

set_option maxRecDepth 100000
set_option linter.unusedVariables false
/-- What the drawing of one list of numbers holds. -/
structure DrN (w wr : World) (b : Nat) (K : Int) (x : Value) (l : List Int) : Prop where
  cur : CurOk wr b K
  rx : NumO wr w.heap.size wr.heap.size x l
  but : But b (b + 1) w wr
  lo : b < w.heap.size
theorem DrN.sz {w wr : World} {b : Nat} {K : Int} {x : Value} {l : List Int} (h : DrN w wr b K x l) : w.heap.size ≤ wr.heap.size := h.but.size
theorem DrN.le {w wr : World} {b : Nat} {K K' : Int} {x : Value} {l : List Int} (h : DrN w wr b K x l) (hk : K ≤ K') : DrN w wr b K' x l := ⟨h.cur.le hk, h.rx, h.but, h.lo⟩
theorem DrN.draw {w wr w' : World} {b : Nat} {K K' : Int} {x : Value} {l : List Int} (h : DrN w wr b K x l) (g : But b (b + 1) wr w') (hC : CurOk w' b K') : DrN w w' b K' x l := by
  have := h.lo
  exact ⟨hC, (h.rx.but g (.inr (by omega))).low, h.but.trans g, h.lo⟩
theorem DrN.alloc {w wr : World} {b : Nat} {K : Int} {x : Value} {l : List Int} (h : DrN w wr b K x l) (o : Obj) : DrN w (wr.alloc o) b K x l :=
  ⟨h.cur.alloc o, (h.rx.kept ((But.refl _ _ wr).alloc o)).low, h.but.alloc o, h.lo⟩
theorem DrN.grew {w wr w' : World} {b hi : Nat} {K : Int} {x v' : Value} {l l' : List Int} (h : DrN w wr b K x l) (o1 : NumO w' w.heap.size w'.heap.size v' l') (b1 : But w.heap.size hi wr w') : DrN w w' b K v' l' :=
  ⟨h.cur.but b1 h.lo, o1, ⟨b1.os.trans h.but.os, b1.out.trans h.but.out, Nat.le_trans h.but.size b1.size, fun i hi' hb => (b1.block i (Nat.lt_of_lt_of_le hi' h.but.size) (.inl hi')).trans (h.but.block i hi' hb)⟩, h.lo⟩

theorem cap_numQ {w : World} {lo hi : Nat} {ao : Option Addr} {n cap : Nat} {l : List NumD} (h : NumO w lo hi (.slice ao n cap) l) : n ≤ cap ∧ cap ≤ 9223372036854775807 := by
  rcases h.1.2 with ⟨hf, _⟩ | ⟨g, c2, cur, hf, _, _, hle, h2, _⟩
  · cases hf; omega
  · cases hf
    unfold maxLen at h2
    omega
set_option maxHeartbeats 8000000 in
theorem chord_ok (w : World) (b : Nat) (K : Int) (h : CurOk w b K) (hK : K ≤ 1152921504606830000) :
    Calls Try.prog 84 #[.pointer (some ⟨b, 0, none⟩)] w fun e w' => ∃ (l : List Int) (v : Value), e = .returned v ∧ l.length ≤ 5 ∧ NumO w' w.heap.size w'.heap.size v l ∧ CurOk w' b (K + 40) ∧ But b (b + 1) w w' := by
  have hb := h.lt
  go_enter Try.func84, Try.ntmps84
  repeat (first | go_values | go_skip | go_guarded | go_step | go_upon)
  go_at_call 82
  refine (pick_ok _ b K 3 h (by omega) (by omega)).mono ?_
  rintro e w1 ⟨n, rfl, hn, hC, hg⟩
  dsimp only
  obtain ⟨N, rfl, hN⟩ := nat_of n 3 hn.1 hn.2
  clear hn
  have hsum : IntKind.i64.wrap (1 + (N : Int)) = ((1 + N : Nat) : Int) := by rw [IntWalk.i64_in _ (by omega)]; omega
  have hsum2 : (1 : Int) + (N : Int) = ((1 + N : Nat) : Int) := by omega
  obtain ⟨M, hM, hMl⟩ : ∃ M : Nat, 1 + N = M ∧ M ≤ 3 := ⟨1 + N, rfl, by omega⟩
  rw [hM] at hsum hsum2
  have HDD : Hid (DrN w w1 b (K + 2) (.slice none 0 0) []) := ⟨hC, nil_num _ _ _, hg, hb⟩
  clear hC hg hM
  repeat (first | go_values | go_skip | go_guarded | go_step | go_upon)
  clear hsum hsum2
  go_loopw [3, 4] (fun x y wr => ∃ (m : Nat) (l : List Int), y = .int .i64 m ∧ m ≤ 3 ∧ l.length + m ≤ 3 ∧ DrN w wr b (K + 10 + 2 * (3 - (m : Int))) x l) (fun x y _ => (intOf y).toNat)
  case atStart => exact ⟨M, [], rfl, hMl, by simp; omega, HDD.out.le (by omega)⟩
  case round =>
    obtain ⟨m, l, rfl, hm, hla, hD⟩ := hrel
    obtain ⟨aoa, ca, hfa⟩ := hD.rx.form
    subst hfa
    by_cases hpos : 0 < m
    · have dp : decide ((0 : Int) < (m : Int)) = true := by simp; omega
      have dp2 : decide (0 < m) = true := by simp; omega
      obtain ⟨m', hm'⟩ : ∃ m', m = m' + 1 := ⟨m - 1, by omega⟩
      have hw1 : IntKind.i64.wrap ((m : Int) - 1) = (m' : Int) := by rw [IntWalk.i64_in _ (by omega)]; omega
      have HM' : Hid (m = m' + 1) := hm'
      obtain ⟨KK, hKK⟩ : ∃ KK : Int, KK = K + 10 + 2 * (3 - (m : Int)) := ⟨_, rfl⟩
      rw [← hKK] at hD
      have HKK : Hid (KK = K + 10 + 2 * (3 - (m : Int))) := hKK
      have hKb : KK ≤ K + 16 := by omega
      have HD1 : Hid (DrN w wr b KK (.slice aoa l.length ca) l) := hD
      clear hm' hpos hD hKK
      repeat (first | go_values | go_skip | go_guarded | go_step | go_upon)
      go_at_call 82
      refine (pick_ok _ _ KK 5 HD1.out.cur (by omega) (by omega)).mono ?_
      rintro e w2 ⟨r1, rfl, hr1, hC2, hg2⟩
      dsimp only
      have HD2 : Hid (DrN w w2 b (KK + 2) (.slice aoa l.length ca) l) := HD1.out.draw hg2 hC2
      clear hC2 hg2 HD1 hr1
      repeat (first | go_values | go_skip | go_guarded | go_step | go_upon)
      go_at_call 92
      refine (sputO l r1 aoa ca _ w.heap.size _ HD2.out.rx HD2.out.sz (cap_numQ HD2.out.rx) (by omega)).mono ?_
      rintro e w3 ⟨ao3, c3, rfl, o3, _, k3⟩
      dsimp only
      have hpl := put_len r1 l
      have h3 := HD2.out.grew (hi := w.heap.size) o3 (But.of k3)
      have HD3 : Hid (DrN w w3 b (KK + 2) (.slice ao3 (putL l r1).length c3) (putL l r1)) := h3
      clear h3 o3 k3 HD2
      repeat (first | go_values | go_skip | go_guarded | go_step | go_upon)
      have e1 := HM'.out
      have e2 := HKK.out
      exact ⟨⟨m', putL l r1, by first | rfl | (congr 1), by omega, by omega, HD3.out.le (K' := K + 10 + 2 * (3 - (m' : Int))) (by omega)⟩, by simp [intOf]; omega⟩
    · have hm0 : m = 0 := by omega
      subst hm0
      have HDr : Hid (DrN w wr b (K + 16) (.slice aoa l.length ca) l) := hD.le (by omega)
      clear hD
      repeat (first | go_values | go_skip | go_guarded | go_step | go_upon)
      go_at_call 85
      refine (one_ok _ b (K + 16) 40 HDr.out.cur (by omega) (by omega)).mono ?_
      rintro e w5 ⟨yes, rfl, hC5, hg5⟩
      dsimp only
      have HD5 : Hid (DrN w w5 b (K + 16 + 2) (.slice aoa l.length ca) l) := HDr.out.draw hg5 hC5
      clear HDr hC5 hg5
      cases yes
      · repeat (first | go_values | go_skip | go_guarded | go_step | go_upon)
        go_ret
        exact ⟨l, _, rfl, by omega, HD5.out.rx, HD5.out.cur.le (by omega), HD5.out.but⟩
      have h6 := HD5.out.alloc (.cells #[.int .i64 (-1), .int .i64 99, .int .i64 100, .int .i64 2] 3)
      have HL : Listed (w5.alloc (.cells #[.int .i64 (-1), .int .i64 99, .int .i64 100, .int .i64 2] 3)) w5.heap.size [-1, 99, 100, 2] := listed_new w5 [-1, 99, 100, 2] 3
      have z5 := HD5.out.sz
      have zl := HD5.out.lo
      have HHL := hide HL
      have HD6 := hide h6
      clear h6 HL HD5
      repeat (first | go_values | go_skip | go_guarded | go_step | go_upon)
      go_at_call 87
      refine (among_ok _ b w5.heap.size (K + 16 + 2) [-1, 99, 100, 2] HD6.out.cur (by omega) (by omega) HHL.out (by simp) (by simp) 4 rfl).mono ?_
      rintro e w6 ⟨q, rfl, hq, hC6, hg6⟩
      dsimp only
      have HD7 := hide (HD6.out.draw hg6 hC6)
      clear hC6 hg6 HD6 hq HHL
      have h7 := HD7.out.alloc (.cells #[.int .i64 q] 3)
      have z7 := h7.sz
      repeat (first | (at_builtin; refine forgetL (fun w' => w' = _) rfl ?_) | go_values | go_skip | go_guarded | go_step | go_upon)
      intro W7 hW7
      rw [hW7]
      clear hW7 W7
      refine app_num rfl _ _ rfl rfl h7.rx rfl (one_num (p := q) (Loc.new w6 [.int .i64 q] 3)) rfl (by simp; omega) (by omega) ?_
      intro v9 w9 o9 b9
      have HD9 := hide (h7.grew o9 b9)
      clear h7 z7 o9 b9 HD7
      (try dsimp only)
      repeat (first | go_values | go_skip | go_guarded | go_step | go_upon)
      go_ret
      exact ⟨_, _, rfl, by simp; omega, HD9.out.rx, HD9.out.cur.le (by omega), HD9.out.but⟩

end Go.Proofs.Ythkfpbknfjapaaa
