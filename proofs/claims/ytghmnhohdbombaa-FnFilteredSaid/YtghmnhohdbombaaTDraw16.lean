/-
  Drawn floats.
-/
import Derived.Test.YtghmnhohdbombaaReal
import Derived.Test.YtghmnhohdbombaaClone16
import Derived.Deep.CutBlock
import Derived.Deep.CutRange
import Derived.Deep.DeepCutAuto
namespace Go.Proofs.Ytghmnhohdbombaa
open Go.ChangeShapes Go.WideShapes Go.ChangeAt Go.RowKit Ieee

set_option maxRecDepth 100000
set_option linter.unusedVariables false
set_option maxHeartbeats 8000000 in
theorem tames_ok (w : World) (b : Nat) (K : Int) (h : CurOk w b K) (hK : K ≤ 1152921504606800000) :
    Calls Try.prog 44 #[.pointer (some ⟨b, 0, none⟩), .int .i64 64] w fun e w' => ∃ (l : List Nat) (v : Value), e = .returned v ∧ (l.length ≤ 65 ∧ ∀ p ∈ l, p < 18446744073709551616) ∧ FltO w' w.heap.size w'.heap.size v l ∧ CurOk w' b (K + 3000) ∧ But b (b + 1) w w' := by
  have hb := h.lt
  obtain ⟨i0, hi0, hz0, hz1, hz2⟩ := info_parts info_flt
  go_enter Try.func44, Try.ntmps44
  repeat (first | go_values | go_skip | go_guarded | go_step | go_upon)
  go_at_call 70
  refine (pick_ok _ b K 9 h (by omega) (by omega)).mono ?_
  rintro e w1 ⟨n, rfl, hn, hC, hg⟩
  dsimp only
  obtain ⟨N, rfl, hN⟩ := nat_of n 9 hn.1 hn.2
  clear hn
  repeat (first | go_values | go_skip | go_guarded | go_step | go_upon)
  go_at_call 68
  refine (one_ok _ b (K + 2) 20 hC (by omega) (by omega)).mono ?_
  rintro e w2 ⟨yes, rfl, hC2, hg2⟩
  dsimp only
  have G2 : But b (b + 1) w w2 := hg.trans hg2
  have hC2 : CurOk w2 b (K + 6) := hC2.le (by omega)
  clear hg hg2 hC
  cases yes
  · (try dsimp only)
    obtain ⟨M, hM, hMl⟩ : ∃ M : Nat, M = N ∧ M ≤ 65 := ⟨N, rfl, by omega⟩
    subst hM
    have HC : Hid (CurOk w2 b (K + 8)) := hC2.le (by omega)
    have HG : Hid (But b (b + 1) w w2) := G2
    have HS : Hid (w.heap.size ≤ w2.heap.size) := G2.size
    clear hC2 G2
    repeat (first | go_values | go_skip | go_guarded | go_step | go_upon)
    go_loopw [5, 6] (fun x y wr => ∃ (m : Nat) (l : List Nat) (ao5 : Option Addr) (c5 : Nat), m + l.length = M ∧ y = .int .i64 m ∧ x = .slice ao5 l.length c5 ∧ Hid (wr.ownsRow w.heap.size 23 1 (.slice ao5 l.length c5) l.length (l.flatMap fltC)) ∧ Hid (∀ p ∈ l, p < 18446744073709551616) ∧ Hid (CurOk wr b (K + 8 + 30 * (l.length : Int))) ∧ Hid (But b (b + 1) w wr)) (fun x y _ => (intOf y).toNat)
    case atStart => exact ⟨M, [], none, 0, by simp, rfl, rfl, (World.ownsRow_nil _ _ _ _ : World.ownsRow _ _ _ _ _ _ _), (show ∀ p ∈ ([] : List Nat), p < 18446744073709551616 from fun p hp => by cases hp), (by simpa using HC.out : CurOk _ _ _), HG⟩
    case round =>
      obtain ⟨m, l, ao5, c5, hm, rfl, rfl, HRow, HW, HCr, HGr⟩ := hrel
      have HM : Hid (m + l.length = M) := hm
      have hll : l.length ≤ 65 := by omega
      clear hm
      by_cases hpos : 0 < m
      · have dp : decide ((0 : Int) < (m : Int)) = true := by simp; omega
        have dp2 : decide (0 < m) = true := by simp; omega
        repeat (first | go_values | go_skip | go_guarded | go_step | go_upon)
        go_at_call 43
        refine (tame_ok _ b (K + 8 + 30 * (l.length : Int)) HCr.out (by omega)).mono ?_
        rintro e w5 ⟨r, rfl, lr, hC5, hg5⟩
        dsimp only
        have hRow5 := own_but HRow.out hg5 (fun g hg => by have := own_lt HRow.out hg; omega)
        have HRow : Hid (w5.ownsRow w.heap.size 23 1 (.slice ao5 l.length c5) l.length (l.flatMap fltC)) := hRow5
        have HC5 : Hid (CurOk w5 b (K + 8 + 30 * (l.length : Int) + 30)) := hC5
        have HG5 : Hid (But b (b + 1) w w5) := HGr.out.trans hg5
        have hs5 : w.heap.size ≤ w5.heap.size := HG5.out.size
        clear hRow5 hC5 hg5 HCr HGr dp dp2
        repeat (first | (at_builtin; refine forgetL (fun w' => w' = _) rfl ?_) | go_values | go_skip | go_guarded | go_step | go_upon)
        intro W7 hW7
        have k7 : Kept w5 W7 := by rw [hW7]; exact (But.refl _ _ _).alloc _
        have N7 : Loc W7 w5.heap.size [.float .f64 r] := by rw [hW7]; exact Loc.new w5 _ _
        have s7 := k7.size
        have hRow7 := own_kept HRow.out k7
        clear hW7
        refine wpList_append_own _ rfl _ _ 28 rfl w.heap.size 23 i0 (.float .f64 0) 1 8 Try.underlying28 hi0 hz0 hz1 hz2 rfl (by decide) (.slice ao5 l.length c5) l.length (l.flatMap fltC) rfl hRow7 ⟨w5.heap.size, 0, none⟩ 1 1 [.float .f64 r] rfl rfl (news1 N7) (by simp [Value.oneCell']) (by unfold maxLen; omega) (by omega) (by omega) ?_
        intro v' W8 hown' hgrow _
        obtain ⟨ao6, c6, hf6, _⟩ := own_form hown'
        subst hf6
        have k8 : But w.heap.size W7.heap.size W7 W8 := (But.refl _ _ _).grown hgrow (fun x hx => .inr (own_lt hRow7 hx))
        have HC8 : Hid (CurOk W8 b (K + 8 + 30 * (l.length : Int) + 30)) := (HC5.out.kept k7).but k8 hb
        have HG8 : Hid (But b (b + 1) w W8) := (HG5.out.transK k7).grown hgrow (fun x hx => .inl (by have := own_lt hRow7 hx; omega))
        have HR8 : Hid (W8.ownsRow w.heap.size 23 1 (.slice ao6 (l.length + 1) c6) (l.length + 1) ((l ++ [r]).flatMap fltC)) := by
          have : W8.ownsRow w.heap.size 23 1 (.slice ao6 (l.length + 1) c6) (l.length + 1) ((l ++ [r]).flatMap fltC) := by
            rw [List.flatMap_append]; exact hown'
          exact this
        clear hown' hgrow hRow7 N7 k7 k8
        obtain ⟨m', hm'⟩ : ∃ m', m = m' + 1 := ⟨m - 1, by omega⟩
        have hw1 : IntKind.i64.wrap ((m : Int) - 1) = (m' : Int) := by rw [IntWalk.i64_in _ (by have := HM.out; omega)]; omega
        have HM' : Hid (m = m' + 1) := hm'
        clear hm' hpos
        dsimp only
        repeat (first | go_values | go_skip | go_guarded | go_step | go_upon)
        refine ⟨⟨m', l ++ [r], ao6, c6, by have := HM.out; have := HM'.out; simp; omega, by first | rfl | (congr 1), by simp, ?_, ?_, ?_, HG8⟩, by have := HM'.out; simp [intOf]; omega⟩
        · show World.ownsRow _ _ _ _ _ _ _
          have := HR8.out
          rw [List.length_append]; exact this
        · show ∀ p ∈ l ++ [r], p < 18446744073709551616
          intro p hp
          rcases List.mem_append.1 hp with h | h
          · exact HW.out p h
          · rw [List.mem_singleton.1 h]; exact lr
        · show CurOk _ _ _
          refine HC8.out.le ?_
          rw [List.length_append]; simp; omega
      · have hm0 : m = 0 := by omega
        subst hm0
        repeat (first | go_values | go_skip | go_guarded | go_step | go_upon)
        go_ret
        have hsz := HGr.out.size
        refine ⟨l, _, rfl, ⟨by omega, HW.out⟩, RowO.top HRow.out, HCr.out.le (by omega), HGr.out⟩
  · repeat (first | go_values | go_skip | go_guarded | go_step | go_upon)
    go_at_call 70
    refine (pick_ok _ b (K + 6) 2 hC2 (by omega) (by omega)).mono ?_
    rintro e w3 ⟨z, rfl, hz, hC3, hg3⟩
    dsimp only
    obtain ⟨Z, rfl, hZ⟩ := nat_of z 2 hz.1 hz.2
    clear hz
    have hsum : IntKind.i64.wrap (64 + (Z : Int)) = ((64 + Z : Nat) : Int) := by rw [IntWalk.i64_in _ (by omega)]; omega
    have hsum2 : (64 : Int) + (Z : Int) = ((64 + Z : Nat) : Int) := by omega
    obtain ⟨M, hM, hMl⟩ : ∃ M : Nat, 64 + Z = M ∧ M ≤ 65 := ⟨64 + Z, rfl, by omega⟩
    rw [hM] at hsum hsum2
    have HC : Hid (CurOk w3 b (K + 8)) := hC3.le (by omega)
    have HG : Hid (But b (b + 1) w w3) := G2.trans hg3
    have HS : Hid (w.heap.size ≤ w3.heap.size) := (G2.trans hg3).size
    clear hC2 G2 hC3 hg3 hM
    repeat (first | go_values | go_skip | go_guarded | go_step | go_upon)
    clear hsum hsum2
    go_loopw [5, 6] (fun x y wr => ∃ (m : Nat) (l : List Nat) (ao5 : Option Addr) (c5 : Nat), m + l.length = M ∧ y = .int .i64 m ∧ x = .slice ao5 l.length c5 ∧ Hid (wr.ownsRow w.heap.size 23 1 (.slice ao5 l.length c5) l.length (l.flatMap fltC)) ∧ Hid (∀ p ∈ l, p < 18446744073709551616) ∧ Hid (CurOk wr b (K + 8 + 30 * (l.length : Int))) ∧ Hid (But b (b + 1) w wr)) (fun x y _ => (intOf y).toNat)
    case atStart => exact ⟨M, [], none, 0, by simp, rfl, rfl, (World.ownsRow_nil _ _ _ _ : World.ownsRow _ _ _ _ _ _ _), (show ∀ p ∈ ([] : List Nat), p < 18446744073709551616 from fun p hp => by cases hp), (by simpa using HC.out : CurOk _ _ _), HG⟩
    case round =>
      obtain ⟨m, l, ao5, c5, hm, rfl, rfl, HRow, HW, HCr, HGr⟩ := hrel
      have HM : Hid (m + l.length = M) := hm
      have hll : l.length ≤ 65 := by omega
      clear hm
      by_cases hpos : 0 < m
      · have dp : decide ((0 : Int) < (m : Int)) = true := by simp; omega
        have dp2 : decide (0 < m) = true := by simp; omega
        repeat (first | go_values | go_skip | go_guarded | go_step | go_upon)
        go_at_call 43
        refine (tame_ok _ b (K + 8 + 30 * (l.length : Int)) HCr.out (by omega)).mono ?_
        rintro e w5 ⟨r, rfl, lr, hC5, hg5⟩
        dsimp only
        have hRow5 := own_but HRow.out hg5 (fun g hg => by have := own_lt HRow.out hg; omega)
        have HRow : Hid (w5.ownsRow w.heap.size 23 1 (.slice ao5 l.length c5) l.length (l.flatMap fltC)) := hRow5
        have HC5 : Hid (CurOk w5 b (K + 8 + 30 * (l.length : Int) + 30)) := hC5
        have HG5 : Hid (But b (b + 1) w w5) := HGr.out.trans hg5
        have hs5 : w.heap.size ≤ w5.heap.size := HG5.out.size
        clear hRow5 hC5 hg5 HCr HGr dp dp2
        repeat (first | (at_builtin; refine forgetL (fun w' => w' = _) rfl ?_) | go_values | go_skip | go_guarded | go_step | go_upon)
        intro W7 hW7
        have k7 : Kept w5 W7 := by rw [hW7]; exact (But.refl _ _ _).alloc _
        have N7 : Loc W7 w5.heap.size [.float .f64 r] := by rw [hW7]; exact Loc.new w5 _ _
        have s7 := k7.size
        have hRow7 := own_kept HRow.out k7
        clear hW7
        refine wpList_append_own _ rfl _ _ 28 rfl w.heap.size 23 i0 (.float .f64 0) 1 8 Try.underlying28 hi0 hz0 hz1 hz2 rfl (by decide) (.slice ao5 l.length c5) l.length (l.flatMap fltC) rfl hRow7 ⟨w5.heap.size, 0, none⟩ 1 1 [.float .f64 r] rfl rfl (news1 N7) (by simp [Value.oneCell']) (by unfold maxLen; omega) (by omega) (by omega) ?_
        intro v' W8 hown' hgrow _
        obtain ⟨ao6, c6, hf6, _⟩ := own_form hown'
        subst hf6
        have k8 : But w.heap.size W7.heap.size W7 W8 := (But.refl _ _ _).grown hgrow (fun x hx => .inr (own_lt hRow7 hx))
        have HC8 : Hid (CurOk W8 b (K + 8 + 30 * (l.length : Int) + 30)) := (HC5.out.kept k7).but k8 hb
        have HG8 : Hid (But b (b + 1) w W8) := (HG5.out.transK k7).grown hgrow (fun x hx => .inl (by have := own_lt hRow7 hx; omega))
        have HR8 : Hid (W8.ownsRow w.heap.size 23 1 (.slice ao6 (l.length + 1) c6) (l.length + 1) ((l ++ [r]).flatMap fltC)) := by
          have : W8.ownsRow w.heap.size 23 1 (.slice ao6 (l.length + 1) c6) (l.length + 1) ((l ++ [r]).flatMap fltC) := by
            rw [List.flatMap_append]; exact hown'
          exact this
        clear hown' hgrow hRow7 N7 k7 k8
        obtain ⟨m', hm'⟩ : ∃ m', m = m' + 1 := ⟨m - 1, by omega⟩
        have hw1 : IntKind.i64.wrap ((m : Int) - 1) = (m' : Int) := by rw [IntWalk.i64_in _ (by have := HM.out; omega)]; omega
        have HM' : Hid (m = m' + 1) := hm'
        clear hm' hpos
        dsimp only
        repeat (first | go_values | go_skip | go_guarded | go_step | go_upon)
        refine ⟨⟨m', l ++ [r], ao6, c6, by have := HM.out; have := HM'.out; simp; omega, by first | rfl | (congr 1), by simp, ?_, ?_, ?_, HG8⟩, by have := HM'.out; simp [intOf]; omega⟩
        · show World.ownsRow _ _ _ _ _ _ _
          have := HR8.out
          rw [List.length_append]; exact this
        · show ∀ p ∈ l ++ [r], p < 18446744073709551616
          intro p hp
          rcases List.mem_append.1 hp with h | h
          · exact HW.out p h
          · rw [List.mem_singleton.1 h]; exact lr
        · show CurOk _ _ _
          refine HC8.out.le ?_
          rw [List.length_append]; simp; omega
      · have hm0 : m = 0 := by omega
        subst hm0
        repeat (first | go_values | go_skip | go_guarded | go_step | go_upon)
        go_ret
        have hsz := HGr.out.size
        refine ⟨l, _, rfl, ⟨by omega, HW.out⟩, RowO.top HRow.out, HCr.out.le (by omega), HGr.out⟩

end Go.Proofs.Ytghmnhohdbombaa
