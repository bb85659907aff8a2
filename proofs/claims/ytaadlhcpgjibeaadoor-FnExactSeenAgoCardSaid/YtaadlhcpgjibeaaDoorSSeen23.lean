/-
  SeenAgo of the specification.
-/
import Derived.Test.YtaadlhcpgjibeaaDoorSAt23
import Derived.Test.YtaadlhcpgjibeaaDoorHist
import Derived.Test.YtaadlhcpgjibeaaDoorTab23
import Derived.Test.YtaadlhcpgjibeaaDoorSGoodT23
import Derived.Test.YtaadlhcpgjibeaaDoorGood23
namespace Go.Proofs.YtaadlhcpgjibeaaDoor
open Go.ChangeShapes Go.WideShapes Go.ChangeAt Go.RowKit

set_option maxRecDepth 100000
set_option linter.unusedVariables false
set_option linter.unusedSimpArgs false

set_option maxHeartbeats 16000000 in
theorem sseen (h : List (List ThingD)) (ago id : Int) (v : Value) (w : World) (hT : Tab w) (hv : HistAt w v h) (hn : h.length ≤ 9000000000000000000) (hl : ∀ l ∈ h, l.length ≤ 1048576) (ha : -9223372036854775808 ≤ ago ∧ ago ≤ 9223372036854775807) :
    Calls Tryd.prog 34 #[v, .int .i64 ago, .int .i64 id] w fun e w' => e = .returned (.tuple #[.agg (thingC (seenA h ago id).1).toArray, .bool (seenA h ago id).2]) ∧ Kept w w' := by
  obtain ⟨ao, cap, hsl⟩ := hv.form
  subst hsl
  obtain ⟨ha1, ha2⟩ := ha
  have HN : Hid (¬ SeenP h ago → seenA h ago id = (thing0, false)) := fun hh => seenA_no hh
  have HY : Hid (∀ l, SeenP h ago → h[h.length - 1 - ago.toNat]? = some l → seenA h ago id = findT l id) := fun l h1 h2 => seenA_yes h1 h2
  generalize seenA h ago id = R at *
  rcases Nat.lt_or_ge h.length 1 with h1 | h1
  · have d1 : decide ((h.length : Int) < 1) = true := decide_eq_true (by omega)
    have hR := HN.out (fun h => by have := h.1.1; omega)
    subst hR
    have KR : Hid (Kept w w) := But.refl _ _ _
    go_enter Tryd.func34, Tryd.ntmps34
    repeat (first | (go_at_call 49; refine (sin _ _ _ _).mono ?_; rintro e w4 ⟨rfl, hw4⟩; rw [hw4]; clear hw4 w4; rw [d3]; dsimp only) | go_values | go_skip | go_guarded | go_step | go_upon)
    refine bodyPost_ret (v := .tuple #[.agg #[.int .i64 0, .int .i64 0, .int .i64 0, .int .i64 0], .bool false]) (by simp [results, Tryd.results34, go_sem, *]) rfl ?_
    exact ⟨rfl, (by repeat (first | with_reducible exact KR.out | (with_reducible refine But.setNew ?_ (Nat.le_refl _) _) | with_reducible apply But.alloc | with_reducible exact But.refl _ _ _))⟩
  have d1 : decide ((h.length : Int) < 1) = false := decide_eq_false (by omega)
  rcases Nat.lt_or_ge 40 h.length with h2 | h2
  · have d2 : decide ((h.length : Int) > 40) = true := decide_eq_true (by omega)
    have hR := HN.out (fun h => by have := h.1.2; omega)
    subst hR
    have KR : Hid (Kept w w) := But.refl _ _ _
    go_enter Tryd.func34, Tryd.ntmps34
    repeat (first | (go_at_call 49; refine (sin _ _ _ _).mono ?_; rintro e w4 ⟨rfl, hw4⟩; rw [hw4]; clear hw4 w4; rw [d3]; dsimp only) | go_values | go_skip | go_guarded | go_step | go_upon)
    refine bodyPost_ret (v := .tuple #[.agg #[.int .i64 0, .int .i64 0, .int .i64 0, .int .i64 0], .bool false]) (by simp [results, Tryd.results34, go_sem, *]) rfl ?_
    exact ⟨rfl, (by repeat (first | with_reducible exact KR.out | (with_reducible refine But.setNew ?_ (Nat.le_refl _) _) | with_reducible apply But.alloc | with_reducible exact But.refl _ _ _))⟩
  have d2 : decide ((h.length : Int) > 40) = false := decide_eq_false (by omega)
  rcases (Decidable.em (0 ≤ ago ∧ ago ≤ (h.length : Int) - 1)).symm with h3 | h3
  · have d3 : decide (0 ≤ ago ∧ ago ≤ (h.length : Int) - 1) = false := decide_eq_false h3
    have H3 : Hid _ := h3
    clear h3
    have hR := HN.out (fun h => H3.out h.2.1)
    subst hR
    have KR : Hid (Kept w w) := But.refl _ _ _
    go_enter Tryd.func34, Tryd.ntmps34
    repeat (first | (go_at_call 49; refine (sin _ _ _ _).mono ?_; rintro e w4 ⟨rfl, hw4⟩; rw [hw4]; clear hw4 w4; rw [d3]; dsimp only) | go_values | go_skip | go_guarded | go_step | go_upon)
    refine bodyPost_ret (v := .tuple #[.agg #[.int .i64 0, .int .i64 0, .int .i64 0, .int .i64 0], .bool false]) (by simp [results, Tryd.results34, go_sem, *]) rfl ?_
    exact ⟨rfl, (by repeat (first | with_reducible exact KR.out | (with_reducible refine But.setNew ?_ (Nat.le_refl _) _) | with_reducible apply But.alloc | with_reducible exact But.refl _ _ _))⟩
  have d3 : decide (0 ≤ ago ∧ ago ≤ (h.length : Int) - 1) = true := decide_eq_true h3
  obtain ⟨W1, hW1⟩ : ∃ W1, W1 = w.alloc (.cells #[.int .i64 0, .int .i64 0, .int .i64 0, .int .i64 0] 57) := ⟨_, rfl⟩
  have K1 : Kept w W1 := by rw [hW1]; exact (But.refl _ _ _).alloc _
  have L1 : Loc W1 w.heap.size [.int .i64 0, .int .i64 0, .int .i64 0, .int .i64 0] := by rw [hW1]; exact Loc.new w [.int .i64 0, .int .i64 0, .int .i64 0, .int .i64 0] 57
  go_enter Tryd.func34, Tryd.ntmps34
  repeat (first | (go_at_call 49; refine (sin _ _ _ _).mono ?_; rintro e w4 ⟨rfl, hw4⟩; rw [hw4]; clear hw4 w4; rw [d3]; dsimp only) | go_values | go_skip | go_guarded | go_step | go_upon)
  rw [← hW1]
  clear hW1
  go_loopw [31] (fun i wr => ∃ (k : Nat), k ≤ h.length ∧ i = .int .i64 k ∧ Hid (∀ j, j < k → ∀ l, h[j]? = some l → goodB l = true) ∧ Hid (Kept W1 wr)) (fun i _ => h.length - (intOf i).toNat)
  case atStart => exact ⟨0, by omega, rfl, (fun j hj => by omega : ∀ j, j < 0 → ∀ l, h[j]? = some l → goodB l = true), But.refl _ _ _⟩
  case round =>
    obtain ⟨j, hk, rfl, HB, HK⟩ := hrel
    have KW : Hid (Kept w wr) := K1.trans HK.out
    by_cases hlt : j < h.length
    · obtain ⟨l, hd⟩ : ∃ p, h[j]? = some p := ⟨_, List.getElem?_eq_getElem hlt⟩
      obtain ⟨b, o, cap', u, ee, c0, hu⟩ := hist_get (hv.kept KW.out) hd
      cases ee
      obtain ⟨ao2, cap2, hsl⟩ := row_nil hu
      subst hsl
      have HP : Hid (h[j]? = some l) := hd
      have hll := hl l (List.mem_of_getElem? hd)
      have LR := L1.kept HK.out
      have e0 := LR.cell 0 rfl
      have e1 := LR.cell 1 rfl
      have e2 := LR.cell 2 rfl
      have e3 := LR.cell 3 rfl
      have bz := LR.lt
      clear hd
      cases hg : goodB l with
      | false =>
        have hR := HN.out (fun h => by have := h.2.2 j hlt l HP.out; rw [hg] at this; cases this)
        subst hR
        repeat (first | go_values | go_skip | go_guarded | go_step | go_upon)
        go_at_call 19
        refine (sgoodT l _ _ hu (by omega)).mono ?_
        rintro e w3 ⟨rfl, k3⟩
        rw [hg]
        have KX : Hid (Kept w w3) := KW.out.trans k3
        have LX := LR.kept k3
        have HX : Hid (HistAt w3 (.slice (some ⟨b, o, none⟩) h.length cap) h) := hv.kept KX.out
        clear k3 e0 e1 e2 e3 bz c0
        have e0 := LX.cell 0 rfl
        have e1 := LX.cell 1 rfl
        have e2 := LX.cell 2 rfl
        have e3 := LX.cell 3 rfl
        have f0 := LX.frozen 0
        have f1 := LX.frozen 1
        have f2 := LX.frozen 2
        have f3 := LX.frozen 3
        have bz := LX.lt
        dsimp only
        repeat (first | go_values | go_skip | go_guarded | go_step | go_upon)
        refine bodyPost_ret (v := .tuple #[.agg #[.int .i64 0, .int .i64 0, .int .i64 0, .int .i64 0], .bool false]) (by simp [results, Tryd.results34, go_sem, *]) rfl ?_
        exact ⟨rfl, (by repeat (first | with_reducible exact KX.out | (with_reducible refine But.setNew ?_ (Nat.le_refl _) _) | with_reducible apply But.alloc | with_reducible exact But.refl _ _ _))⟩
      | true =>
        have I : Hid (∀ i, i < j + 1 → ∀ l, h[i]? = some l → goodB l = true) := fun i hi q hq => by
          rcases Nat.lt_or_ge i j with h1 | h1
          · exact HB.out i h1 q hq
          · obtain rfl : i = j := by omega
            rw [HP.out] at hq
            cases hq
            exact hg
        repeat (first | go_values | go_skip | go_guarded | go_step | go_upon)
        go_at_call 19
        refine (sgoodT l _ _ hu (by omega)).mono ?_
        rintro e w3 ⟨rfl, k3⟩
        rw [hg]
        have HK3 : Hid (Kept W1 w3) := HK.out.trans k3
        clear k3 c0 e0 e1 e2 e3 bz LR
        dsimp only
        repeat (first | go_values | go_skip | go_guarded | go_step | go_upon)
        exact ⟨⟨j + 1, hlt, by go_num, I, HK3⟩, by simp [intOf]; omega⟩
    · have hke : j = h.length := by omega
      subst hke
      have HP : Hid (SeenP h ago) := ⟨⟨h1, h2⟩, h3, HB.out⟩
      obtain ⟨y, hy⟩ := Int.eq_ofNat_of_zero_le h3.1
      subst hy
      obtain ⟨l, hd⟩ : ∃ p, h[h.length - 1 - y]? = some p := ⟨_, List.getElem?_eq_getElem (by omega)⟩
      have hR := HY.out l HP.out (by simpa using hd)
      obtain ⟨b, o, cap', u, ee, c0, hu⟩ := hist_get (hv.kept KW.out) hd
      cases ee
      obtain ⟨ao2, cap2, hsl⟩ := row_nil hu
      subst hsl
      have hll := hl l (List.mem_of_getElem? hd)
      have LR := L1.kept HK.out
      clear hd
      have e0 := LR.cell 0 rfl
      have e1 := LR.cell 1 rfl
      have e2 := LR.cell 2 rfl
      have e3 := LR.cell 3 rfl
      have f0 := LR.frozen 0
      have f1 := LR.frozen 1
      have f2 := LR.frozen 2
      have f3 := LR.frozen 3
      have bz := LR.lt
      rcases first_or l id with ⟨j, p, q1, q2, q3⟩ | q3
      · rw [findT_yes q1 q2 q3] at hR
        subst hR
        have ea := atI_yes q1 q2 q3
        repeat (first | go_values | go_skip | go_guarded | go_step | go_upon)
        go_at_call 59
        refine (sat l id _ _ hu (by omega)).mono ?_
        rintro e w3 ⟨rfl, k3⟩
        rw [ea]
        obtain ⟨b2, o2, cap3, ee, y0, y1, y2, y3⟩ := thing_get (hu.kept k3) q1
        cases ee
        have KX : Hid (Kept w w3) := KW.out.trans k3
        have LX := LR.kept k3
        have hjl := (List.getElem?_eq_some_iff.1 q1).1
        clear k3 e0 e1 e2 e3 f0 f1 f2 f3 bz c0
        have e0 := LX.cell 0 rfl
        have e1 := LX.cell 1 rfl
        have e2 := LX.cell 2 rfl
        have e3 := LX.cell 3 rfl
        have f0 := LX.frozen 0
        have f1 := LX.frozen 1
        have f2 := LX.frozen 2
        have f3 := LX.frozen 3
        have bz := LX.lt
        clear q1 q2 q3 ea hu hv
        obtain ⟨p0, p1, p2, p3⟩ := p
        dsimp only at y0 y1 y2 y3 ⊢
        repeat (first | go_values | go_skip | go_guarded | go_step | go_upon)
        refine bodyPost_ret (v := .tuple #[.agg #[.int .i64 p0, .int .i64 p1, .int .i64 p2, .int .i64 p3], .bool true]) (by simp [results, Tryd.results34, go_sem, *]) rfl ?_
        exact ⟨rfl, (by repeat (first | with_reducible exact KX.out | (with_reducible refine But.setNew ?_ (Nat.le_refl _) _) | with_reducible apply But.alloc | with_reducible exact But.refl _ _ _))⟩
      · rw [findT_no q3] at hR
        subst hR
        have ea := atI_no q3
        repeat (first | go_values | go_skip | go_guarded | go_step | go_upon)
        go_at_call 59
        refine (sat l id _ _ hu (by omega)).mono ?_
        rintro e w3 ⟨rfl, k3⟩
        rw [ea]
        have KX : Hid (Kept w w3) := KW.out.trans k3
        have LX := LR.kept k3
        clear k3 e0 e1 e2 e3 f0 f1 f2 f3 bz c0
        have e0 := LX.cell 0 rfl
        have e1 := LX.cell 1 rfl
        have e2 := LX.cell 2 rfl
        have e3 := LX.cell 3 rfl
        have f0 := LX.frozen 0
        have f1 := LX.frozen 1
        have f2 := LX.frozen 2
        have f3 := LX.frozen 3
        have bz := LX.lt
        clear q3 ea
        dsimp only
        repeat (first | go_values | go_skip | go_guarded | go_step | go_upon)
        refine bodyPost_ret (v := .tuple #[.agg #[.int .i64 0, .int .i64 0, .int .i64 0, .int .i64 0], .bool false]) (by simp [results, Tryd.results34, go_sem, *]) rfl ?_
        exact ⟨rfl, (by repeat (first | with_reducible exact KX.out | (with_reducible refine But.setNew ?_ (Nat.le_refl _) _) | with_reducible apply But.alloc | with_reducible exact But.refl _ _ _))⟩

end Go.Proofs.YtaadlhcpgjibeaaDoor
