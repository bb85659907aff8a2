/-
  SeenAgo of the program.
-/
import Derived.Test.YtaadlhcpgjibeaaDoorSeenP23
import Derived.Test.YtaadlhcpgjibeaaDoorHist
import Derived.Test.YtaadlhcpgjibeaaDoorIGoodT23
namespace Go.Proofs.YtaadlhcpgjibeaaDoor
open Go.ChangeShapes Go.WideShapes Go.ChangeAt Go.RowKit

set_option maxRecDepth 100000
set_option linter.unusedVariables false
set_option linter.unusedSimpArgs false

set_option maxHeartbeats 16000000 in
theorem iseen (h : List (List ThingD)) (ago id : Int) (v : Value) (w : World) (hT : Tab w) (hv : HistAt w v h) (hn : h.length ≤ 9000000000000000000) (hl : ∀ l ∈ h, l.length ≤ 1048576) (ha : -9223372036854775808 ≤ ago ∧ ago ≤ 9223372036854775807) :
    Calls Tryd.prog 36 #[v, .int .i64 ago, .int .i64 id] w fun e w' => e = .returned (.tuple #[.agg (thingC (seenA h ago id).1).toArray, .bool (seenA h ago id).2]) ∧ Kept w w' := by
  obtain ⟨ao, cap, hsl⟩ := hv.form
  subst hsl
  obtain ⟨ha1, ha2⟩ := ha
  have HN : Hid (¬ SeenP h ago → seenA h ago id = (thing0, false)) := fun hh => seenA_no hh
  have HY : Hid (∀ l, SeenP h ago → h[h.length - 1 - ago.toNat]? = some l → seenA h ago id = findT l id) := fun l h1 h2 => seenA_yes h1 h2
  generalize seenA h ago id = R at *
  rcases Nat.lt_or_ge 40 h.length with h2 | h2
  · have d2 : decide ((h.length : Int) > 40) = true := decide_eq_true (by omega)
    have hR := HN.out (fun h => by have := h.1.2; omega)
    subst hR
    have KR : Hid (Kept w w) := But.refl _ _ _
    go_enter Tryd.func36, Tryd.ntmps36
    repeat (first | go_values | go_skip | go_guarded | go_step | go_upon)
    refine bodyPost_ret (v := .tuple #[.agg #[.int .i64 0, .int .i64 0, .int .i64 0, .int .i64 0], .bool false]) (by simp [results, Tryd.results36, go_sem, *]) rfl ?_
    exact ⟨rfl, (by repeat (first | with_reducible exact KR.out | (with_reducible refine But.setNew ?_ (Nat.le_refl _) _) | with_reducible apply But.alloc | with_reducible exact But.refl _ _ _))⟩
  have d2 : decide ((h.length : Int) > 40) = false := decide_eq_false (by omega)
  rcases (Decidable.em (0 ≤ ago)).symm with h3 | h3
  · have d3 : decide (ago < 0) = true := decide_eq_true (by omega)
    have hR := HN.out (fun h => h3 h.2.1.1)
    subst hR
    have KR : Hid (Kept w w) := But.refl _ _ _
    go_enter Tryd.func36, Tryd.ntmps36
    repeat (first | go_values | go_skip | go_guarded | go_step | go_upon)
    refine bodyPost_ret (v := .tuple #[.agg #[.int .i64 0, .int .i64 0, .int .i64 0, .int .i64 0], .bool false]) (by simp [results, Tryd.results36, go_sem, *]) rfl ?_
    exact ⟨rfl, (by repeat (first | with_reducible exact KR.out | (with_reducible refine But.setNew ?_ (Nat.le_refl _) _) | with_reducible apply But.alloc | with_reducible exact But.refl _ _ _))⟩
  have d3 : decide (ago < 0) = false := decide_eq_false (by omega)
  rcases (Decidable.em (ago ≤ (h.length : Int) - 1)).symm with h4 | h4
  · have d4 : decide (ago ≥ (h.length : Int)) = true := decide_eq_true (by omega)
    have hR := HN.out (fun h => h4 h.2.1.2)
    subst hR
    have KR : Hid (Kept w w) := But.refl _ _ _
    go_enter Tryd.func36, Tryd.ntmps36
    repeat (first | go_values | go_skip | go_guarded | go_step | go_upon)
    refine bodyPost_ret (v := .tuple #[.agg #[.int .i64 0, .int .i64 0, .int .i64 0, .int .i64 0], .bool false]) (by simp [results, Tryd.results36, go_sem, *]) rfl ?_
    exact ⟨rfl, (by repeat (first | with_reducible exact KR.out | (with_reducible refine But.setNew ?_ (Nat.le_refl _) _) | with_reducible apply But.alloc | with_reducible exact But.refl _ _ _))⟩
  have d4 : decide (ago ≥ (h.length : Int)) = false := decide_eq_false (by omega)
  have h3 : 0 ≤ ago ∧ ago ≤ (h.length : Int) - 1 := ⟨h3, h4⟩
  have h1 : 1 ≤ h.length := by omega
  obtain ⟨W1, hW1⟩ : ∃ W1, W1 = w.alloc (.cells #[.int .i64 0, .int .i64 0, .int .i64 0, .int .i64 0] 57) := ⟨_, rfl⟩
  have K1 : Kept w W1 := by rw [hW1]; exact (But.refl _ _ _).alloc _
  have L1 : Loc W1 w.heap.size [.int .i64 0, .int .i64 0, .int .i64 0, .int .i64 0] := by rw [hW1]; exact Loc.new w [.int .i64 0, .int .i64 0, .int .i64 0, .int .i64 0] 57
  go_enter Tryd.func36, Tryd.ntmps36
  repeat (first | go_values | go_skip | go_guarded | go_step | go_upon)
  rw [← hW1]
  clear hW1
  go_loopw [28] (fun i wr => ∃ (k : Nat), k ≤ h.length ∧ i = .int .i64 k ∧ Hid (∀ j, j < k → ∀ l, h[j]? = some l → goodB l = true) ∧ Hid (Kept W1 wr)) (fun i _ => h.length - (intOf i).toNat)
  case atStart => exact ⟨0, by omega, rfl, (fun j hj => by omega : ∀ j, j < 0 → ∀ l, h[j]? = some l → goodB l = true), But.refl _ _ _⟩
  case round =>
    obtain ⟨j, hk, rfl, HB, HK⟩ := hrel
    have KW : Hid (Kept w wr) := K1.trans HK.out
    by_cases hlt : j < h.length
    · obtain ⟨l, hd⟩ : ∃ p, h[j]? = some p := ⟨_, List.getElem?_eq_getElem hlt⟩
      obtain ⟨b, o, cap', u, ee, c0, hu⟩ := hist_get (hv.kept KW.out) hd
      cases ee
      obtain ⟨ao2, cap2, hsl⟩ := row_nil hu
      subst hsl
      have HP : Hid (h[j]? = some l) := hd
      have hll := hl l (List.mem_of_getElem? hd)
      have LR := L1.kept HK.out
      have e0 := LR.cell 0 rfl
      have e1 := LR.cell 1 rfl
      have e2 := LR.cell 2 rfl
      have e3 := LR.cell 3 rfl
      have bz := LR.lt
      clear hd
      cases hg : goodB l with
      | false =>
        have hR := HN.out (fun h => by have := h.2.2 j hlt l HP.out; rw [hg] at this; cases this)
        subst hR
        repeat (first | go_values | go_skip | go_guarded | go_step | go_upon)
        go_at_call 21
        refine (igoodT l _ _ (hT.kept KW.out) hu (by omega)).mono ?_
        rintro e w3 ⟨rfl, k3⟩
        rw [hg]
        have KX : Hid (Kept w w3) := KW.out.trans k3
        have LX := LR.kept k3
        have HX : Hid (HistAt w3 (.slice (some ⟨b, o, none⟩) h.length cap) h) := hv.kept KX.out
        clear k3 e0 e1 e2 e3 bz c0
        have e0 := LX.cell 0 rfl
        have e1 := LX.cell 1 rfl
        have e2 := LX.cell 2 rfl
        have e3 := LX.cell 3 rfl
        have f0 := LX.frozen 0
        have f1 := LX.frozen 1
        have f2 := LX.frozen 2
        have f3 := LX.frozen 3
        have bz := LX.lt
        dsimp only
        repeat (first | go_values | go_skip | go_guarded | go_step | go_upon)
        refine bodyPost_ret (v := .tuple #[.agg #[.int .i64 0, .int .i64 0, .int .i64 0, .int .i64 0], .bool false]) (by simp [results, Tryd.results36, go_sem, *]) rfl ?_
        exact ⟨rfl, (by repeat (first | with_reducible exact KX.out | (with_reducible refine But.setNew ?_ (Nat.le_refl _) _) | with_reducible apply But.alloc | with_reducible exact But.refl _ _ _))⟩
      | true =>
        have I : Hid (∀ i, i < j + 1 → ∀ l, h[i]? = some l → goodB l = true) := fun i hi q hq => by
          rcases Nat.lt_or_ge i j with h1 | h1
          · exact HB.out i h1 q hq
          · obtain rfl : i = j := by omega
            rw [HP.out] at hq
            cases hq
            exact hg
        repeat (first | go_values | go_skip | go_guarded | go_step | go_upon)
        go_at_call 21
        refine (igoodT l _ _ (hT.kept KW.out) hu (by omega)).mono ?_
        rintro e w3 ⟨rfl, k3⟩
        rw [hg]
        have HK3 : Hid (Kept W1 w3) := HK.out.trans k3
        clear k3 c0 e0 e1 e2 e3 bz LR
        dsimp only
        repeat (first | go_values | go_skip | go_guarded | go_step | go_upon)
        exact ⟨⟨j + 1, hlt, by go_num, I, HK3⟩, by simp [intOf]; omega⟩
    · have hke : j = h.length := by omega
      subst hke
      have HP : Hid (SeenP h ago) := ⟨⟨h1, h2⟩, h3, HB.out⟩
      obtain ⟨y, hy⟩ := Int.eq_ofNat_of_zero_le h3.1
      subst hy
      obtain ⟨l, hd⟩ : ∃ p, h[h.length - 1 - y]? = some p := ⟨_, List.getElem?_eq_getElem (by omega)⟩
      have hR := HY.out l HP.out (by simpa using hd)
      obtain ⟨b, o, cap', u, ee, c0, hu⟩ := hist_get (hv.kept KW.out) hd
      cases ee
      obtain ⟨ao2, cap2, hsl⟩ := row_nil hu
      subst hsl
      have hll := hl l (List.mem_of_getElem? hd)
      have LR := L1.kept HK.out
      clear hd
      have HFY : Hid (∀ (j : Nat) (p : ThingD), l[j]? = some p → p.1 = id → (∀ i, i < j → ∀ q : ThingD, l[i]? = some q → q.1 ≠ id) → R = (p, true)) := fun j p h1 h2 h3 => by rw [hR, findT_yes h1 h2 h3]
      have HFN : Hid ((∀ i, i < l.length → ∀ q : ThingD, l[i]? = some q → q.1 ≠ id) → R = (thing0, false)) := fun h => by rw [hR, findT_no h]
      clear hR
      repeat (first | go_values | go_skip | go_guarded | go_step | go_upon)
      go_loopw [46] (fun i w2 => ∃ (k : Nat), k ≤ l.length ∧ i = .int .i64 k ∧ Hid (∀ i, i < k → ∀ q : ThingD, l[i]? = some q → q.1 ≠ id) ∧ Hid (Kept wr w2)) (fun i _ => l.length - (intOf i).toNat)
      case atStart => exact ⟨0, by omega, rfl, (fun j hj => by omega : ∀ j, j < 0 → ∀ q : ThingD, l[j]? = some q → q.1 ≠ id), But.refl _ _ _⟩
      case round =>
        rename World => w2
        obtain ⟨j, hk2, rfl, HB2, HK2⟩ := hrel
        have KX : Hid (Kept w w2) := KW.out.trans HK2.out
        have LX := LR.kept HK2.out
        by_cases hlt2 : j < l.length
        · obtain ⟨d, hd⟩ : ∃ p, l[j]? = some p := ⟨_, List.getElem?_eq_getElem hlt2⟩
          obtain ⟨b2, o2, cap3, ee, c0, c1, c2, c3⟩ := thing_get (hu.kept HK2.out) hd
          cases ee
          have HP2 : Hid (l[j]? = some d) := hd
          clear hd
          have HNE : Hid (d.1 ≠ id → ∀ i, i < j + 1 → ∀ q : ThingD, l[i]? = some q → q.1 ≠ id) := fun he i hi q hq => by
            rcases Nat.lt_or_ge i j with h1 | h1
            · exact HB2.out i h1 q hq
            · obtain rfl : i = j := by omega
              rw [HP2.out] at hq
              cases hq
              exact he
          obtain ⟨y0, y1, y2, y3⟩ := d
          dsimp only at c0 c1 c2 c3 HNE
          by_cases he : y0 = id
          · have hR := HFY.out j _ HP2.out he HB2.out
            have de : (y0 == id) = true := by simpa using he
            subst hR
            clear he HNE
            have e0 := LX.cell 0 rfl
            have e1 := LX.cell 1 rfl
            have e2 := LX.cell 2 rfl
            have e3 := LX.cell 3 rfl
            have f0 := LX.frozen 0
            have f1 := LX.frozen 1
            have f2 := LX.frozen 2
            have f3 := LX.frozen 3
            have bz := LX.lt
            repeat (first | go_values | go_skip | go_guarded | go_step | go_upon)
            refine bodyPost_ret (v := .tuple #[.agg #[.int .i64 y0, .int .i64 y1, .int .i64 y2, .int .i64 y3], .bool true]) (by simp [results, Tryd.results36, go_sem, *]) rfl ?_
            exact ⟨rfl, (by repeat (first | with_reducible exact KX.out | (with_reducible refine But.setNew ?_ (Nat.le_refl _) _) | with_reducible apply But.alloc | with_reducible exact But.refl _ _ _))⟩
          · have de : (y0 == id) = false := by simpa using he
            have I : Hid _ := HNE.out he
            clear he HNE
            repeat (first | go_values | go_skip | go_guarded | go_step | go_upon)
            exact ⟨⟨j + 1, hlt2, by go_num, I, HK2.out.alloc _⟩, by simp [intOf]; omega⟩
        · have hke : j = l.length := by omega
          subst hke
          have hR := HFN.out HB2.out
          subst hR
          have e0 := LX.cell 0 rfl
          have e1 := LX.cell 1 rfl
          have e2 := LX.cell 2 rfl
          have e3 := LX.cell 3 rfl
          have f0 := LX.frozen 0
          have f1 := LX.frozen 1
          have f2 := LX.frozen 2
          have f3 := LX.frozen 3
          have bz := LX.lt
          repeat (first | go_values | go_skip | go_guarded | go_step | go_upon)
          refine bodyPost_ret (v := .tuple #[.agg #[.int .i64 0, .int .i64 0, .int .i64 0, .int .i64 0], .bool false]) (by simp [results, Tryd.results36, go_sem, *]) rfl ?_
          exact ⟨rfl, (by repeat (first | with_reducible exact KX.out | (with_reducible refine But.setNew ?_ (Nat.le_refl _) _) | with_reducible apply But.alloc | with_reducible exact But.refl _ _ _))⟩

end Go.Proofs.YtaadlhcpgjibeaaDoor
