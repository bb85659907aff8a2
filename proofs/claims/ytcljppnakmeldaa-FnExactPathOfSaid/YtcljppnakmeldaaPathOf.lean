/-
  PathOf and FindNode, in the specification and in the program.
-/
import Derived.Test.YtcljppnakmeldaaPath
namespace Go.Proofs.Ytcljppnakmeldaa
open Go.ChangeShapes Go.WideShapes Go.ChangeAt Go.RowKit

theorem chain_names {l : List NodeD} (h : GoodL l) : ∀ (xs : List UpE) (a : Int), Chain l a xs → ∀ x ∈ xs, x.2.1.size ≤ 20
  | [], _, _ => fun x hx => by simp at hx
  | y :: r, a, hc => fun x hx => by
    obtain ⟨i, n, rfl, hi, rfl, _, hr⟩ := hc
    rcases List.mem_cons.1 hx with rfl | hx
    · exact ((nameB_iff _).1 (h.2 i n hi).1).2.1
    · exact chain_names h r _ hr x hx

open Classical in
/-- What PathOf answers. -/
noncomputable def pathA (l : List NodeD) (a : Int) : ByteArray := if h : GoodL l ∧ 0 ≤ a ∧ ∃ xs, Chain l a xs then pathB (namesOf (rows (Classical.choose h.2.2)).reverse) else ⟨#[]⟩
theorem pathA_bad {l : List NodeD} {a : Int} (h : ¬ GoodL l) : pathA l a = ⟨#[]⟩ := dif_neg (fun hh => h hh.1)
theorem pathA_out {l : List NodeD} {a : Int} (h : ¬ (0 ≤ a ∧ a < l.length)) : pathA l a = ⟨#[]⟩ := dif_neg (fun hh => h ⟨hh.2.1, by obtain ⟨xs, hx⟩ := hh.2.2; exact chain_lt hx⟩)
theorem pathA_good {l : List NodeD} {a : Int} (h : GoodL l) (h0 : 0 ≤ a) {xs : List UpE} (hc : Chain l a xs) : pathA l a = pathB (namesOf (rows xs).reverse) := by
  have hh : GoodL l ∧ 0 ≤ a ∧ ∃ xs, Chain l a xs := ⟨h, h0, xs, hc⟩
  rw [pathA, dif_pos hh, chain_one _ _ a (Classical.choose_spec hh.2.2) hc]
open Classical in
/-- What FindNode answers. -/
noncomputable def findA (l : List NodeD) (p : ByteArray) : Int := if GoodL l then (match (List.range l.length).find? (fun i => (pathA l (i : Nat)).toList == p.toList) with
  | some i => (i : Int)
  | none => -1) else -1
theorem findA_bad {l : List NodeD} {p : ByteArray} (h : ¬ GoodL l) : findA l p = -1 := if_neg h
theorem findA_at {l : List NodeD} {p : ByteArray} (h : GoodL l) {k : Nat} (hk : k < l.length) (hq : ((pathA l (k : Int)).toList == p.toList) = true) (hno : ∀ j : Nat, j < k → ((pathA l j).toList == p.toList) = false) : findA l p = k := by
  have hf : (List.range l.length).find? (fun i => (pathA l (i : Nat)).toList == p.toList) = some k := by
    rw [List.find?_range_eq_some]
    exact ⟨hq, List.mem_range.2 hk, fun j hj => by rw [hno j hj]; rfl⟩
  rw [findA, if_pos h, hf]
theorem findA_none {l : List NodeD} {p : ByteArray} (h : GoodL l) (hno : ∀ j : Nat, j < l.length → ((pathA l j).toList == p.toList) = false) : findA l p = -1 := by
  have hf : (List.range l.length).find? (fun i => (pathA l (i : Nat)).toList == p.toList) = none := by
    rw [List.find?_range_eq_none]
    exact fun j hj => by rw [hno j hj]; rfl
  rw [findA, if_pos h, hf]

set_option maxRecDepth 100000 in
set_option maxHeartbeats 4000000 in
theorem implPathOf (l : List NodeD) (v : Value) (lo hi : Nat) (a : Int) (w : World) (ho : NodeO w lo hi v l) (hn : l.length ≤ 1048576) (hs : ∀ p ∈ l, p.1.size ≤ 1048576) :
    Calls Try.prog 36 #[v, .int .i64 a] w fun e w' => e = .returned (.string (pathA l a)) ∧ Kept w w' := by
  obtain ⟨ao, cap, hsl, hcap⟩ := own_cap ho.1
  subst hsl
  obtain ⟨b, hb⟩ : ∃ b : Bool, (b = true ↔ GoodL l) := by
    by_cases h : GoodL l
    · exact ⟨true, by simp [h]⟩
    · exact ⟨false, by simp [h]⟩
  have HB : Hid (b = true ↔ GoodL l) := hb
  cases b with
  | false =>
    rw [pathA_bad (fun h => by have := hb.2 h; cases this)]
    clear hb
    go_enter Try.func36, Try.ntmps36
    repeat (first | (go_at_call 23; refine (end_of HB.out (implGood l _ lo hi _ ho hn hs)).mono ?_; rintro e w1 ⟨rfl, k1⟩; dsimp only) | go_values | go_skip | go_guarded | go_step | go_upon)
    go_ret
    exact ⟨rfl, k1⟩
  | true =>
    have hG := hb.1 rfl
    clear hb
    by_cases hr : 0 ≤ a ∧ a < l.length
    · obtain ⟨xs, hch, hxl, hxg⟩ := chain_of hG a (by omega) hr.2
      have q2 : (decide (0 ≤ a) && decide (a < (l.length : Int))) = true := by simp; omega
      have hxm : xs.length ≤ 1048576 := by omega
      have hxs := chain_names hG xs a hch
      have hne : xs ≠ [] := fun h => by rw [h] at hch; have : a = -1 := hch; omega
      rw [pathA_good hG hr.1 hch]
      go_enter Try.func36, Try.ntmps36
      repeat (first | (go_at_call 23; refine (end_of HB.out (implGood l _ lo hi _ ho hn hs)).mono ?_; rintro e w1 ⟨rfl, k1⟩; dsimp only) | (go_at_call 46; refine (hasNode _ _ _ _ _).mono ?_; rintro e w' ⟨rfl, rfl⟩; rw [q2]; dsimp only) | (go_at_call 63; refine (pathTo l _ a xs hch _ (ho.at.kept k1) hxs hxm).mono ?_; rintro e w2 ⟨rfl, k2⟩; dsimp only) | go_values | go_skip | go_guarded | go_step | go_upon)
      go_ret
      exact ⟨rfl, k1.trans k2⟩
    · have q2 : (decide (0 ≤ a) && decide (a < (l.length : Int))) = false := by simp; omega
      rw [pathA_out (fun h => hr h)]
      go_enter Try.func36, Try.ntmps36
      repeat (first | (go_at_call 23; refine (end_of HB.out (implGood l _ lo hi _ ho hn hs)).mono ?_; rintro e w1 ⟨rfl, k1⟩; dsimp only) | (go_at_call 46; refine (hasNode _ _ _ _ _).mono ?_; rintro e w' ⟨rfl, rfl⟩; rw [q2]; dsimp only) | go_values | go_skip | go_guarded | go_step | go_upon)
      go_ret
      exact ⟨rfl, k1⟩

set_option maxRecDepth 100000 in
set_option maxHeartbeats 4000000 in
theorem specPathOf (l : List NodeD) (v : Value) (lo hi : Nat) (a : Int) (w : World) (ho : NodeO w lo hi v l) (hn : l.length ≤ 1048576) (hs : ∀ p ∈ l, p.1.size ≤ 1048576) :
    Calls Try.prog 35 #[v, .int .i64 a] w fun e w' => e = .returned (.string (pathA l a)) ∧ Kept w w' := by
  obtain ⟨ao, cap, hsl, hcap⟩ := own_cap ho.1
  subst hsl
  obtain ⟨b, hb⟩ : ∃ b : Bool, (b = true ↔ GoodL l) := by
    by_cases h : GoodL l
    · exact ⟨true, by simp [h]⟩
    · exact ⟨false, by simp [h]⟩
  have HB : Hid (b = true ↔ GoodL l) := hb
  cases b with
  | false =>
    rw [pathA_bad (fun h => by have := hb.2 h; cases this)]
    clear hb
    go_enter Try.func35, Try.ntmps35
    repeat (first | (go_at_call 21; refine (end_of HB.out (specGood l _ lo hi _ ho hn hs)).mono ?_; rintro e w1 ⟨rfl, k1⟩; dsimp only) | go_values | go_skip | go_guarded | go_step | go_upon)
    go_ret
    exact ⟨rfl, k1⟩
  | true =>
    have hG := hb.1 rfl
    clear hb
    by_cases hr : 0 ≤ a ∧ a < l.length
    · obtain ⟨xs, hch, hxl, hxg⟩ := chain_of hG a (by omega) hr.2
      have q2 : inB a 0 ((l.length : Int) - 1) = true := by simp [inB]; omega
      have hxm : xs.length ≤ 1048576 := by omega
      have hxs := chain_names hG xs a hch
      have hne : xs ≠ [] := fun h => by rw [h] at hch; have : a = -1 := hch; omega
      rw [pathA_good hG hr.1 hch]
      go_enter Try.func35, Try.ntmps35
      repeat (first | (go_at_call 21; refine (end_of HB.out (specGood l _ lo hi _ ho hn hs)).mono ?_; rintro e w1 ⟨rfl, k1⟩; dsimp only) | (go_at_call 48; refine (l1In _ _ _ _).mono ?_; rintro e w' ⟨rfl, rfl⟩; rw [q2]; dsimp only) | (go_at_call 62; refine (l4Path l _ xs a _ hch hne (ho.at.kept k1) hxs hxm).mono ?_; rintro e w2 ⟨rfl, k2⟩; dsimp only) | go_values | go_skip | go_guarded | go_step | go_upon)
      go_ret
      exact ⟨rfl, k1.trans k2⟩
    · have q2 : inB a 0 ((l.length : Int) - 1) = false := by simp [inB]; omega
      rw [pathA_out (fun h => hr h)]
      go_enter Try.func35, Try.ntmps35
      repeat (first | (go_at_call 21; refine (end_of HB.out (specGood l _ lo hi _ ho hn hs)).mono ?_; rintro e w1 ⟨rfl, k1⟩; dsimp only) | (go_at_call 48; refine (l1In _ _ _ _).mono ?_; rintro e w' ⟨rfl, rfl⟩; rw [q2]; dsimp only) | go_values | go_skip | go_guarded | go_step | go_upon)
      go_ret
      exact ⟨rfl, k1⟩

set_option maxRecDepth 100000 in
set_option maxHeartbeats 4000000 in
theorem implFindNode (l : List NodeD) (v : Value) (lo hi : Nat) (p : ByteArray) (w : World) (ho : NodeO w lo hi v l) (hn : l.length ≤ 1048576) (hs : ∀ p ∈ l, p.1.size ≤ 1048576) :
    Calls Try.prog 34 #[v, .string p] w fun e w' => e = .returned (.int .i64 (findA l p)) ∧ Kept w w' := by
  obtain ⟨ao, cap, hsl, hcap⟩ := own_cap ho.1
  subst hsl
  obtain ⟨b, hb⟩ : ∃ b : Bool, (b = true ↔ GoodL l) := by
    by_cases h : GoodL l
    · exact ⟨true, by simp [h]⟩
    · exact ⟨false, by simp [h]⟩
  have HB : Hid (b = true ↔ GoodL l) := hb
  cases b with
  | false =>
    rw [findA_bad (fun h => by have := hb.2 h; cases this)]
    clear hb
    go_enter Try.func34, Try.ntmps34
    repeat (first | (go_at_call 23; refine (end_of HB.out (implGood l _ lo hi _ ho hn hs)).mono ?_; rintro e w1 ⟨rfl, k1⟩; dsimp only) | go_values | go_skip | go_guarded | go_step | go_upon)
    go_ret
    exact ⟨rfl, k1⟩
  | true =>
    have hG := hb.1 rfl
    clear hb
    go_enter Try.func34, Try.ntmps34
    repeat (first | (go_at_call 23; refine (end_of HB.out (implGood l _ lo hi _ ho hn hs)).mono ?_; rintro e w1 ⟨rfl, k1⟩; dsimp only) | go_values | go_skip | go_guarded | go_step | go_upon)
    go_loopw [5, 11] (fun _ i wr => ∃ k : Nat, k ≤ l.length ∧ i = .int .i64 k ∧ (∀ j : Nat, j < k → ((pathA l j).toList == p.toList) = false) ∧ Kept w wr) (fun _ i _ => l.length - (intOf i).toNat)
    case atStart => exact ⟨0, by omega, rfl, fun j hj => by omega, k1⟩
    case round =>
      obtain ⟨k, hk, rfl, hno, hkp⟩ := hrel
      by_cases hlt : k < l.length
      · obtain ⟨xs, hch, hxl, hxg⟩ := chain_of hG (k : Int) (by omega) (by omega)
        have hxm : xs.length ≤ 1048576 := by omega
        have hxs := chain_names hG xs (k : Int) hch
        have hne : xs ≠ [] := fun h => by rw [h] at hch; have : (k : Int) = -1 := hch; omega
        have hpa := pathA_good hG (by omega) hch
        obtain ⟨Q, hQ⟩ : ∃ Q, pathB (namesOf (rows xs).reverse) = Q := ⟨_, rfl⟩
        have HN : Hid (∀ j : Nat, j < k → ((pathA l j).toList == p.toList) = false) := hno
        have HK : Hid (Kept w wr) := hkp
        have HQ : Hid (pathA l (k : Int) = Q) := hpa.trans hQ
        have HC : Hid (pathB (namesOf (rows xs).reverse) = Q) := hQ
        clear hno hkp hpa hQ
        cases q : (Q.toList == p.toList) with
        | true =>
          repeat (first | (go_at_call 63; refine (pathTo l _ (k : Int) xs hch _ (ho.at.kept HK.out) hxs hxm).mono ?_; rintro e w2 ⟨rfl, k2⟩; rw [HC.out]; dsimp only) | go_values | go_skip | go_guarded | go_step | go_upon)
          go_ret
          refine ⟨?_, HK.out.trans k2⟩
          rw [findA_at hG hlt (by rw [HQ.out]; exact q) HN.out]
          rfl
        | false =>
          repeat (first | (go_at_call 63; refine (pathTo l _ (k : Int) xs hch _ (ho.at.kept HK.out) hxs hxm).mono ?_; rintro e w2 ⟨rfl, k2⟩; rw [HC.out]; dsimp only) | go_values | go_skip | go_guarded | go_step | go_upon)
          refine ⟨⟨k + 1, hlt, by go_num, fun j hj => ?_, HK.out.trans k2⟩, by simp [intOf]; omega⟩
          by_cases hjk : j = k
          · subst hjk
            rw [HQ.out]
            exact q
          · exact HN.out j (by omega)
      · have hke : k = l.length := by omega
        subst hke
        have HN : Hid (∀ j : Nat, j < l.length → ((pathA l j).toList == p.toList) = false) := hno
        clear hno
        repeat (first | go_values | go_skip | go_guarded | go_step | go_upon)
        go_ret
        refine ⟨?_, hkp⟩
        rw [findA_none hG HN.out]
        rfl

set_option maxRecDepth 100000 in
set_option maxHeartbeats 4000000 in
theorem specFindNode (l : List NodeD) (v : Value) (lo hi : Nat) (p : ByteArray) (w : World) (ho : NodeO w lo hi v l) (hn : l.length ≤ 1048576) (hs : ∀ p ∈ l, p.1.size ≤ 1048576) :
    Calls Try.prog 33 #[v, .string p] w fun e w' => e = .returned (.int .i64 (findA l p)) ∧ Kept w w' := by
  obtain ⟨ao, cap, hsl, hcap⟩ := own_cap ho.1
  subst hsl
  obtain ⟨b, hb⟩ : ∃ b : Bool, (b = true ↔ GoodL l) := by
    by_cases h : GoodL l
    · exact ⟨true, by simp [h]⟩
    · exact ⟨false, by simp [h]⟩
  have HB : Hid (b = true ↔ GoodL l) := hb
  cases b with
  | false =>
    rw [findA_bad (fun h => by have := hb.2 h; cases this)]
    clear hb
    go_enter Try.func33, Try.ntmps33
    repeat (first | (go_at_call 21; refine (end_of HB.out (specGood l _ lo hi _ ho hn hs)).mono ?_; rintro e w1 ⟨rfl, k1⟩; dsimp only) | go_values | go_skip | go_guarded | go_step | go_upon)
    go_ret
    exact ⟨rfl, k1⟩
  | true =>
    have hG := hb.1 rfl
    clear hb
    go_enter Try.func33, Try.ntmps33
    repeat (first | (go_at_call 21; refine (end_of HB.out (specGood l _ lo hi _ ho hn hs)).mono ?_; rintro e w1 ⟨rfl, k1⟩; dsimp only) | go_values | go_skip | go_guarded | go_step | go_upon)
    go_loopw [5, 11] (fun _ i wr => ∃ k : Nat, k ≤ l.length ∧ i = .int .i64 k ∧ (∀ j : Nat, j < k → ((pathA l j).toList == p.toList) = false) ∧ Kept w wr) (fun _ i _ => l.length - (intOf i).toNat)
    case atStart => exact ⟨0, by omega, rfl, fun j hj => by omega, k1⟩
    case round =>
      obtain ⟨k, hk, rfl, hno, hkp⟩ := hrel
      by_cases hlt : k < l.length
      · obtain ⟨xs, hch, hxl, hxg⟩ := chain_of hG (k : Int) (by omega) (by omega)
        have hxm : xs.length ≤ 1048576 := by omega
        have hxs := chain_names hG xs (k : Int) hch
        have hne : xs ≠ [] := fun h => by rw [h] at hch; have : (k : Int) = -1 := hch; omega
        have hpa := pathA_good hG (by omega) hch
        obtain ⟨Q, hQ⟩ : ∃ Q, pathB (namesOf (rows xs).reverse) = Q := ⟨_, rfl⟩
        have HN : Hid (∀ j : Nat, j < k → ((pathA l j).toList == p.toList) = false) := hno
        have HK : Hid (Kept w wr) := hkp
        have HQ : Hid (pathA l (k : Int) = Q) := hpa.trans hQ
        have HC : Hid (pathB (namesOf (rows xs).reverse) = Q) := hQ
        clear hno hkp hpa hQ
        cases q : (Q.toList == p.toList) with
        | true =>
          repeat (first | (go_at_call 62; refine (l4Path l _ xs (k : Int) _ hch hne (ho.at.kept HK.out) hxs hxm).mono ?_; rintro e w2 ⟨rfl, k2⟩; rw [HC.out]; dsimp only) | go_values | go_skip | go_guarded | go_step | go_upon)
          go_ret
          refine ⟨?_, HK.out.trans k2⟩
          rw [findA_at hG hlt (by rw [HQ.out]; exact q) HN.out]
          rfl
        | false =>
          repeat (first | (go_at_call 62; refine (l4Path l _ xs (k : Int) _ hch hne (ho.at.kept HK.out) hxs hxm).mono ?_; rintro e w2 ⟨rfl, k2⟩; rw [HC.out]; dsimp only) | go_values | go_skip | go_guarded | go_step | go_upon)
          refine ⟨⟨k + 1, hlt, by go_num, fun j hj => ?_, HK.out.trans k2⟩, by simp [intOf]; omega⟩
          by_cases hjk : j = k
          · subst hjk
            rw [HQ.out]
            exact q
          · exact HN.out j (by omega)
      · have hke : k = l.length := by omega
        subst hke
        have HN : Hid (∀ j : Nat, j < l.length → ((pathA l j).toList == p.toList) = false) := hno
        clear hno
        repeat (first | go_values | go_skip | go_guarded | go_step | go_upon)
        go_ret
        refine ⟨?_, hkp⟩
        rw [findA_none hG HN.out]
        rfl

end Go.Proofs.Ytcljppnakmeldaa
