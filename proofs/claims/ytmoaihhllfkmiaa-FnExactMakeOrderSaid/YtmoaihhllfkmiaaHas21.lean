/-
  Names among names.
-/
import Derived.Test.YtmoaihhllfkmiaaLeaf21n
import Derived.Test.YtmoaihhllfkmiaaTxt
import Derived.Test.YtmoaihhllfkmiaaQuiet
import Derived.WalkLawsBesides
namespace Go.Proofs.Ytmoaihhllfkmiaa
open Go.ChangeShapes Go.WideShapes Go.ChangeAt Go.RowKit

set_option maxRecDepth 100000
set_option linter.unusedVariables false
set_option linter.unusedSimpArgs false

set_option maxHeartbeats 2000000 in
theorem shas (ss : List ByteArray) (s : ByteArray) (v : Value) (w : World) (hv : TxtAt w v ss) (hn : ss.length ≤ 1048576) :
    Calls Try.prog 73 #[v, .string s] w fun e w' => e = .returned (.bool (hasB ss s)) ∧ Kept w w' := by
  obtain ⟨ao, cap, hsl⟩ := row_nil hv
  subst hsl
  have HIT : Hid (∀ (k : Nat) (q : ByteArray), ss[k]? = some q → (q.toList == s.toList) = true → hasB ss s = true) := fun _ _ => has_yes
  have NON : Hid ((∀ (k : Nat) (q : ByteArray), ss[k]? = some q → (q.toList == s.toList) = false) → hasB ss s = false) := has_no
  generalize hasB ss s = R at *
  go_enter Try.func73, Try.ntmps73
  go_wp2
  go_loopw [9] (fun i wr => ∃ (k : Nat), k ≤ ss.length ∧ i = .int .i64 k ∧ Hid (∀ (j : Nat) (q : ByteArray), j < k → ss[j]? = some q → (q.toList == s.toList) = false) ∧ Kept w wr) (fun i _ => ss.length - (intOf i).toNat)
  case atStart => exact ⟨0, by omega, rfl, fun j q hj => by omega, But.refl _ _ _⟩
  case round =>
    obtain ⟨k, hk, rfl, HB, hkp⟩ := hrel
    by_cases hlt : k < ss.length
    · obtain ⟨d, hd⟩ : ∃ p, ss[k]? = some p := ⟨_, List.getElem?_eq_getElem hlt⟩
      obtain ⟨b, o, cap', e, c0⟩ := txt_get (hv.kept hkp) hd
      cases e
      have HP : Hid (ss[k]? = some d) := hd
      have HK : Hid (Kept w wr) := hkp
      clear hd hkp hv
      cases q : (d.toList == s.toList) with
      | true =>
        have hR := HIT.out k _ HP.out q
        subst hR
        go_wp2
        go_ret
        exact ⟨rfl, HK.out⟩
      | false =>
        have HQ : Hid ((d.toList == s.toList) = false) := q
        go_wp2
        refine ⟨⟨k + 1, hlt, by go_num, fun j r hj hr => ?_, HK.out⟩, by simp [intOf]; omega⟩
        by_cases e : j = k
        · subst e
          rw [HP.out] at hr
          cases hr
          exact HQ.out
        · exact HB.out j r (by omega) hr
    · have hke : k = ss.length := by omega
      subst hke
      have hR := NON.out (fun j q hq => HB.out j q (List.getElem?_eq_some_iff.1 hq).1 hq)
      subst hR
      go_wp2
      go_ret
      exact ⟨rfl, hkp⟩
theorem beq_swap (a b : List UInt8) : (a == b) = (b == a) := by
  rw [Bool.eq_iff_iff, beq_iff_eq, beq_iff_eq]
  exact eq_comm
set_option maxHeartbeats 2000000 in
theorem iindex (ss : List ByteArray) (s : ByteArray) (v : Value) (w : World) (hv : TxtAt w v ss) (hn : ss.length ≤ 1048576) :
    Calls Try.prog 111 #[v, .string s] w fun e w' => (∃ r : Int, e = .returned (.int .i64 r) ∧ decide (0 ≤ r) = hasB ss s) ∧ Kept w w' := by
  obtain ⟨ao, cap, hsl⟩ := row_nil hv
  subst hsl
  have HIT : Hid (∀ (k : Nat) (q : ByteArray), ss[k]? = some q → (q.toList == s.toList) = true → hasB ss s = true) := fun _ _ => has_yes
  have NON : Hid ((∀ (k : Nat) (q : ByteArray), ss[k]? = some q → (q.toList == s.toList) = false) → hasB ss s = false) := has_no
  generalize hasB ss s = R at *
  go_enter Try.func111, Try.ntmps111
  go_wp2
  go_loopw [8] (fun i wr => ∃ (k : Nat), k ≤ ss.length ∧ i = .int .i64 k ∧ Hid (∀ (j : Nat) (q : ByteArray), j < k → ss[j]? = some q → (q.toList == s.toList) = false) ∧ Kept w wr) (fun i _ => ss.length - (intOf i).toNat)
  case atStart => exact ⟨0, by omega, rfl, fun j q hj => by omega, But.refl _ _ _⟩
  case round =>
    obtain ⟨k, hk, rfl, HB, hkp⟩ := hrel
    by_cases hlt : k < ss.length
    · obtain ⟨d, hd⟩ : ∃ p, ss[k]? = some p := ⟨_, List.getElem?_eq_getElem hlt⟩
      obtain ⟨b, o, cap', e, c0⟩ := txt_get (hv.kept hkp) hd
      cases e
      have HP : Hid (ss[k]? = some d) := hd
      have HK : Hid (Kept w wr) := hkp
      have z0 : (0 : Int) ≤ (k : Int) := by omega
      have z1 : (k : Int) < (ss.length : Int) := by omega
      clear hd hkp hv
      cases q : (d.toList == s.toList) with
      | true =>
        have hR := HIT.out k _ HP.out q
        subst hR
        have q2 : (s.toList == d.toList) = true := by rw [beq_swap]; exact q
        clear q
        go_wp2
        go_ret
        exact ⟨⟨_, rfl, by first | omega | (simp; omega)⟩, HK.out⟩
      | false =>
        have HQ : Hid ((d.toList == s.toList) = false) := q
        have q2 : (s.toList == d.toList) = false := by rw [beq_swap]; exact q
        clear q
        go_wp2
        refine ⟨⟨k + 1, hlt, by go_num, fun j r hj hr => ?_, HK.out⟩, by simp [intOf]; omega⟩
        by_cases e : j = k
        · subst e
          rw [HP.out] at hr
          cases hr
          exact HQ.out
        · exact HB.out j r (by omega) hr
    · have hke : k = ss.length := by omega
      subst hke
      have hR := NON.out (fun j q hq => HB.out j q (List.getElem?_eq_some_iff.1 hq).1 hq)
      subst hR
      go_wp2
      go_ret
      exact ⟨⟨_, rfl, by decide⟩, hkp⟩
theorem icont (ss : List ByteArray) (s : ByteArray) (v : Value) (w : World) (hv : TxtAt w v ss) (hn : ss.length ≤ 1048576) :
    Calls Try.prog 72 #[v, .string s] w fun e w' => e = .returned (.bool (hasB ss s)) ∧ Kept w w' := by
  obtain ⟨ao, cap, hsl⟩ := row_nil hv
  subst hsl
  have HX : Hid (Calls Try.prog 111 #[.slice ao ss.length cap, .string s] w fun e w' => (∃ r : Int, e = .returned (.int .i64 r) ∧ decide (0 ≤ r) = hasB ss s) ∧ Kept w w') := iindex ss s _ w hv hn
  generalize hasB ss s = R at *
  clear hv
  go_enter Try.func72, Try.ntmps72
  repeat (first | go_values | go_skip | go_guarded | go_step | go_upon)
  go_at_call 111
  with_reducible refine HX.out.mono ?_
  rintro e w1 ⟨⟨r, rfl, hr⟩, k1⟩
  subst hr
  dsimp only
  repeat (first | go_values | go_skip | go_guarded | go_step | go_upon)
  go_ret
  exact ⟨rfl, k1⟩
set_option maxHeartbeats 2000000 in
theorem sat21 (l : List AssetE) (s : ByteArray) (v : Value) (w : World) (hv : AssetAt w v l) (hn : l.length ≤ 1048576) :
    Calls Try.prog 56 #[v, .string s] w fun e w' => (∃ r : Int, e = .returned (.int .i64 r) ∧ decide (r < 0) = !hasB (namesA l) s) ∧ Kept w w' := by
  obtain ⟨ao, cap, hsl⟩ := row_nil hv.1
  subst hsl
  have HIT : Hid (∀ (k : Nat) (q : AssetE), l[k]? = some q → (q.1.toList == s.toList) = true → hasB (namesA l) s = true) := fun _ _ h => has_yes (namesA_get h)
  have NON : Hid ((∀ (k : Nat) (q : AssetE), l[k]? = some q → (q.1.toList == s.toList) = false) → hasB (namesA l) s = false) := fun h => has_no fun k q hq => by
    unfold namesA at hq
    rw [List.getElem?_map, Option.map_eq_some_iff] at hq
    obtain ⟨d, hd, rfl⟩ := hq
    exact h k d hd
  generalize hasB (namesA l) s = R at *
  go_enter Try.func56, Try.ntmps56
  go_wp2
  go_loopw [9] (fun i wr => ∃ (k : Nat), k ≤ l.length ∧ i = .int .i64 k ∧ Hid (∀ (j : Nat) (q : AssetE), j < k → l[j]? = some q → (q.1.toList == s.toList) = false) ∧ Kept w wr) (fun i _ => l.length - (intOf i).toNat)
  case atStart => exact ⟨0, by omega, rfl, fun j q hj => by omega, But.refl _ _ _⟩
  case round =>
    obtain ⟨k, hk, rfl, HB, hkp⟩ := hrel
    by_cases hlt : k < l.length
    · obtain ⟨d, hd⟩ : ∃ p, l[k]? = some p := ⟨_, List.getElem?_eq_getElem hlt⟩
      obtain ⟨b, o, cap', e, c0, c1, c2, hpt, hpb⟩ := asset_get (hv.kept hkp) hd
      cases e
      have HP : Hid (l[k]? = some d) := hd
      have HK : Hid (Kept w wr) := hkp
      obtain ⟨d0, ⟨d1, t1⟩, ⟨d2, t2⟩⟩ := d
      dsimp only at c0 c1 c2 hpt hpb
      obtain ⟨a1, p1, hs1⟩ := row_nil hpt
      subst hs1
      obtain ⟨a2, p2, hs2⟩ := row_nil hpb
      subst hs2
      have hgw : b < wr.heap.size := World.block_lt_of_cell? _ _ c0
      clear hd hkp hv hpt hpb
      cases q : (d0.toList == s.toList) with
      | true =>
        have hR := HIT.out k _ HP.out q
        subst hR
        go_wp2
        go_ret
        exact ⟨⟨_, rfl, by first | omega | (simp; omega)⟩, HK.out.alloc _⟩
      | false =>
        have HQ : Hid ((d0.toList == s.toList) = false) := q
        go_wp2
        refine ⟨⟨k + 1, hlt, by go_num, fun j r hj hr => ?_, HK.out.alloc _⟩, by simp [intOf]; omega⟩
        by_cases e : j = k
        · subst e
          rw [HP.out] at hr
          cases hr
          exact HQ.out
        · exact HB.out j r (by omega) hr
    · have hke : k = l.length := by omega
      subst hke
      have hR := NON.out (fun j q hq => HB.out j q (List.getElem?_eq_some_iff.1 hq).1 hq)
      subst hR
      go_wp2
      go_ret
      exact ⟨⟨_, rfl, by decide⟩, hkp⟩
set_option maxHeartbeats 4000000 in
theorem snm3 (ss : List ByteArray) (m : Nat) (v : Value) (w : World) (hv : TxtAt w v ss) (hm : m ≤ 1000) (hn : ss.length ≤ 1048576) (hs : ∀ p ∈ ss, p.size ≤ 1048576) :
    Calls Try.prog 55 #[v, .int .i64 (m : Int)] w fun e w' => e = .returned (.bool (decide (KeysP m ss))) ∧ Kept w w' := by
  obtain ⟨ao, cap, hsl⟩ := row_nil hv
  subst hsl
  have NO : Hid (¬ KeysP m ss → decide (KeysP m ss) = false) := decide_eq_false
  have YES : Hid (KeysP m ss → decide (KeysP m ss) = true) := decide_eq_true
  generalize decide (KeysP m ss) = R at *
  by_cases h2 : m < ss.length
  · have hd2 : decide ((m : Int) < (ss.length : Int)) = true := decide_eq_true (by omega)
    rw [NO.out fun h => by have := h.1; omega]
    go_enter Try.func55, Try.ntmps55
    repeat (first | go_values | go_skip | go_guarded | go_step | go_upon)
    go_ret
    exact ⟨rfl, But.refl _ _ _⟩
  have hd2 : decide ((m : Int) < (ss.length : Int)) = false := decide_eq_false (by omega)
  go_enter Try.func55, Try.ntmps55
  repeat (first | go_values | go_skip | go_guarded | go_step | go_upon)
  clear hd2
  go_loopw [13] (fun i wr => ∃ (k : Nat), k ≤ ss.length ∧ i = .int .i64 k ∧ Hid (∀ j, j < k → KeyOk ss j) ∧ Kept w wr) (fun i _ => ss.length - (intOf i).toNat)
  case atStart => exact ⟨0, by omega, rfl, fun j hj => by omega, But.refl _ _ _⟩
  case round =>
    obtain ⟨k, hk, rfl, HB, hkp⟩ := hrel
    by_cases hlt : k < ss.length
    · obtain ⟨d, hd⟩ : ∃ p, ss[k]? = some p := ⟨_, List.getElem?_eq_getElem hlt⟩
      obtain ⟨b, o, cap', e, c0⟩ := txt_get (hv.kept hkp) hd
      cases e
      have HV : Hid (TxtAt wr (.slice (some ⟨b, o, none⟩) ss.length cap) ss) := hv.kept hkp
      have HP : Hid (ss[k]? = some d) := hd
      have HSZ : Hid (d.size ≤ 1048576) := hs d (List.mem_of_getElem? hd)
      have NJ : Hid (¬ KeyOk ss k → R = false) := fun h => NO.out fun h' => h (h'.2 k hlt)
      have HK : Hid (Kept w wr) := hkp
      have z0 : (0 : Int) ≤ (k : Int) := by omega
      have z1 : (k : Int) < (ss.length : Int) := by omega
      have AN : Hid (∀ W, Calls Try.prog 51 #[.string d] W fun e w' => e = .returned (.bool (nameB d)) ∧ w' = W) := fun W => sname d W HSZ.out
      clear hd hkp hv hs
      cases q1 : nameB d with
      | false =>
        have hR := NJ.out (fun h => key_no HP.out q1 h)
        subst hR
        rw [q1] at AN
        repeat (first | (go_at_call 51; with_reducible refine (AN.out _).mono ?_; rintro e w3 ⟨rfl, hw3⟩; rw [hw3]; clear hw3 w3; dsimp only) | go_values | go_skip | go_guarded | go_step | go_upon)
        go_ret
        exact ⟨rfl, HK.out⟩
      | true =>
        rw [q1] at AN
        by_cases h0 : 0 < k
        · obtain ⟨a, hq⟩ : ∃ r, ss[k - 1]? = some r := ⟨_, List.getElem?_eq_getElem (by omega)⟩
          obtain ⟨bb2, o2, cap2, e2, r0⟩ := txt_get HV.out hq
          cases e2
          have HO : Hid (KeyOk ss k ↔ Op.bytesLess a.toList d.toList = true) := key_next HP.out q1 (show k = k - 1 + 1 by omega) hq
          have dk : decide ((0 : Int) < (k : Int)) = true := by simp; omega
          have y1' : (0 : Int) ≤ (k : Int) - 1 := by omega
          have y2' : (k : Int) - 1 < (ss.length : Int) := by omega
          clear hq
          cases q3 : Op.bytesLess a.toList d.toList with
          | false =>
            have hR := NJ.out (fun h => by have := HO.out.1 h; rw [q3] at this; cases this)
            subst hR
            clear HO
            repeat (first | (go_at_call 51; with_reducible refine (AN.out _).mono ?_; rintro e w3 ⟨rfl, hw3⟩; rw [hw3]; clear hw3 w3; dsimp only) | go_values | go_skip | go_guarded | go_step | go_upon)
            go_ret
            exact ⟨rfl, HK.out⟩
          | true =>
            have HOK : Hid (KeyOk ss k) := HO.out.2 q3
            clear HO
            repeat (first | (go_at_call 51; with_reducible refine (AN.out _).mono ?_; rintro e w3 ⟨rfl, hw3⟩; rw [hw3]; clear hw3 w3; dsimp only) | go_values | go_skip | go_guarded | go_step | go_upon)
            exact ⟨⟨k + 1, hlt, by go_num, all_more HB.out HOK.out, HK.out⟩, by simp [intOf]; omega⟩
        · have HOK : Hid (KeyOk ss k) := key_first HP.out q1 h0
          have hk0 : k = 0 := by omega
          subst hk0
          rw [Nat.add_zero] at c0
          clear h0
          repeat (first | (go_at_call 51; with_reducible refine (AN.out _).mono ?_; rintro e w3 ⟨rfl, hw3⟩; rw [hw3]; clear hw3 w3; dsimp only) | go_values | go_skip | go_guarded | go_step | go_upon)
          exact ⟨⟨0 + 1, hlt, by go_num, all_more HB.out HOK.out, HK.out⟩, by simp [intOf]; omega⟩
    · have hke : k = ss.length := by omega
      subst hke
      have hR := YES.out ⟨by omega, HB.out⟩
      subst hR
      repeat (first | go_values | go_skip | go_guarded | go_step | go_upon)
      go_ret
      exact ⟨rfl, hkp⟩

end Go.Proofs.Ytmoaihhllfkmiaa
