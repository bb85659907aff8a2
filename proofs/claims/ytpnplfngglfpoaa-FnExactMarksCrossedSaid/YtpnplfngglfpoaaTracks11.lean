/-
  Whether tracks are good, as the program says it.
-/
import Derived.Test.YtpnplfngglfpoaaGoodP11
import Derived.Test.YtpnplfngglfpoaaGoodK11
import Derived.WalkLawsBesides
namespace Go.Proofs.Ytpnplfngglfpoaa
open Go.ChangeShapes Go.WideShapes Go.ChangeAt Go.RowKit

set_option maxRecDepth 100000
set_option linter.unusedVariables false

set_option maxHeartbeats 4000000 in
theorem itracks (b : Int) (ds : List TrackD) (v : Value) (w : World) (hv : TrsAt w v ds) (hb : b ≤ 60) (hn : ds.length ≤ 1048576) (hs : ∀ d ∈ ds, d.1.size ≤ 1048576 ∧ d.2.length ≤ 1048576) :
    Calls Try.prog 65 #[v, .int .i64 b] w fun e w' => e = .returned (.bool (decide (TrksP b ds))) ∧ Kept w w' := by
  obtain ⟨ao, cap, hsl⟩ := hv.form
  subst hsl
  by_cases hc : 8 < ds.length
  · have d : decide (8 < (ds.length : Int)) = true := by simp; omega
    go_enter Try.func65, Try.ntmps65
    go_wp2
    go_ret
    exact ⟨ret_boolG (decide_eq_false (fun h => by have := h.1; omega)).symm, But.refl _ _ _⟩
  have d : decide (8 < (ds.length : Int)) = false := by simp; omega
  go_enter Try.func65, Try.ntmps65
  go_wp2
  go_loopw [5, 13] (fun la i wr => ∃ (k : Nat) (s : ByteArray), k ≤ ds.length ∧ la = .string s ∧ i = .int .i64 k ∧ Hid ((∀ j, j < k → TrkOk b ds j) ∧ LastT ds k s) ∧ Kept w wr) (fun _ i _ => ds.length - (intOf i).toNat)
  case atStart => exact ⟨0, ⟨#[]⟩, by omega, rfl, rfl, (⟨fun j hj => by omega, fun _ => rfl, fun j a hj => by omega⟩ : (∀ j, j < 0 → TrkOk b ds j) ∧ LastT ds 0 ⟨#[]⟩), But.refl _ _ _⟩
  case round =>
    obtain ⟨j, s, hk, rfl, rfl, HB, hkp⟩ := hrel
    by_cases hlt : j < ds.length
    · obtain ⟨p, hp⟩ : ∃ p, ds[j]? = some p := ⟨_, List.getElem?_eq_getElem hlt⟩
      obtain ⟨bb, o, cap', sv, e, c0, c1, hka⟩ := (hv.kept hkp).get hp
      cases e
      have hsz := hs p (List.mem_of_getElem? hp)
      obtain ⟨nm, ks⟩ := p
      dsimp only at c0 c1 hka hsz
      obtain ⟨a3, p3, hsl⟩ := row_nil hka
      subst hsl
      have HKA : Hid (KeyAt wr (.slice a3 ks.length p3) ks) := hka
      have HK : Hid (Kept w wr) := hkp
      have HP : Hid (ds[j]? = some (nm, ks)) := hp
      have NO : Hid (¬ TrkOk b ds j → decide (TrksP b ds) = false) := fun h => decide_eq_false (fun h' => h (h'.2 j hlt))
      have HI : Hid (nameB nm = true → (TrkOk b ds j ↔ (Op.bytesLess nm.toList s.toList = false ∧ (nm.toList == s.toList) = false) ∧ KeysP b ks)) := fun hn => trk_iff hp HB.out.2 hn
      have hgw : bb < wr.heap.size := World.block_lt_of_cell? _ _ c0
      clear hka hkp hp
      have arm1 : ∀ (x : Bool), nameB nm = x → ∀ W, Calls Try.prog 93 #[.string nm] W fun e w' => e = .returned (.bool x) ∧ w' = W := fun x hx W => by rw [← hx]; exact iname nm W hsz.1
      have IKA : Hid (∀ W, Kept wr W → Calls Try.prog 54 #[.slice a3 ks.length p3, .int .i64 b] W fun e w' => e = .returned (.bool (decide (KeysP b ks))) ∧ Kept W w') := fun W k => ikeys b ks _ W (HKA.out.kept k) hb (by omega)
      cases q1 : nameB nm with
      | false =>
        have A1 : Hid (∀ W, Calls Try.prog 93 #[.string nm] W fun e w' => e = .returned (.bool false) ∧ w' = W) := arm1 _ q1
        clear arm1
        repeat (first | (go_at_call 93; refine (A1.out _).mono ?_; rintro e w3 ⟨rfl, hw3⟩; rw [hw3]; clear hw3; dsimp only) | go_values | go_skip | go_guarded | go_step | go_upon)
        go_ret
        exact ⟨ret_boolG (NO.out (fun h => by have := (h _ HP.out).1; dsimp only at this; rw [q1] at this; exact absurd this (by simp))).symm, HK.out.alloc _⟩
      | true =>
        have A1 : Hid (∀ W, Calls Try.prog 93 #[.string nm] W fun e w' => e = .returned (.bool true) ∧ w' = W) := arm1 _ q1
        have hif := HI.out q1
        clear arm1
        cases q2 : Op.bytesLess nm.toList s.toList with
        | true =>
          repeat (first | (go_at_call 93; refine (A1.out _).mono ?_; rintro e w3 ⟨rfl, hw3⟩; rw [hw3]; clear hw3; dsimp only) | go_values | go_skip | go_guarded | go_step | go_upon)
          go_ret
          exact ⟨ret_boolG (NO.out (fun h => by have := ((HI.out q1).1 h).1.1; rw [q2] at this; exact absurd this (by simp))).symm, HK.out.alloc _⟩
        | false =>
          cases q3 : (nm.toList == s.toList) with
          | true =>
            repeat (first | (go_at_call 93; refine (A1.out _).mono ?_; rintro e w3 ⟨rfl, hw3⟩; rw [hw3]; clear hw3; dsimp only) | go_values | go_skip | go_guarded | go_step | go_upon)
            go_ret
            exact ⟨ret_boolG (NO.out (fun h => by have := ((HI.out q1).1 h).1.2; rw [q3] at this; exact absurd this (by simp))).symm, HK.out.alloc _⟩
          | false =>
            rcases (Classical.em (KeysP b ks)).symm with q4 | q4
            · rw [decide_eq_false q4] at IKA
              repeat (first | (go_at_call 93; refine (A1.out _).mono ?_; rintro e w3 ⟨rfl, hw3⟩; rw [hw3]; clear hw3; dsimp only) | (go_at_call 54; refine (IKA.out _ ((But.refl _ _ _).alloc _)).mono ?_; rintro e w4 ⟨rfl, k4⟩; dsimp only) | go_values | go_skip | go_guarded | go_step | go_upon)
              go_ret
              exact ⟨ret_boolG (NO.out (fun h => q4 ((HI.out q1).1 h).2)).symm, (HK.out.alloc _).trans k4⟩
            · rw [decide_eq_true q4] at IKA
              have ok : Hid (TrkOk b ds j) := (HI.out q1).2 ⟨⟨q2, q3⟩, q4⟩
              clear hif
              repeat (first | (go_at_call 93; refine (A1.out _).mono ?_; rintro e w3 ⟨rfl, hw3⟩; rw [hw3]; clear hw3; dsimp only) | (go_at_call 54; refine (IKA.out _ ((But.refl _ _ _).alloc _)).mono ?_; rintro e w4 ⟨rfl, k4⟩; have f0 := Kept.cell k4 ((Loc.new wr [.string nm, .slice a3 ks.length p3] 95).cell 0 rfl); dsimp only) | go_values | go_skip | go_guarded | go_step | go_upon)
              have I : (∀ i, i < j + 1 → TrkOk b ds i) ∧ LastT ds (j + 1) nm := ⟨all_more HB.out.1 ok.out, last_trk HP.out⟩
              exact ⟨⟨j + 1, nm, hlt, rfl, by go_num, I, (HK.out.alloc _).trans k4⟩, by simp [intOf]; omega⟩
    · have hke : j = ds.length := by omega
      subst hke
      go_wp2
      go_ret
      exact ⟨ret_boolG (decide_eq_true ⟨by omega, HB.out.1⟩).symm, hkp⟩

end Go.Proofs.Ytpnplfngglfpoaa
