/-
  A number laid into a rising list that is owned, in the specification.
-/
import Derived.Test.YthkfpbknfjapaaaPutP17
import Derived.Test.YthkfpbknfjapaaaApp17
namespace Go.Proofs.Ythkfpbknfjapaaa
open Go.ChangeShapes Go.WideShapes Go.ChangeAt Go.RowKit

set_option maxRecDepth 100000
set_option linter.unusedVariables false

set_option maxHeartbeats 4000000 in
theorem sputO (l : List Int) (x : Int) (ao : Option Addr) (cap : Nat) (w : World) (lo hi : Nat) (ho0 : NumO w lo hi (.slice ao l.length cap) l) (hlo : lo ≤ w.heap.size) (hcap : l.length ≤ cap ∧ cap ≤ 9223372036854775807) (hn : l.length ≤ 1000000) :
    Calls Try.prog 92 #[.slice ao l.length cap, .int .i64 x] w fun e w' => ∃ ao' cap', e = .returned (.slice ao' (putL l x).length cap') ∧ NumO w' lo w'.heap.size (.slice ao' (putL l x).length cap') (putL l x) ∧ ((putL l x).length ≤ cap' ∧ cap' ≤ 9223372036854775807) ∧ Kept w w' := by
  have hv := ho0.at
  have HO0 : Hid (NumO w lo hi (.slice ao l.length cap) l) := ho0
  have HLO : Hid (lo ≤ w.heap.size) := hlo
  clear ho0 hlo
  obtain ⟨hc1, hc2⟩ := hcap
  go_enter Try.func92, Try.ntmps92
  repeat (first | go_values | go_skip | go_guarded | go_step | go_upon)
  go_loopw [5] (fun i wr => ∃ (k : Nat), k ≤ l.length ∧ i = .int .i64 k ∧ Hid (∀ j y, j < k → l[j]? = some y → y < x) ∧ Kept w wr) (fun i _ => l.length - (intOf i).toNat)
  case atStart => exact ⟨0, by omega, rfl, fun j y hj => by omega, But.refl _ _ _⟩
  case round =>
    obtain ⟨k, hk, rfl, HB, hkp⟩ := hrel
    have hkc : k ≤ cap := by omega
    by_cases hlt : k < l.length
    · obtain ⟨p, hp⟩ : ∃ p : Int, l[k]? = some p := ⟨_, List.getElem?_eq_getElem hlt⟩
      obtain ⟨g, o, cap1, ee, c0⟩ := num_get (hv.kept hkp) hp
      cases ee
      have HP : Hid (l[k]? = some p) := hp
      have HK : Hid (Kept w wr) := hkp
      have dl : decide (k < l.length) = true := decide_eq_true hlt
      clear hp hkp
      by_cases hpx : p < x
      · clear hv
        have dp : decide (p < x) = true := decide_eq_true hpx
        repeat (first | go_values | go_skip | go_guarded | go_step | go_upon)
        exact ⟨⟨k + 1, hlt, by go_num, (fun j y hj hy => by
          by_cases e : j = k
          · subst e
            rw [HP.out] at hy
            cases hy
            exact hpx
          · exact HB.out j y (by omega) hy), HK.out⟩, by simp [intOf]; omega⟩
      · have dp : decide (p < x) = false := decide_eq_false hpx
        have hlow : lowN l x = k := low_of x l k HB.out hk (fun y hy => by rw [HP.out] at hy; cases hy; exact hpx)
        by_cases hpe : p = x
        · have de : (p == x) = true := by simp [hpe]
          have HR : Hid (putL l x = l) := put_there x l (by rw [hlow, HP.out, hpe])
          clear hlow hpe
          repeat (first | go_values | go_skip | go_guarded | go_step | go_upon)
          go_ret
          rw [HR.out]
          exact ⟨_, _, rfl, (HO0.out.kept HK.out).low, ⟨hc1, hc2⟩, HK.out⟩
        · have de : (p == x) = false := by simp [hpe]
          have HR : Hid (putL l x = l.take k ++ [x] ++ l.drop k) := by
            show _ = _
            rw [put_new x l (by rw [hlow, HP.out]; simpa using hpe), hlow]
          clear hlow hpe
          have hv1 := hv.kept HK.out
          obtain ⟨aoD, hD⟩ : ∃ a : Option Addr, (if cap = k then (some ⟨g, o, none⟩ : Option Addr) else (some ⟨g, o, none⟩ : Option Addr).map (·.add k)) = a := ⟨_, rfl⟩
          have hsl : ∀ W, (Instr.slice 39 (.slice (some ⟨g, o, none⟩) l.length cap) (some (.int .i64 (k : Int))) none none).run Try.prog W = .ok (.slice aoD (l.length - k) (cap - k)) W := fun W => by
            rw [slice_from W _ l.length cap k hk, hD]
          obtain ⟨A1, hA1⟩ : ∃ A, l.take k = A := ⟨_, rfl⟩
          obtain ⟨A3, hA3⟩ : ∃ A, l.drop k = A := ⟨_, rfl⟩
          have HT : Hid (∀ u, Kept wr u → NumAt u (.slice (some ⟨g, o, none⟩) k cap) A1) := fun u hu => by rw [← hA1]; exact takeNum (hv1.kept hu) k hk
          have HDR : Hid (∀ u, Kept wr u → NumAt u (.slice aoD (l.length - k) (cap - k)) A3) := fun u hu => by
            have := dropNum (hv1.kept hu) k hk hc1
            rw [hD, hA3] at this
            exact this
          rw [hA1, hA3] at HR
          have HL1 : Hid (A1.length = k) := by show _ = _; rw [← hA1, List.length_take]; omega
          have HL3 : Hid (A3.length = l.length - k) := by show _ = _; rw [← hA3, List.length_drop]
          have z0 : (0 : Int) ≤ (k : Int) := by omega
          have z1 : (k : Int) ≤ (cap : Int) := by omega
          have z2 : (k : Int) ≤ (l.length : Int) := by omega
          clear hv hv1 hD hA1 hA3
          repeat (first | (at_builtin; refine forgetL (fun w' => w' = _) rfl ?_) | go_values | go_skip | go_guarded | go_step | go_upon)
          intro W7 hW7
          rw [hW7]
          clear hW7 W7
          refine app_num rfl _ _ rfl (lo := wr.heap.size) (hi := wr.heap.size) rfl (nil_num _ _ _) rfl (HT.out _ (But.refl _ _ _)) HL1.out.symm (by have := HL1.out; simp; omega) (by omega) ?_
          intro v1 w1 o1 b1
          simp only [List.nil_append] at o1
          obtain ⟨a1, p1, hf⟩ := o1.form
          subst hf
          have k1 : Kept wr w1 := But.fresh b1 (Nat.le_refl _)
          have s1 := k1.size
          repeat (first | (at_builtin; refine forgetL (fun w' => w' = _) rfl ?_) | go_values | go_skip | go_guarded | go_step | go_upon)
          intro W7 hW7
          rw [hW7]
          clear hW7 W7
          refine app_num rfl _ _ rfl (lo := wr.heap.size) (hi := w1.heap.size) rfl (o1.kept ((But.refl _ _ w1).alloc _)) rfl (one_num (p := x) (Loc.new w1 [.int .i64 x] 3)) rfl (by have := HL1.out; simp; omega) (by simp; omega) ?_
          intro v2 w2 o2 b2
          obtain ⟨A2, hA2⟩ : ∃ A, A1 ++ [x] = A := ⟨_, rfl⟩
          rw [hA2] at o2 HR
          have HL2 : Hid (A2.length = k + 1) := by show _ = _; rw [← hA2, List.length_append, HL1.out]; rfl
          clear hA2
          obtain ⟨a2, p2, hf⟩ := o2.form
          subst hf
          have k2 : Kept wr w2 := But.onto (k1.alloc _) b2 (Nat.le_refl _)
          have s2 := k2.size
          repeat (first | (at_builtin; refine forgetL (fun w' => w' = _) rfl ?_) | go_values | go_skip | go_guarded | go_step | go_upon)
          intro W7 hW7
          rw [hW7]
          clear hW7 W7
          refine app_num rfl _ _ rfl (lo := wr.heap.size) (hi := w2.heap.size) rfl o2 rfl (HDR.out _ k2) HL3.out.symm (by have := HL2.out; have := HL3.out; omega) (by omega) ?_
          intro v3 w3 o3 b3
          obtain ⟨A4, hA4⟩ : ∃ A, A2 ++ A3 = A := ⟨_, rfl⟩
          rw [hA4] at o3 HR
          obtain ⟨a3, p3, hf⟩ := o3.form
          subst hf
          have k3 : Kept wr w3 := But.onto k2 b3 (Nat.le_refl _)
          repeat (first | go_values | go_skip | go_guarded | go_step | go_upon)
          go_ret
          rw [HR.out]
          exact ⟨_, _, rfl, o3.mono (by have := HK.out.size; have := HLO.out; omega) (Nat.le_refl _), cap_num o3, HK.out.trans k3⟩
    · have hke : k = l.length := by omega
      have hlow : lowN l x = k := low_of x l k HB.out hk (fun y hy => by rw [List.getElem?_eq_none (by omega)] at hy; cases hy)
      have HR : Hid (putL l x = l.take k ++ [x] ++ l.drop k) := by
        show _ = _
        rw [put_new x l (by rw [hlow, List.getElem?_eq_none (by omega)]; simp), hlow]
      have HK : Hid (Kept w wr) := hkp
      have dl : decide (k < l.length) = false := decide_eq_false hlt
      clear hlow hkp hke
      have hv1 := hv.kept HK.out
      obtain ⟨aoD, hD⟩ : ∃ a : Option Addr, (if cap = k then (ao : Option Addr) else (ao : Option Addr).map (·.add k)) = a := ⟨_, rfl⟩
      have hsl : ∀ W, (Instr.slice 39 (.slice (ao) l.length cap) (some (.int .i64 (k : Int))) none none).run Try.prog W = .ok (.slice aoD (l.length - k) (cap - k)) W := fun W => by
        rw [slice_from W _ l.length cap k hk, hD]
      obtain ⟨A1, hA1⟩ : ∃ A, l.take k = A := ⟨_, rfl⟩
      obtain ⟨A3, hA3⟩ : ∃ A, l.drop k = A := ⟨_, rfl⟩
      have HT : Hid (∀ u, Kept wr u → NumAt u (.slice (ao) k cap) A1) := fun u hu => by rw [← hA1]; exact takeNum (hv1.kept hu) k hk
      have HDR : Hid (∀ u, Kept wr u → NumAt u (.slice aoD (l.length - k) (cap - k)) A3) := fun u hu => by
        have := dropNum (hv1.kept hu) k hk hc1
        rw [hD, hA3] at this
        exact this
      rw [hA1, hA3] at HR
      have HL1 : Hid (A1.length = k) := by show _ = _; rw [← hA1, List.length_take]; omega
      have HL3 : Hid (A3.length = l.length - k) := by show _ = _; rw [← hA3, List.length_drop]
      have z0 : (0 : Int) ≤ (k : Int) := by omega
      have z1 : (k : Int) ≤ (cap : Int) := by omega
      have z2 : (k : Int) ≤ (l.length : Int) := by omega
      clear hv hv1 hD hA1 hA3
      repeat (first | (at_builtin; refine forgetL (fun w' => w' = _) rfl ?_) | go_values | go_skip | go_guarded | go_step | go_upon)
      intro W7 hW7
      rw [hW7]
      clear hW7 W7
      refine app_num rfl _ _ rfl (lo := wr.heap.size) (hi := wr.heap.size) rfl (nil_num _ _ _) rfl (HT.out _ (But.refl _ _ _)) HL1.out.symm (by have := HL1.out; simp; omega) (by omega) ?_
      intro v1 w1 o1 b1
      simp only [List.nil_append] at o1
      obtain ⟨a1, p1, hf⟩ := o1.form
      subst hf
      have k1 : Kept wr w1 := But.fresh b1 (Nat.le_refl _)
      have s1 := k1.size
      repeat (first | (at_builtin; refine forgetL (fun w' => w' = _) rfl ?_) | go_values | go_skip | go_guarded | go_step | go_upon)
      intro W7 hW7
      rw [hW7]
      clear hW7 W7
      refine app_num rfl _ _ rfl (lo := wr.heap.size) (hi := w1.heap.size) rfl (o1.kept ((But.refl _ _ w1).alloc _)) rfl (one_num (p := x) (Loc.new w1 [.int .i64 x] 3)) rfl (by have := HL1.out; simp; omega) (by simp; omega) ?_
      intro v2 w2 o2 b2
      obtain ⟨A2, hA2⟩ : ∃ A, A1 ++ [x] = A := ⟨_, rfl⟩
      rw [hA2] at o2 HR
      have HL2 : Hid (A2.length = k + 1) := by show _ = _; rw [← hA2, List.length_append, HL1.out]; rfl
      clear hA2
      obtain ⟨a2, p2, hf⟩ := o2.form
      subst hf
      have k2 : Kept wr w2 := But.onto (k1.alloc _) b2 (Nat.le_refl _)
      have s2 := k2.size
      repeat (first | (at_builtin; refine forgetL (fun w' => w' = _) rfl ?_) | go_values | go_skip | go_guarded | go_step | go_upon)
      intro W7 hW7
      rw [hW7]
      clear hW7 W7
      refine app_num rfl _ _ rfl (lo := wr.heap.size) (hi := w2.heap.size) rfl o2 rfl (HDR.out _ k2) HL3.out.symm (by have := HL2.out; have := HL3.out; omega) (by omega) ?_
      intro v3 w3 o3 b3
      obtain ⟨A4, hA4⟩ : ∃ A, A2 ++ A3 = A := ⟨_, rfl⟩
      rw [hA4] at o3 HR
      obtain ⟨a3, p3, hf⟩ := o3.form
      subst hf
      have k3 : Kept wr w3 := But.onto k2 b3 (Nat.le_refl _)
      repeat (first | go_values | go_skip | go_guarded | go_step | go_upon)
      go_ret
      rw [HR.out]
      exact ⟨_, _, rfl, o3.mono (by have := HK.out.size; have := HLO.out; omega) (Nat.le_refl _), cap_num o3, HK.out.trans k3⟩

end Go.Proofs.Ythkfpbknfjapaaa
