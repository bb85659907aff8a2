/-
  Values with one more, in the specification.
-/
import Derived.Test.YtklgjhemcofhhaaDoorLists22
import Derived.Test.YtklgjhemcofhhaaDoorQuiet
import Derived.Deep.Cut
import Derived.BigQuiet
import Derived.WalkLawsBesides
namespace Go.Proofs.YtklgjhemcofhhaaDoor
open Go.ChangeShapes Go.WideShapes Go.ChangeAt Go.RowKit

set_option maxRecDepth 100000
set_option linter.unusedVariables false
set_option linter.unusedSimpArgs false

set_option maxHeartbeats 4000000 in
theorem sput_some (l : List ValD) (x0 : ByteArray) (x1 : Int) (x2 : ByteArray) (cap : Nat) (g : Nat) (w : World) (hv : ValAt w (.slice (some ⟨g, 0, none⟩) l.length cap) l) (hcl : l.length ≤ cap) (hcm : cap ≤ 9223372036854775807) (hn : l.length ≤ 1000) :
    Calls Tryd.prog 34 #[.slice (some ⟨g, 0, none⟩) l.length cap, .agg #[.string x0, .int .i64 x1, .string x2]] w fun e w' => ∃ v', e = .returned v' ∧ ValO w' w.heap.size w'.heap.size v' (putL l (x0, x1, x2)) ∧ Kept w w' := by
  have HN : Hid (l.length ≤ 1000) := hn
  have HVW : Hid (∀ w', Kept w w' → ValAt w' (.slice (some ⟨g, 0, none⟩) l.length cap) l) := fun w' k => hv.kept k
  have POS : Hid (∀ k, k ≤ l.length → (∀ (j : Nat) (q : ValD), j < k → l[j]? = some q → Op.bytesLess q.1.toList x0.toList = true) → (∀ q : ValD, l[k]? = some q → Op.bytesLess q.1.toList x0.toList = false) → posL x0 l = k) := fun k => pos_of
  clear hn
  have L0 : LocX (w.alloc (.cells (valC (x0, x1, x2)).toArray 53)) w.heap.size (x0, x1, x2) := heap_alloc_new w _
  go_enter Tryd.func34, Tryd.ntmps34
  repeat (first | go_values | go_skip | go_guarded | go_step | go_upon)
  go_loopw [5] (fun i wr => ∃ (k : Nat), k ≤ l.length ∧ i = .int .i64 k ∧ Hid (∀ (j : Nat) (q : ValD), j < k → l[j]? = some q → Op.bytesLess q.1.toList x0.toList = true) ∧ LocX wr w.heap.size (x0, x1, x2) ∧ Kept w wr) (fun i _ => l.length - (intOf i).toNat)
  case atStart => exact ⟨0, by omega, rfl, fun j q hj => by omega, L0, (But.refl _ _ _).alloc _⟩
  case round =>
    obtain ⟨k, hk, rfl, HB, Lc, hkp⟩ := hrel
    clear L0
    have HL : Hid (LocX wr w.heap.size (x0, x1, x2)) := Lc
    have HK : Hid (Kept w wr) := hkp
    have HTL : Hid ((l.take k).length = k) := by show _ = _; rw [List.length_take]; omega
    have x00 := Lc.loc.cell 0 (v := .string x0) rfl
    have xl := Lc.lt
    have z0 : (0 : Int) ≤ (k : Int) := by omega
    have z9 : (k : Int) ≤ (l.length : Int) := by omega
    have z8 : (l.length : Int) ≤ (cap : Int) := by omega
    by_cases hlt : k < l.length
    · obtain ⟨d, hd⟩ : ∃ p, l[k]? = some p := ⟨_, List.getElem?_eq_getElem hlt⟩
      obtain ⟨b, o, cap', e, c0, c1, c2⟩ := val_get (hv.kept hkp) hd
      cases e
      have HP : Hid (l[k]? = some d) := hd
      obtain ⟨d0, d1, d2⟩ := d
      dsimp only at c0 c1 c2
      rw [Nat.zero_add] at c0
      have hgw : g < wr.heap.size := World.block_lt_of_cell? _ _ c0
      have z1 : (k : Int) < (l.length : Int) := by omega
      have dk : decide ((k : Int) < (l.length : Int)) = true := decide_eq_true z1
      clear hd hkp hv c1 c2 Lc
      cases q1 : Op.bytesLess d0.toList x0.toList with
      | true =>
        have HQ : Hid (Op.bytesLess d0.toList x0.toList = true) := q1
        repeat (first | go_values | go_skip | go_guarded | go_step | go_upon)
        refine wp_region_kept (by kernel_rfl) (by kernel_rfl) ?_
        have hne := kw_some wr
        have hcc := KW.cell_eq wr
        have hcf := fun (x : KW wr) (b o : Nat) (hb : b < wr.heap.size) => x.k.frozen_eq b o hb
        repeat (first | (go_big_quiet_step (first | fail)) | (go_big_quiet_want; go_big_quiet_op; refine ⟨_, fun _ => (by with_reducible rfl), ?_⟩; go_big_quiet_on))
        refine wpQuiet_nil ?_
        rintro w5 ⟨⟨w8, k5⟩, h9⟩
        change w5 = w8 at h9
        subst h9
        clear hcc hne hcf
        repeat (first | go_values | go_skip | go_guarded | go_step | go_upon)
        refine ⟨⟨k + 1, hlt, by go_num, fun j r hj hr => ?_, HL.out.kept k5, HK.out.trans k5⟩, by simp [intOf]; omega⟩
        by_cases e : j = k
        · subst e
          rw [HP.out] at hr
          cases hr
          exact HQ.out
        · exact HB.out j r (by omega) hr
      | false =>
        have hpos := POS.out k hk HB.out (fun q hq => by rw [HP.out] at hq; cases hq; exact q1)
        have HPOS : Hid (posL x0 l = k) := hpos
        repeat (first | go_values | go_skip | go_guarded | go_step | go_upon)
        refine wp_region_kept (by kernel_rfl) (by kernel_rfl) ?_
        have hne := kw_some wr
        have hcc := KW.cell_eq wr
        have hcf := fun (x : KW wr) (b o : Nat) (hb : b < wr.heap.size) => x.k.frozen_eq b o hb
        repeat (first | (go_big_quiet_step (first | fail)) | (go_big_quiet_want; go_big_quiet_op; refine ⟨_, fun _ => (by with_reducible rfl), ?_⟩; go_big_quiet_on))
        refine wpQuiet_nil ?_
        rintro w5 ⟨⟨w8, k5⟩, h9⟩
        change w5 = w8 at h9
        subst h9
        clear hcc hne hcf
        repeat (first | (at_builtin; refine forgetL (fun w' => w' = _) rfl ?_) | go_values | go_skip | go_guarded | go_step | go_upon)
        have HK5 : Hid (Kept w w5) := HK.out.trans k5
        have HL5 : Hid (LocX w5 w.heap.size (x0, x1, x2)) := HL.out.kept k5
        clear k5 c0 dk x00 xl
        intro W7 hW7
        rw [hW7]
        clear hW7 W7
        have s5 : w.heap.size + 1 ≤ w5.heap.size := HL5.out.lt
        refine app_val rfl _ _ rfl (lo := w.heap.size + 1) (hi := w5.heap.size) rfl (nil_val _ _ _) (qs := l.take k) rfl (val_take (HVW.out _ HK5.out) (by omega)) HTL.out.symm (by have := HN.out; have := HTL.out; simp; omega) s5 ?_
        intro v1 w1 o1 b1
        obtain ⟨a1, p1, hf⟩ := o1.form
        subst hf
        rw [List.nil_append] at o1 ⊢
        have K1 : Hid (Kept w w1) := ⟨b1.os.trans HK5.out.os, b1.out.trans HK5.out.out, Nat.le_trans (Nat.le_trans (Nat.le_succ _) s5) b1.size, fun i hi2 _ => (b1.block i (by omega) (by omega)).trans (HK5.out.block i hi2 (by omega))⟩
        have s1 : w.heap.size + 1 ≤ w1.heap.size := Nat.le_trans s5 b1.size
        have L1 : Hid (LocX w1 w.heap.size (x0, x1, x2)) := HL5.out.but b1 (by omega)
        obtain ⟨T, hT⟩ : ∃ T, l.take k = T := ⟨_, rfl⟩
        rw [hT] at o1 ⊢
        have HT : Hid (l.take k = T) := hT
        have HTT : Hid (T.length = k) := by show _ = _; rw [← HT.out]; exact HTL.out
        have O1 : Hid (ValO w1 (w.heap.size + 1) w1.heap.size (.slice a1 T.length p1) T) := o1
        have x00 := L1.out.loc.cell 0 (v := .string x0) rfl
        have x01 := L1.out.loc.cell 1 (v := .int .i64 x1) rfl
        have x02 := L1.out.loc.cell 2 (v := .string x2) rfl
        have xl := L1.out.lt
        clear o1 b1 hT HL5
        repeat (first | (at_builtin; refine forgetL (fun w' => w' = _) rfl ?_) | go_values | go_skip | go_guarded | go_step | go_upon)
        intro W7 hW7
        rw [hW7]
        clear hW7 W7
        refine app1_val rfl _ _ rfl (lo := w.heap.size + 1) (hi := w1.heap.size) rfl (O1.out.kept ((But.refl _ _ w1).alloc _)) (x0, x1, x2) rfl (Loc.new w1 [.string x0, .int .i64 x1, .string x2] 53) (by have := HN.out; have := HTT.out; omega) (by simp; omega) ?_
        intro v2 w2 o2 b2 _
        have b2' := But.inner b2 (O1.out.kept ((But.refl _ _ w1).alloc (.cells #[.string x0, .int .i64 x1, .string x2] 53)))
        have K2 : Hid (Kept w w2) := ⟨b2'.os.trans K1.out.os, b2'.out.trans K1.out.out, Nat.le_trans (K1.out.alloc (.cells #[.string x0, .int .i64 x1, .string x2] 53)).size b2'.size, fun i hi2 _ => (b2'.block i (by simp; omega) (by omega)).trans ((K1.out.alloc (.cells #[.string x0, .int .i64 x1, .string x2] 53)).block i hi2 (by omega))⟩
        have s2 : w.heap.size + 1 ≤ w2.heap.size := by have := b2'.size; simp at this; omega
        have HV2 : Hid (ValAt w2 (.slice (some ⟨g, 0, none⟩) l.length cap) l) := HVW.out _ K2.out
        obtain ⟨a2, p2, hf⟩ := o2.form
        subst hf
        obtain ⟨U, hU⟩ : ∃ U, T ++ [((x0, x1, x2) : ValD)] = U := ⟨_, rfl⟩
        rw [hU] at o2 ⊢
        have HU : Hid (T ++ [((x0, x1, x2) : ValD)] = U) := hU
        have HUU : Hid (U.length = k + 1) := by show _ = _; rw [← HU.out, List.length_append, HTT.out]; rfl
        have O2 : Hid (ValO w2 (w.heap.size + 1) w2.heap.size (.slice a2 U.length p2) U) := o2
        clear o2 b2 b2' hU x00 x01 x02 xl
        repeat (first | (at_builtin; refine forgetL (fun w' => w' = _) rfl ?_) | go_values | go_skip | go_guarded | go_step | go_upon)
        intro W7 hW7
        rw [hW7]
        clear hW7 W7
        refine app_val rfl _ _ rfl (lo := w.heap.size + 1) (hi := w2.heap.size) rfl O2.out (qs := l.drop k) rfl (val_drop HV2.out (by omega) _ (fun h => by simp)) (by rw [List.length_drop]) (by have := HN.out; have := HUU.out; rw [List.length_drop]; omega) s2 ?_
        intro v3 w3 o3 b3
        have K3 : Hid (Kept w w3) := ⟨b3.os.trans K2.out.os, b3.out.trans K2.out.out, Nat.le_trans K2.out.size b3.size, fun i hi2 _ => (b3.block i (by omega) (by omega)).trans (K2.out.block i hi2 (by omega))⟩
        have HPL : Hid (putL l (x0, x1, x2) = U ++ l.drop k) := by show _ = _; unfold putL; rw [HPOS.out, HT.out, HU.out]
        have O3 : Hid (ValO w3 (w.heap.size + 1) w3.heap.size v3 (U ++ l.drop k)) := o3
        clear o3 b3
        repeat (first | go_values | go_skip | go_guarded | go_step | go_upon)
        go_ret
        exact ⟨_, rfl, by rw [HPL.out]; exact RowO.mono O3.out (Nat.le_succ _) (Nat.le_refl _), K3.out⟩

    · have hke : k = l.length := by omega
      have dk : decide ((k : Int) < (l.length : Int)) = false := decide_eq_false (by omega)
      have hpos := POS.out k hk HB.out (fun q hq => by have := (List.getElem?_eq_some_iff.1 hq).1; omega)
      have HPOS : Hid (posL x0 l = k) := hpos
      have HKE : Hid (k = l.length) := hke
      skip
      clear hkp hv Lc hpos hke
      repeat (first | go_values | go_skip | go_guarded | go_step | go_upon)
      refine wp_region_kept (by kernel_rfl) (by kernel_rfl) ?_
      have hne := kw_some wr
      have hcc := KW.cell_eq wr
      have hcf := fun (x : KW wr) (b o : Nat) (hb : b < wr.heap.size) => x.k.frozen_eq b o hb
      repeat (first | (go_big_quiet_step (first | fail)) | (go_big_quiet_want; go_big_quiet_op; refine ⟨_, fun _ => (by with_reducible rfl), ?_⟩; go_big_quiet_on))
      refine wpQuiet_nil ?_
      rintro w5 ⟨⟨w8, k5⟩, h9⟩
      change w5 = w8 at h9
      subst h9
      clear hcc hne hcf
      repeat (first | (at_builtin; refine forgetL (fun w' => w' = _) rfl ?_) | go_values | go_skip | go_guarded | go_step | go_upon)
      have HK5 : Hid (Kept w w5) := HK.out.trans k5
      have HL5 : Hid (LocX w5 w.heap.size (x0, x1, x2)) := HL.out.kept k5
      clear k5 dk x00 xl
      intro W7 hW7
      rw [hW7]
      clear hW7 W7
      have s5 : w.heap.size + 1 ≤ w5.heap.size := HL5.out.lt
      refine app_val rfl _ _ rfl (lo := w.heap.size + 1) (hi := w5.heap.size) rfl (nil_val _ _ _) (qs := l.take k) rfl (val_take (HVW.out _ HK5.out) (by omega)) HTL.out.symm (by have := HN.out; have := HTL.out; simp; omega) s5 ?_
      intro v1 w1 o1 b1
      obtain ⟨a1, p1, hf⟩ := o1.form
      subst hf
      rw [List.nil_append] at o1 ⊢
      have K1 : Hid (Kept w w1) := ⟨b1.os.trans HK5.out.os, b1.out.trans HK5.out.out, Nat.le_trans (Nat.le_trans (Nat.le_succ _) s5) b1.size, fun i hi2 _ => (b1.block i (by omega) (by omega)).trans (HK5.out.block i hi2 (by omega))⟩
      have s1 : w.heap.size + 1 ≤ w1.heap.size := Nat.le_trans s5 b1.size
      have L1 : Hid (LocX w1 w.heap.size (x0, x1, x2)) := HL5.out.but b1 (by omega)
      obtain ⟨T, hT⟩ : ∃ T, l.take k = T := ⟨_, rfl⟩
      rw [hT] at o1 ⊢
      have HT : Hid (l.take k = T) := hT
      have HTT : Hid (T.length = k) := by show _ = _; rw [← HT.out]; exact HTL.out
      have O1 : Hid (ValO w1 (w.heap.size + 1) w1.heap.size (.slice a1 T.length p1) T) := o1
      have x00 := L1.out.loc.cell 0 (v := .string x0) rfl
      have x01 := L1.out.loc.cell 1 (v := .int .i64 x1) rfl
      have x02 := L1.out.loc.cell 2 (v := .string x2) rfl
      have xl := L1.out.lt
      clear o1 b1 hT HL5
      repeat (first | (at_builtin; refine forgetL (fun w' => w' = _) rfl ?_) | go_values | go_skip | go_guarded | go_step | go_upon)
      intro W7 hW7
      rw [hW7]
      clear hW7 W7
      refine app1_val rfl _ _ rfl (lo := w.heap.size + 1) (hi := w1.heap.size) rfl (O1.out.kept ((But.refl _ _ w1).alloc _)) (x0, x1, x2) rfl (Loc.new w1 [.string x0, .int .i64 x1, .string x2] 53) (by have := HN.out; have := HTT.out; omega) (by simp; omega) ?_
      intro v2 w2 o2 b2 _
      have b2' := But.inner b2 (O1.out.kept ((But.refl _ _ w1).alloc (.cells #[.string x0, .int .i64 x1, .string x2] 53)))
      have K2 : Hid (Kept w w2) := ⟨b2'.os.trans K1.out.os, b2'.out.trans K1.out.out, Nat.le_trans (K1.out.alloc (.cells #[.string x0, .int .i64 x1, .string x2] 53)).size b2'.size, fun i hi2 _ => (b2'.block i (by simp; omega) (by omega)).trans ((K1.out.alloc (.cells #[.string x0, .int .i64 x1, .string x2] 53)).block i hi2 (by omega))⟩
      have s2 : w.heap.size + 1 ≤ w2.heap.size := by have := b2'.size; simp at this; omega
      have HV2 : Hid (ValAt w2 (.slice (some ⟨g, 0, none⟩) l.length cap) l) := HVW.out _ K2.out
      obtain ⟨a2, p2, hf⟩ := o2.form
      subst hf
      obtain ⟨U, hU⟩ : ∃ U, T ++ [((x0, x1, x2) : ValD)] = U := ⟨_, rfl⟩
      rw [hU] at o2 ⊢
      have HU : Hid (T ++ [((x0, x1, x2) : ValD)] = U) := hU
      have HUU : Hid (U.length = k + 1) := by show _ = _; rw [← HU.out, List.length_append, HTT.out]; rfl
      have O2 : Hid (ValO w2 (w.heap.size + 1) w2.heap.size (.slice a2 U.length p2) U) := o2
      clear o2 b2 b2' hU x00 x01 x02 xl
      repeat (first | (at_builtin; refine forgetL (fun w' => w' = _) rfl ?_) | go_values | go_skip | go_guarded | go_step | go_upon)
      intro W7 hW7
      rw [hW7]
      clear hW7 W7
      refine app_val rfl _ _ rfl (lo := w.heap.size + 1) (hi := w2.heap.size) rfl O2.out (qs := l.drop k) rfl (val_end (by have := HKE.out; omega) (by have := HKE.out; omega)) (by rw [List.length_drop]) (by have := HN.out; have := HUU.out; rw [List.length_drop]; omega) s2 ?_
      intro v3 w3 o3 b3
      have K3 : Hid (Kept w w3) := ⟨b3.os.trans K2.out.os, b3.out.trans K2.out.out, Nat.le_trans K2.out.size b3.size, fun i hi2 _ => (b3.block i (by omega) (by omega)).trans (K2.out.block i hi2 (by omega))⟩
      have HPL : Hid (putL l (x0, x1, x2) = U ++ l.drop k) := by show _ = _; unfold putL; rw [HPOS.out, HT.out, HU.out]
      have O3 : Hid (ValO w3 (w.heap.size + 1) w3.heap.size v3 (U ++ l.drop k)) := o3
      clear o3 b3
      repeat (first | go_values | go_skip | go_guarded | go_step | go_upon)
      go_ret
      exact ⟨_, rfl, by rw [HPL.out]; exact RowO.mono O3.out (Nat.le_succ _) (Nat.le_refl _), K3.out⟩


set_option maxHeartbeats 4000000 in
theorem sput_none (l : List ValD) (x0 : ByteArray) (x1 : Int) (x2 : ByteArray) (cap : Nat) (g : Nat) (w : World) (hv : ValAt w (.slice none l.length cap) l) (hcl : l.length ≤ cap) (hcm : cap ≤ 9223372036854775807) (hn : l.length ≤ 1000) (hnil : l.length = 0 ∧ cap = 0) :
    Calls Tryd.prog 34 #[.slice none l.length cap, .agg #[.string x0, .int .i64 x1, .string x2]] w fun e w' => ∃ v', e = .returned v' ∧ ValO w' w.heap.size w'.heap.size v' (putL l (x0, x1, x2)) ∧ Kept w w' := by
  have HN : Hid (l.length ≤ 1000) := hn
  have HVW : Hid (∀ w', Kept w w' → ValAt w' (.slice none l.length cap) l) := fun w' k => hv.kept k
  have POS : Hid (∀ k, k ≤ l.length → (∀ (j : Nat) (q : ValD), j < k → l[j]? = some q → Op.bytesLess q.1.toList x0.toList = true) → (∀ q : ValD, l[k]? = some q → Op.bytesLess q.1.toList x0.toList = false) → posL x0 l = k) := fun k => pos_of
  clear hn
  have L0 : LocX (w.alloc (.cells (valC (x0, x1, x2)).toArray 53)) w.heap.size (x0, x1, x2) := heap_alloc_new w _
  go_enter Tryd.func34, Tryd.ntmps34
  repeat (first | go_values | go_skip | go_guarded | go_step | go_upon)
  go_loopw [5] (fun i wr => ∃ (k : Nat), k ≤ l.length ∧ i = .int .i64 k ∧ Hid (∀ (j : Nat) (q : ValD), j < k → l[j]? = some q → Op.bytesLess q.1.toList x0.toList = true) ∧ LocX wr w.heap.size (x0, x1, x2) ∧ Kept w wr) (fun i _ => l.length - (intOf i).toNat)
  case atStart => exact ⟨0, by omega, rfl, fun j q hj => by omega, L0, (But.refl _ _ _).alloc _⟩
  case round =>
    obtain ⟨k, hk, rfl, HB, Lc, hkp⟩ := hrel
    clear L0
    have HL : Hid (LocX wr w.heap.size (x0, x1, x2)) := Lc
    have HK : Hid (Kept w wr) := hkp
    have HTL : Hid ((l.take k).length = k) := by show _ = _; rw [List.length_take]; omega
    have x00 := Lc.loc.cell 0 (v := .string x0) rfl
    have xl := Lc.lt
    have z0 : (0 : Int) ≤ (k : Int) := by omega
    have z9 : (k : Int) ≤ (l.length : Int) := by omega
    have z8 : (l.length : Int) ≤ (cap : Int) := by omega
    by_cases hlt : k < l.length
    · exact absurd hlt (by omega)
    · have hke : k = l.length := by omega
      have dk : decide ((k : Int) < (l.length : Int)) = false := decide_eq_false (by omega)
      have hpos := POS.out k hk HB.out (fun q hq => by have := (List.getElem?_eq_some_iff.1 hq).1; omega)
      have HPOS : Hid (posL x0 l = k) := hpos
      have HKE : Hid (k = l.length) := hke
      clear hnil
      clear hkp hv Lc hpos hke
      repeat (first | go_values | go_skip | go_guarded | go_step | go_upon)
      refine wp_region_kept (by kernel_rfl) (by kernel_rfl) ?_
      have hne := kw_some wr
      have hcc := KW.cell_eq wr
      have hcf := fun (x : KW wr) (b o : Nat) (hb : b < wr.heap.size) => x.k.frozen_eq b o hb
      repeat (first | (go_big_quiet_step (first | fail)) | (go_big_quiet_want; go_big_quiet_op; refine ⟨_, fun _ => (by with_reducible rfl), ?_⟩; go_big_quiet_on))
      refine wpQuiet_nil ?_
      rintro w5 ⟨⟨w8, k5⟩, h9⟩
      change w5 = w8 at h9
      subst h9
      clear hcc hne hcf
      repeat (first | (at_builtin; refine forgetL (fun w' => w' = _) rfl ?_) | go_values | go_skip | go_guarded | go_step | go_upon)
      have HK5 : Hid (Kept w w5) := HK.out.trans k5
      have HL5 : Hid (LocX w5 w.heap.size (x0, x1, x2)) := HL.out.kept k5
      clear k5 dk x00 xl
      intro W7 hW7
      rw [hW7]
      clear hW7 W7
      have s5 : w.heap.size + 1 ≤ w5.heap.size := HL5.out.lt
      refine app_val rfl _ _ rfl (lo := w.heap.size + 1) (hi := w5.heap.size) rfl (nil_val _ _ _) (qs := l.take k) rfl (val_take (HVW.out _ HK5.out) (by omega)) HTL.out.symm (by have := HN.out; have := HTL.out; simp; omega) s5 ?_
      intro v1 w1 o1 b1
      obtain ⟨a1, p1, hf⟩ := o1.form
      subst hf
      rw [List.nil_append] at o1 ⊢
      have K1 : Hid (Kept w w1) := ⟨b1.os.trans HK5.out.os, b1.out.trans HK5.out.out, Nat.le_trans (Nat.le_trans (Nat.le_succ _) s5) b1.size, fun i hi2 _ => (b1.block i (by omega) (by omega)).trans (HK5.out.block i hi2 (by omega))⟩
      have s1 : w.heap.size + 1 ≤ w1.heap.size := Nat.le_trans s5 b1.size
      have L1 : Hid (LocX w1 w.heap.size (x0, x1, x2)) := HL5.out.but b1 (by omega)
      obtain ⟨T, hT⟩ : ∃ T, l.take k = T := ⟨_, rfl⟩
      rw [hT] at o1 ⊢
      have HT : Hid (l.take k = T) := hT
      have HTT : Hid (T.length = k) := by show _ = _; rw [← HT.out]; exact HTL.out
      have O1 : Hid (ValO w1 (w.heap.size + 1) w1.heap.size (.slice a1 T.length p1) T) := o1
      have x00 := L1.out.loc.cell 0 (v := .string x0) rfl
      have x01 := L1.out.loc.cell 1 (v := .int .i64 x1) rfl
      have x02 := L1.out.loc.cell 2 (v := .string x2) rfl
      have xl := L1.out.lt
      clear o1 b1 hT HL5
      repeat (first | (at_builtin; refine forgetL (fun w' => w' = _) rfl ?_) | go_values | go_skip | go_guarded | go_step | go_upon)
      intro W7 hW7
      rw [hW7]
      clear hW7 W7
      refine app1_val rfl _ _ rfl (lo := w.heap.size + 1) (hi := w1.heap.size) rfl (O1.out.kept ((But.refl _ _ w1).alloc _)) (x0, x1, x2) rfl (Loc.new w1 [.string x0, .int .i64 x1, .string x2] 53) (by have := HN.out; have := HTT.out; omega) (by simp; omega) ?_
      intro v2 w2 o2 b2 _
      have b2' := But.inner b2 (O1.out.kept ((But.refl _ _ w1).alloc (.cells #[.string x0, .int .i64 x1, .string x2] 53)))
      have K2 : Hid (Kept w w2) := ⟨b2'.os.trans K1.out.os, b2'.out.trans K1.out.out, Nat.le_trans (K1.out.alloc (.cells #[.string x0, .int .i64 x1, .string x2] 53)).size b2'.size, fun i hi2 _ => (b2'.block i (by simp; omega) (by omega)).trans ((K1.out.alloc (.cells #[.string x0, .int .i64 x1, .string x2] 53)).block i hi2 (by omega))⟩
      have s2 : w.heap.size + 1 ≤ w2.heap.size := by have := b2'.size; simp at this; omega
      have HV2 : Hid (ValAt w2 (.slice none l.length cap) l) := HVW.out _ K2.out
      obtain ⟨a2, p2, hf⟩ := o2.form
      subst hf
      obtain ⟨U, hU⟩ : ∃ U, T ++ [((x0, x1, x2) : ValD)] = U := ⟨_, rfl⟩
      rw [hU] at o2 ⊢
      have HU : Hid (T ++ [((x0, x1, x2) : ValD)] = U) := hU
      have HUU : Hid (U.length = k + 1) := by show _ = _; rw [← HU.out, List.length_append, HTT.out]; rfl
      have O2 : Hid (ValO w2 (w.heap.size + 1) w2.heap.size (.slice a2 U.length p2) U) := o2
      clear o2 b2 b2' hU x00 x01 x02 xl
      repeat (first | (at_builtin; refine forgetL (fun w' => w' = _) rfl ?_) | go_values | go_skip | go_guarded | go_step | go_upon)
      intro W7 hW7
      rw [hW7]
      clear hW7 W7
      refine app_val rfl _ _ rfl (lo := w.heap.size + 1) (hi := w2.heap.size) rfl O2.out (qs := l.drop k) rfl (val_end (by have := HKE.out; omega) (by have := HKE.out; omega)) (by rw [List.length_drop]) (by have := HN.out; have := HUU.out; rw [List.length_drop]; omega) s2 ?_
      intro v3 w3 o3 b3
      have K3 : Hid (Kept w w3) := ⟨b3.os.trans K2.out.os, b3.out.trans K2.out.out, Nat.le_trans K2.out.size b3.size, fun i hi2 _ => (b3.block i (by omega) (by omega)).trans (K2.out.block i hi2 (by omega))⟩
      have HPL : Hid (putL l (x0, x1, x2) = U ++ l.drop k) := by show _ = _; unfold putL; rw [HPOS.out, HT.out, HU.out]
      have O3 : Hid (ValO w3 (w.heap.size + 1) w3.heap.size v3 (U ++ l.drop k)) := o3
      clear o3 b3
      repeat (first | go_values | go_skip | go_guarded | go_step | go_upon)
      go_ret
      exact ⟨_, rfl, by rw [HPL.out]; exact RowO.mono O3.out (Nat.le_succ _) (Nat.le_refl _), K3.out⟩

theorem sput (l : List ValD) (x0 : ByteArray) (x1 : Int) (x2 : ByteArray) (v : Value) (lo hi : Nat) (w : World) (hv0 : ValO w lo hi v l) (hn : l.length ≤ 1000) :
    Calls Tryd.prog 34 #[v, .agg #[.string x0, .int .i64 x1, .string x2]] w fun e w' => ∃ v', e = .returned v' ∧ ValO w' w.heap.size w'.heap.size v' (putL l (x0, x1, x2)) ∧ Kept w w' := by
  have hv := hv0.at
  have hlen := hv0.1.1
  rw [flat_len 3 valC valC_len] at hlen
  rcases hv0.1.2 with ⟨rfl, h0⟩ | ⟨g, cap, cur, rfl, _⟩
  · have hl : l.length = 0 := by omega
    rw [show (Value.slice none 0 0) = .slice none l.length 0 by rw [hl]] at hv ⊢
    exact sput_none l x0 x1 x2 0 0 w hv (by omega) (by omega) hn ⟨hl, rfl⟩
  · obtain ⟨hcl, hcm⟩ := cap_val hv0
    exact sput_some l x0 x1 x2 cap g w hv hcl hcm hn

end Go.Proofs.YtklgjhemcofhhaaDoor
