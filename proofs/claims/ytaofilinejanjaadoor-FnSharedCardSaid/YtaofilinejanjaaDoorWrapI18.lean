/-
  WrapText of the program.
-/
import Derived.Test.YtaofilinejanjaaDoorCut18
import Derived.Test.YtaofilinejanjaaDoorAppT18
namespace Go.Proofs.YtaofilinejanjaaDoor
open Go.ChangeShapes Go.WideShapes Go.ChangeAt Go.RowKit

set_option maxRecDepth 100000
set_option linter.unusedVariables false

theorem nemp {t : ByteArray} (h : t.size ≠ 0) : t.toList.isEmpty = false := by
  rw [Lib.toList_data]
  cases hl : t.data.toList with
  | nil => exact absurd (by rw [Lib.size_eq, hl]; rfl) h
  | cons a l => rfl
theorem emp {t : ByteArray} (h : t.size = 0) : t = ByteArray.mk #[] := by
  cases t with
  | mk d =>
    have : d.size = 0 := h
    rw [Array.eq_empty_of_size_eq_zero this]
set_option maxHeartbeats 8000000 in
theorem iwrap (s : ByteArray) (wide : Int) (w : World) (hs : s.size ≤ 1048576) (hm : ∃ m, w.cell? ⟨0, 0, none⟩ = some (.int .i64 m)) :
    Calls Tryd.prog 10 #[.string s, .int .i64 wide] w fun e w' => ∃ v, e = .returned (.tuple #[v, .bool (wrapA s wide).2]) ∧ TxtO w' w.heap.size w'.heap.size v (wrapA s wide).1 ∧ Kept w w' := by
  by_cases h4 : 400 < s.size
  · rw [wrapA_no (fun h => by have := h.1; omega)]
    have d4 : decide ((400 : Int) < (s.size : Int)) = true := decide_eq_true (by omega)
    go_enter Tryd.func10, Tryd.ntmps10
    go_wp2
    go_ret2
    exact ⟨_, rfl, nil_txt _ _ _, But.refl _ _ _⟩
  have d4 : decide ((400 : Int) < (s.size : Int)) = false := decide_eq_false (by omega)
  by_cases h1 : wide < 1
  · rw [wrapA_no (fun h => by have := h.2.1; omega)]
    have d1 : decide (wide < 1) = true := decide_eq_true h1
    go_enter Tryd.func10, Tryd.ntmps10
    go_wp2
    go_ret2
    exact ⟨_, rfl, nil_txt _ _ _, But.refl _ _ _⟩
  have d1 : decide (wide < 1) = false := decide_eq_false h1
  by_cases h2 : 100 < wide
  · rw [wrapA_no (fun h => by have := h.2.2; omega)]
    have d2 : decide (100 < wide) = true := decide_eq_true h2
    go_enter Tryd.func10, Tryd.ntmps10
    go_wp2
    go_ret2
    exact ⟨_, rfl, nil_txt _ _ _, But.refl _ _ _⟩
  have d2 : decide (100 < wide) = false := decide_eq_false h2
  rw [wrapA_yes ⟨by omega, by omega, by omega⟩]
  have hbd := wrap_bd (s := s) (wide := wide) (by omega)
  have hsz : ∀ t ∈ splF s s.size 0 0, t.size ≤ 400 := fun t ht => by have := splF_sz s _ _ _ t ht; omega
  have hln : (splF s s.size 0 0).length ≤ 401 := by have := splF_len s s.size 0 0; omega
  have ASP : Hid (∀ W, (∃ m, W.cell? ⟨0, 0, none⟩ = some (.int .i64 m)) → Calls Tryd.prog 28 #[.string s, .string ⟨#[10]⟩] W fun e w' => ∃ ao cap, e = .returned (.slice ao (splF s s.size 0 0).length cap) ∧ TxtAt w' (.slice ao (splF s s.size 0 0).length cap) (splF s s.size 0 0) ∧ Kept W w') := fun W h => isplit s W hs h
  have HBD : Hid ((rowsA wide (splF s s.size 0 0)).length ≤ 160801) := hbd
  have HSZ : Hid (∀ t ∈ splF s s.size 0 0, t.size ≤ 400) := hsz
  generalize hrows : splF s s.size 0 0 = rows at *
  have hwb : 1 ≤ wide ∧ wide ≤ 100 := by omega
  clear hbd hsz hrows
  go_enter Tryd.func10, Tryd.ntmps10
  repeat (first | go_values | go_skip | go_guarded | go_step | go_upon)
  go_at_call 28
  refine (ASP.out _ hm).mono ?_
  rintro e w1 ⟨ao, cap, rfl, hrw, k1⟩
  dsimp only
  repeat (first | go_values | go_skip | go_guarded | go_step | go_upon)
  clear d4 d1 d2
  have K1 : Hid (Kept w w1) := k1
  have s1 := k1.size
  clear k1 hm
  go_loopw [6, 25] (fun v i wr => ∃ (k : Nat) (L : List ByteArray), k ≤ rows.length ∧ i = .int .i64 k ∧ TxtO wr w1.heap.size wr.heap.size v L ∧ Hid (L = rowsA wide (rows.take k)) ∧ Kept w1 wr) (fun v i _ => rows.length - (intOf i).toNat)
  case atStart => exact ⟨0, [], by omega, rfl, nil_txt _ _ _, (show [] = rowsA wide (rows.take 0) from rfl), But.refl _ _ _⟩
  case round =>
    obtain ⟨k, L, hk, rfl, ho, HL, hkp⟩ := hrel
    obtain ⟨a5, p5, hf⟩ := ho.form
    subst hf
    by_cases hlt : k < rows.length
    · obtain ⟨t, ht⟩ : ∃ p, rows[k]? = some p := ⟨_, List.getElem?_eq_getElem hlt⟩
      obtain ⟨b, o, cap', ee, c0⟩ := txt_get (hrw.kept hkp) ht
      cases ee
      have hts := HSZ.out t (List.mem_of_getElem? ht)
      have hT : rowsA wide (rows.take (k + 1)) = rowsA wide (rows.take k) ++ rowF wide (t.size + 1) t := by rw [take_snoc ht, rowsA_snoc]
      have hTl : (rowsA wide (rows.take (k + 1))).length ≤ 160801 := by
        have h := HBD.out
        have e : rowsA wide rows = rowsA wide (rows.take (k + 1)) ++ rowsA wide (rows.drop (k + 1)) := by
          unfold rowsA
          rw [← List.flatMap_append, List.take_append_drop]
        rw [e, List.length_append] at h
        omega
      have hl1 := cutA_less t wide hwb.1
      have HN1 : Hid ((L ++ [(cutA t wide).1]) ++ (if (cutA t wide).2.size = 0 then [] else rowF wide t.size (cutA t wide).2) = rowsA wide (rows.take (k + 1))) := by
        have e : (L ++ [(cutA t wide).1]) ++ (if (cutA t wide).2.size = 0 then [] else rowF wide t.size (cutA t wide).2) = rowsA wide (rows.take (k + 1)) := by
          rw [hT, HL.out]
          conv => rhs; rhs; unfold rowF
          simp
        exact e
      have ACL : Hid (∀ W, Calls Tryd.prog 29 #[.string t, .int .i64 wide] W fun e w' => e = .returned (.tuple #[.string (cutA t wide).1, .string (cutA t wide).2]) ∧ Kept W w') := fun W => icut t wide W (by omega) hwb
      have hLl : L.length ≤ 160801 := by have h := congrArg List.length HN1.out; simp at h; omega
      obtain ⟨T, hTT⟩ : ∃ T, rowsA wide (rows.take (k + 1)) = T := ⟨_, rfl⟩
      rw [hTT] at hT hTl HN1
      have HT : Hid (rowsA wide (rows.take (k + 1)) = T) := hTT
      clear hTT
      generalize (cutA t wide).1 = ln at *
      generalize (cutA t wide).2 = rs at *
      have HO : Hid (TxtO wr w1.heap.size wr.heap.size (.slice a5 L.length p5) L) := ho
      have HK : Hid (Kept w1 wr) := hkp
      have s2 := hkp.size
      have c0' := c0
      clear ho hkp HL hT ht
      repeat (first | (go_at_call 29; refine (ACL.out _).mono ?_; rintro e w3 ⟨rfl, k3⟩; dsimp only) | (at_builtin; refine forgetL (fun w' => w' = _) rfl ?_) | go_values | go_skip | go_guarded | go_step | go_upon)
      intro W7 hW7
      rw [hW7]
      clear hW7 W7
      have s3 := k3.size
      refine app_txt rfl _ _ rfl (lo := w1.heap.size) (hi := wr.heap.size) rfl (HO.out.kept (k3.trans ((But.refl _ _ w3).alloc _))) rfl (one_txt (p := ln) (Loc.new w3 [.string ln] 9)) rfl (by simp; omega) (by simp; omega) ?_
      intro v2 w2 o2 b2
      have HO2 : Hid (TxtO w2 w1.heap.size w2.heap.size v2 (L ++ [ln])) := o2
      have HK2 : Hid (Kept w1 w2) := But.onto ((HK.out.trans k3).alloc _) b2 (Nat.le_refl _)
      clear o2 b2 HO HK k3 c0 c0' ACL
      repeat (first | go_values | go_skip | go_guarded | go_step | go_upon)
      have hrs : rs.size < t.size + 1 := by have := hl1; omega
      have HF : Hid (∃ f, (rs.size = 0 ∨ rs.size < f) ∧ (L ++ [ln]) ++ (if rs.size = 0 then [] else rowF wide f rs) = T) := show ∃ f, (rs.size = 0 ∨ rs.size < f) ∧ (L ++ [ln]) ++ (if rs.size = 0 then [] else rowF wide f rs) = T from ⟨t.size, hl1, HN1.out⟩
      have hrs4 : rs.size ≤ 400 := by omega
      clear HN1 hl1 hrs hts
      rename World => wq
      go_loopw [6, 9, 10] (fun v lv rv wr => ∃ (f : Nat) (L rs : _), rv = .string rs ∧ TxtO wr w1.heap.size wr.heap.size v L ∧ Hid (L ++ (if rs.size = 0 then [] else rowF wide f rs) = T) ∧ (rs.size = 0 ∨ rs.size < f) ∧ rs.size ≤ 400 ∧ Kept w1 wr) (fun v lv rv _ => Lib.strSize rv)
      case atStart =>
        obtain ⟨f, hf, he⟩ := HF.out
        exact ⟨f, L ++ [ln], rs, rfl, HO2.out, he, hf, hrs4, HK2.out⟩
      case round =>
        obtain ⟨f, L3, r3, rfl, ho, HL, hrf, hr4, hkp⟩ := hrel
        obtain ⟨a6, p6, hf⟩ := ho.form
        subst hf
        have HO : Hid (TxtO wr w1.heap.size wr.heap.size (.slice a6 L3.length p6) L3) := ho
        have HK : Hid (Kept w1 wr) := hkp
        have s4 := hkp.size
        clear ho hkp HO2 HK2 HF
        by_cases h0 : r3.size = 0
        · have hre := emp h0
          subst hre
          have HE : Hid (L3 = T) := by
            have h := HL.out
            rw [if_pos (by rfl), List.append_nil] at h
            exact h
          clear HL h0
          repeat (first | go_values | go_skip | go_guarded | go_step | go_upon)
          exact ⟨⟨k + 1, L3, hlt, by go_num, HO.out, (show L3 = rowsA wide (rows.take (k + 1)) from HE.out.trans HT.out.symm), HK.out⟩, by simp [intOf]; omega⟩
        · obtain ⟨f', rfl⟩ : ∃ f', f = f' + 1 := ⟨f - 1, by omega⟩
          have d0 := nemp h0
          have hl2 := cutA_less r3 wide hwb.1
          have HN2 : Hid ((L3 ++ [(cutA r3 wide).1]) ++ (if (cutA r3 wide).2.size = 0 then [] else rowF wide f' (cutA r3 wide).2) = T) := by
            have h := HL.out
            rw [if_neg h0] at h
            unfold rowF at h
            have e : (L3 ++ [(cutA r3 wide).1]) ++ (if (cutA r3 wide).2.size = 0 then [] else rowF wide f' (cutA r3 wide).2) = T := by
              rw [← h]
              simp
            exact e
          have ACL : Hid (∀ W, Calls Tryd.prog 29 #[.string r3, .int .i64 wide] W fun e w' => e = .returned (.tuple #[.string (cutA r3 wide).1, .string (cutA r3 wide).2]) ∧ Kept W w') := fun W => icut r3 wide W (by omega) hwb
          have hLl3 : L3.length ≤ 160801 := by have h := congrArg List.length HN2.out; simp only [List.length_append] at h; omega
          generalize (cutA r3 wide).1 = ln3 at *
          generalize (cutA r3 wide).2 = rs3 at *
          clear HL
          repeat (first | (go_at_call 29; refine (ACL.out _).mono ?_; rintro e w3 ⟨rfl, k3⟩; dsimp only) | (at_builtin; refine forgetL (fun w' => w' = _) rfl ?_) | go_values | go_skip | go_guarded | go_step | go_upon)
          intro W7 hW7
          rw [hW7]
          clear hW7 W7
          have s5 := k3.size
          refine app_txt rfl _ _ rfl (lo := w1.heap.size) (hi := wr.heap.size) rfl (HO.out.kept (k3.trans ((But.refl _ _ w3).alloc _))) rfl (one_txt (p := ln3) (Loc.new w3 [.string ln3] 9)) rfl (by simp; omega) (by simp; omega) ?_
          intro v4 w4 o4 b4
          have HO4 : Hid (TxtO w4 w1.heap.size w4.heap.size v4 (L3 ++ [ln3])) := o4
          have HK4 : Hid (Kept w1 w4) := But.onto ((HK.out.trans k3).alloc _) b4 (Nat.le_refl _)
          clear o4 b4 HO HK k3 ACL
          repeat (first | go_values | go_skip | go_guarded | go_step | go_upon)
          exact ⟨⟨f', L3 ++ [ln3], rs3, rfl, HO4.out, HN2, by omega, by omega, HK4.out⟩, by simp [Lib.strSize]; omega⟩
    · have hke : k = rows.length := by omega
      subst hke
      have HO : Hid (TxtO wr w1.heap.size wr.heap.size (.slice a5 L.length p5) L) := ho
      have HK : Hid (Kept w1 wr) := hkp
      clear ho hkp
      repeat (first | go_values | go_skip | go_guarded | go_step | go_upon)
      go_ret2
      have e := HL.out
      rw [List.take_length] at e
      exact ⟨_, rfl, by rw [← e]; exact (HO.out.mono (by omega) (Nat.le_refl _)), K1.out.trans HK.out⟩

end Go.Proofs.YtaofilinejanjaaDoor
