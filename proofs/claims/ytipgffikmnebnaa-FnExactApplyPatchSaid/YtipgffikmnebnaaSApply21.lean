/-
  ApplyPatch in the specification.
-/
import Derived.Test.YtipgffikmnebnaaApP21
import Derived.Test.YtipgffikmnebnaaQuiet
namespace Go.Proofs.Ytipgffikmnebnaa
open Go.ChangeShapes Go.WideShapes Go.ChangeAt Go.RowKit

set_option maxRecDepth 100000
set_option linter.unusedVariables false
set_option linter.unusedSimpArgs false

set_option maxHeartbeats 8000000 in
theorem sapply (old : List UInt8) (cs : List ChunkD) (ao : Option Addr) (co : Nat) (vc : Value) (w : World) (ho : BytAt w (.slice ao old.length co) old) (hco : old.length ≤ co ∧ co ≤ 9223372036854775807) (hv : ChunksAt w vc cs) (hol : old.length ≤ 1048576) (hn : chunksCost cs ≤ 1048576) (hr : ∀ p ∈ cs, -9223372036854775808 ≤ p.1 ∧ p.1 ≤ 9223372036854775807) :
    Calls Try.prog 55 #[.slice ao old.length co, vc] w fun e w' => ∃ v', e = .returned (.tuple #[v', .bool (applyA old cs).isSome]) ∧ BytO w' w.heap.size w'.heap.size v' ((applyA old cs).getD []) ∧ Kept w w' := by
  have hcl : cs.length ≤ 1048576 := by unfold chunksCost at hn; omega
  obtain ⟨ac, cc, hsl⟩ := hv.form
  subst hsl
  have HRG : Hid (∀ p ∈ cs, -9223372036854775808 ≤ p.1 ∧ p.1 ≤ 9223372036854775807) := hr
  have HCO : Hid (chunksCost cs ≤ 1048576) := hn
  have HO : Hid (BytAt w (.slice ao old.length co) old) := ho
  have HV : Hid (ChunksAt w (.slice ac cs.length cc) cs) := hv
  clear hr hn ho hv
  obtain ⟨RES, hRES⟩ : ∃ r, applyA old cs = r := ⟨_, rfl⟩
  have HRE : Hid (applyA old cs = RES) := hRES
  rw [hRES]
  clear hRES
  by_cases h1 : 400 < old.length
  · have d1 : decide (400 < (old.length : Int)) = true := decide_eq_true (by omega)
    have hR : RES = none := by rw [← HRE.out]; unfold applyA; rw [if_neg (by omega)]
    subst hR
    go_enter Try.func55, Try.ntmps55
    repeat (first | go_values | go_skip | go_guarded | go_step | go_upon)
    go_ret2
    exact ⟨_, rfl, nil_byt _ _ _, But.refl _ _ _⟩
  have d1 : decide (400 < (old.length : Int)) = false := decide_eq_false (by omega)
  by_cases h2 : 400 < cs.length
  · have d2 : decide (400 < (cs.length : Int)) = true := decide_eq_true (by omega)
    have hR : RES = none := by rw [← HRE.out]; unfold applyA; rw [if_neg (by omega)]
    subst hR
    go_enter Try.func55, Try.ntmps55
    repeat (first | go_values | go_skip | go_guarded | go_step | go_upon)
    go_ret2
    exact ⟨_, rfl, nil_byt _ _ _, But.refl _ _ _⟩
  have d2 : decide (400 < (cs.length : Int)) = false := decide_eq_false (by omega)
  have HRS : Hid (applyL old [] cs = RES) := by show _ = _; rw [← HRE.out]; unfold applyA; rw [if_pos (by omega)]
  go_enter Try.func55, Try.ntmps55
  repeat (first | go_values | go_skip | go_guarded | go_step | go_upon)
  clear d1 d2
  go_loopw [6, 19] (fun s i wr => ∃ (k : Nat) (acc : List UInt8) (a : Option Addr) (c : Nat), k ≤ cs.length ∧ i = .int .i64 k ∧ s = .slice a acc.length c ∧ Hid (BytO wr w.heap.size wr.heap.size (.slice a acc.length c) acc) ∧ acc.length ≤ 400 ∧ Hid (applyL old acc (cs.drop k) = RES) ∧ Kept w wr) (fun s i _ => cs.length - (intOf i).toNat)
  case atStart => exact ⟨0, [], none, 0, by omega, rfl, rfl, nil_byt _ _ _, by simp, by rw [List.drop_zero]; exact HRS, But.refl _ _ _⟩
  case round =>
    obtain ⟨k, acc, a, c, hk, rfl, rfl, HA, hacc, HL, hkp⟩ := hrel
    by_cases hlt : k < cs.length
    · obtain ⟨d, hd⟩ : ∃ p, cs[k]? = some p := ⟨_, List.getElem?_eq_getElem hlt⟩
      have hap := apply_at (old := old) (acc := acc) hd
      obtain ⟨b, o, cap', s, ee, c0, c1, c2, hka⟩ := (HV.out.kept hkp).get hd
      cases ee
      have hrg := HRG.out d (List.mem_of_getElem? hd)
      have hone := chunks_one (ds := cs) (d := d) (List.mem_of_getElem? hd)
      unfold chunksOne at hone
      have hdl : d.2.2.length ≤ 1048576 := by have := HCO.out; omega
      have HKP : Hid (Kept w wr) := hkp
      have hwsz := hkp.size
      obtain ⟨f, m, l⟩ := d
      dsimp only at c0 c1 c2 hka hrg hone hdl hap
      obtain ⟨ad, cd, hsl⟩ := row_nil hka
      subst hsl
      have HOW : Hid (BytAt wr (.slice ao old.length co) old) := HO.out.kept hkp
      have HDA : Hid (BytAt wr (.slice ad l.length cd) l) := hka
      have HAP : Hid (applyL old acc (cs.drop k) = (match pieceP old (f, m, l) with
        | none => none
        | some p => if acc.length + p.length ≤ 400 then applyL old (acc ++ p) (cs.drop (k + 1)) else none)) := hap
      clear hd hkp hka hone hap
      have z0 : (0 : Int) ≤ (k : Int) := by omega
      have z1 : (k : Int) < (cs.length : Int) := by omega
      by_cases h : 0 < l.length
      · have dd : decide (0 < (l.length : Int)) = true := decide_eq_true (by omega)
        by_cases h1 : f = 0
        · by_cases h2 : m = 0
          · have HAP2 : Hid (RES = if acc.length + l.length ≤ 400 then applyL old (acc ++ l) (cs.drop (k + 1)) else none) := by show _ = _; rw [← HL.out, HAP.out, piece_data (c := (f, m, l)) h h1 h2]
            have e1 : (f != 0) = false := by simp [h1]
            have e2 : (m != 0) = false := by simp [h2]
            clear h1 h2
            have HA1 : Hid (BytO (wr.alloc (.cells #[.int .i64 f, .int .i64 m, .slice ad l.length cd] 108)) w.heap.size (wr.heap.size + 1) (.slice a acc.length c) acc) := (HA.out.kept ((But.refl _ _ _).alloc _)).mono (Nat.le_refl _) (Nat.le_succ _)
            repeat (first | (at_builtin; refine app_byt rfl _ _ rfl (lo := w.heap.size) (ps := acc) rfl HA1.out (qs := l) rfl (BytAt.kept HDA.out ((But.refl _ _ _).alloc _)) rfl (by omega) (by simp; omega) ?_) | go_values | go_skip | go_guarded | go_step | go_upon)
            intro v7 w7 hO7 hB7
            obtain ⟨a7, c7, hf7⟩ := hO7.form
            subst hf7
            have HO7 : Hid (BytO w7 w.heap.size w7.heap.size (.slice a7 (acc ++ l).length c7) (acc ++ l)) := hO7
            have HK7 : Hid (Kept w w7) := (HKP.out.alloc _).onto hB7 (Nat.le_refl _)
            clear hO7 hB7
            have hlen7 : (acc ++ l).length ≤ 400 ↔ acc.length + (l).length ≤ 400 := by simp
            by_cases h7 : acc.length + (l).length ≤ 400
            · have hl8 : (acc ++ l).length ≤ 400 := hlen7.2 h7
              have d7 : decide (400 < ((acc ++ l).length : Int)) = false := decide_eq_false (by omega)
              have HR4 : Hid (applyL old (acc ++ l) (cs.drop (k + 1)) = RES) := by show _ = _; rw [HAP2.out, if_pos h7]
              clear hlen7 h7
              generalize acc ++ l = acc7 at *
              repeat (first | go_values | go_skip | go_guarded | go_step | go_upon)
              exact ⟨⟨k + 1, acc7, a7, c7, hlt, by go_num, rfl, HO7, hl8, HR4, HK7.out⟩, by simp [intOf]; omega⟩
            · have d7 : decide (400 < ((acc ++ l).length : Int)) = true := decide_eq_true (by omega)
              have hR : RES = none := by rw [HAP2.out, if_neg h7]
              subst hR
              clear hlen7 h7
              generalize acc ++ l = acc7 at *
              repeat (first | go_values | go_skip | go_guarded | go_step | go_upon)
              go_ret2
              exact ⟨_, rfl, nil_byt _ _ _, HK7.out⟩
          · have hne : ¬ (f = 0 ∧ m = 0) := fun x => h2 x.2
            have e1 : (f != 0) = false := by simp [h1]
            have e2 : (m != 0) = true := by simpa using h2
            clear h1 h2
            have hR : RES = none := by rw [← HL.out, HAP.out, piece_dno (c := (f, m, l)) h hne]
            subst hR
            repeat (first | go_values | go_skip | go_guarded | go_step | go_upon)
            go_ret2
            exact ⟨_, rfl, nil_byt _ _ _, HKP.out.alloc _⟩
        · have hne : ¬ (f = 0 ∧ m = 0) := fun x => h1 x.1
          have e1 : (f != 0) = true := by simpa using h1
          clear h1
          have hR : RES = none := by rw [← HL.out, HAP.out, piece_dno (c := (f, m, l)) h hne]
          subst hR
          repeat (first | go_values | go_skip | go_guarded | go_step | go_upon)
          go_ret2
          exact ⟨_, rfl, nil_byt _ _ _, HKP.out.alloc _⟩
      · have dd : decide (0 < (l.length : Int)) = false := decide_eq_false (by omega)
        by_cases h1 : f < 0
        · have hne : ¬ (0 ≤ f ∧ 1 ≤ m ∧ m ≤ (old.length : Int) - f) := fun x => by omega
          have e1 : decide (f < 0) = true := decide_eq_true h1
          have hR : RES = none := by rw [← HL.out, HAP.out, piece_no (c := (f, m, l)) h hne]
          subst hR
          repeat (first | go_values | go_skip | go_guarded | go_step | go_upon)
          go_ret2
          exact ⟨_, rfl, nil_byt _ _ _, HKP.out.alloc _⟩
        · have e1 : decide (f < 0) = false := decide_eq_false h1
          by_cases h2 : m < 1
          · have hne : ¬ (0 ≤ f ∧ 1 ≤ m ∧ m ≤ (old.length : Int) - f) := fun x => by omega
            have e2 : decide (m < 1) = true := decide_eq_true h2
            have hR : RES = none := by rw [← HL.out, HAP.out, piece_no (c := (f, m, l)) h hne]
            subst hR
            repeat (first | go_values | go_skip | go_guarded | go_step | go_upon)
            go_ret2
            exact ⟨_, rfl, nil_byt _ _ _, HKP.out.alloc _⟩
          · have e2 : decide (m < 1) = false := decide_eq_false h2
            by_cases h3 : (old.length : Int) < m
            · have hne : ¬ (0 ≤ f ∧ 1 ≤ m ∧ m ≤ (old.length : Int) - f) := fun x => by omega
              have e3 : decide ((old.length : Int) < m) = true := decide_eq_true h3
              have hR : RES = none := by rw [← HL.out, HAP.out, piece_no (c := (f, m, l)) h hne]
              subst hR
              repeat (first | go_values | go_skip | go_guarded | go_step | go_upon)
              go_ret2
              exact ⟨_, rfl, nil_byt _ _ _, HKP.out.alloc _⟩
            · have e3 : decide ((old.length : Int) < m) = false := decide_eq_false h3
              by_cases h4 : (old.length : Int) - m < f
              · have hne : ¬ (0 ≤ f ∧ 1 ≤ m ∧ m ≤ (old.length : Int) - f) := fun x => by omega
                have e4 : decide ((old.length : Int) - m < f) = true := decide_eq_true h4
                have hR : RES = none := by rw [← HL.out, HAP.out, piece_no (c := (f, m, l)) h hne]
                subst hR
                repeat (first | go_values | go_skip | go_guarded | go_step | go_upon)
                go_ret2
                exact ⟨_, rfl, nil_byt _ _ _, HKP.out.alloc _⟩
              · have e4 : decide ((old.length : Int) - m < f) = false := decide_eq_false h4
                have HAP2 : Hid (RES = if acc.length + ((old.drop f.toNat).take m.toNat).length ≤ 400 then applyL old (acc ++ (old.drop f.toNat).take m.toNat) (cs.drop (k + 1)) else none) := by show _ = _; rw [← HL.out, HAP.out, piece_yes (c := (f, m, l)) h (by dsimp only; omega)]
                have HWB : Hid (BytAt wr (.slice (if co = f.toNat then ao else ao.map (·.add f.toNat)) ((old.drop f.toNat).take m.toNat).length (co - f.toNat)) ((old.drop f.toNat).take m.toNat)) := by
                  have := win_byt (k := f.toNat) (m := m.toNat) HOW.out (by omega) (by omega) hco.1
                  rwa [show ((old.drop f.toNat).take m.toNat).length = m.toNat by simp; omega]
                have hlen : ((old.drop f.toNat).take m.toNat).length = (f + m - f).toNat := by simp; omega
                have hsl := fun W => slice_win W ao old.length co f (f + m) (by omega) (by omega) (by omega)
                rw [← hlen] at hsl
                have hppl : ((old.drop f.toNat).take m.toNat).length ≤ 1048576 := by omega
                clear HAP hlen
                generalize (old.drop f.toNat).take m.toNat = PP at *
                generalize (if co = f.toNat then ao else ao.map (·.add f.toNat)) = A9 at *
                generalize co - f.toNat = C9 at *
                have HA1 : Hid (BytO (wr.alloc (.cells #[.int .i64 f, .int .i64 m, .slice ad l.length cd] 108)) w.heap.size (wr.heap.size + 1) (.slice a acc.length c) acc) := (HA.out.kept ((But.refl _ _ _).alloc _)).mono (Nat.le_refl _) (Nat.le_succ _)
                repeat (first | (at_builtin; refine app_byt rfl _ _ rfl (lo := w.heap.size) (ps := acc) rfl HA1.out (qs := PP) rfl (BytAt.kept HWB.out ((But.refl _ _ _).alloc _)) rfl (by omega) (by simp; omega) ?_) | go_values | go_skip | go_guarded | go_step | go_upon)
                intro v7 w7 hO7 hB7
                obtain ⟨a7, c7, hf7⟩ := hO7.form
                subst hf7
                have HO7 : Hid (BytO w7 w.heap.size w7.heap.size (.slice a7 (acc ++ PP).length c7) (acc ++ PP)) := hO7
                have HK7 : Hid (Kept w w7) := (HKP.out.alloc _).onto hB7 (Nat.le_refl _)
                clear hO7 hB7
                have hlen7 : (acc ++ PP).length ≤ 400 ↔ acc.length + (PP).length ≤ 400 := by simp
                by_cases h7 : acc.length + (PP).length ≤ 400
                · have hl8 : (acc ++ PP).length ≤ 400 := hlen7.2 h7
                  have d7 : decide (400 < ((acc ++ PP).length : Int)) = false := decide_eq_false (by omega)
                  have HR4 : Hid (applyL old (acc ++ PP) (cs.drop (k + 1)) = RES) := by show _ = _; rw [HAP2.out, if_pos h7]
                  clear hlen7 h7
                  generalize acc ++ PP = acc7 at *
                  repeat (first | go_values | go_skip | go_guarded | go_step | go_upon)
                  exact ⟨⟨k + 1, acc7, a7, c7, hlt, by go_num, rfl, HO7, hl8, HR4, HK7.out⟩, by simp [intOf]; omega⟩
                · have d7 : decide (400 < ((acc ++ PP).length : Int)) = true := decide_eq_true (by omega)
                  have hR : RES = none := by rw [HAP2.out, if_neg h7]
                  subst hR
                  clear hlen7 h7
                  generalize acc ++ PP = acc7 at *
                  repeat (first | go_values | go_skip | go_guarded | go_step | go_upon)
                  go_ret2
                  exact ⟨_, rfl, nil_byt _ _ _, HK7.out⟩
    · have hR : RES = some acc := by rw [← HL.out, apply_end hlt]
      subst hR
      have hke : k = cs.length := by omega
      subst hke
      have HK : Hid (Kept w wr) := hkp
      clear hkp
      repeat (first | go_values | go_skip | go_guarded | go_step | go_upon)
      go_ret2
      exact ⟨_, rfl, HA.out, HK.out⟩

end Go.Proofs.Ytipgffikmnebnaa
