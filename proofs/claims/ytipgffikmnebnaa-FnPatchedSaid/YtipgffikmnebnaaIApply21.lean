/-
  ApplyPatch in the program.
-/
import Derived.Test.YtipgffikmnebnaaPieces21
namespace Go.Proofs.Ytipgffikmnebnaa
open Go.ChangeShapes Go.WideShapes Go.ChangeAt Go.RowKit

set_option maxRecDepth 100000
set_option linter.unusedVariables false
set_option linter.unusedSimpArgs false

set_option maxHeartbeats 8000000 in
theorem iapply (old : List UInt8) (cs : List ChunkD) (ao : Option Addr) (co : Nat) (vc : Value) (w : World) (ho : BytAt w (.slice ao old.length co) old) (hco : old.length ≤ co ∧ co ≤ 9223372036854775807) (hv : ChunksAt w vc cs) (hol : old.length ≤ 1048576) (hn : chunksCost cs ≤ 1048576) (hr : ∀ p ∈ cs, -9223372036854775808 ≤ p.1 ∧ p.1 ≤ 9223372036854775807) :
    Calls Try.prog 24 #[.slice ao old.length co, vc] w fun e w' => ∃ v', e = .returned (.tuple #[v', .bool (applyA old cs).isSome]) ∧ BytO w' w.heap.size w'.heap.size v' ((applyA old cs).getD []) ∧ Kept w w' := by
  have hcl : cs.length ≤ 1048576 := by unfold chunksCost at hn; omega
  obtain ⟨ac, cc, hsl⟩ := hv.form
  subst hsl
  have HRG : Hid (∀ p ∈ cs, -9223372036854775808 ≤ p.1 ∧ p.1 ≤ 9223372036854775807) := hr
  have HCO : Hid (chunksCost cs ≤ 1048576) := hn
  have HO : Hid (BytAt w (.slice ao old.length co) old) := ho
  have HV : Hid (ChunksAt w (.slice ac cs.length cc) cs) := hv
  clear hr hn ho hv
  obtain ⟨RES, hRES⟩ : ∃ r, applyA old cs = r := ⟨_, rfl⟩
  have HRE : Hid (applyA old cs = RES) := hRES
  rw [hRES]
  clear hRES
  by_cases h1 : 400 < old.length
  · have d1 : decide (400 < (old.length : Int)) = true := decide_eq_true (by omega)
    have hR : RES = none := by rw [← HRE.out]; unfold applyA; rw [if_neg (by omega)]
    subst hR
    go_enter Try.func24, Try.ntmps24
    repeat (first | go_values | go_skip | go_guarded | go_step | go_upon)
    go_ret2
    exact ⟨_, rfl, nil_byt _ _ _, But.refl _ _ _⟩
  have d1 : decide (400 < (old.length : Int)) = false := decide_eq_false (by omega)
  by_cases h2 : 400 < cs.length
  · have d2 : decide (400 < (cs.length : Int)) = true := decide_eq_true (by omega)
    have hR : RES = none := by rw [← HRE.out]; unfold applyA; rw [if_neg (by omega)]
    subst hR
    go_enter Try.func24, Try.ntmps24
    repeat (first | go_values | go_skip | go_guarded | go_step | go_upon)
    go_ret2
    exact ⟨_, rfl, nil_byt _ _ _, But.refl _ _ _⟩
  have d2 : decide (400 < (cs.length : Int)) = false := decide_eq_false (by omega)
  have HRS : Hid (applyL old [] cs = RES) := by show _ = _; rw [← HRE.out]; unfold applyA; rw [if_pos (by omega)]
  go_enter Try.func24, Try.ntmps24
  repeat (first | go_values | go_skip | go_guarded | go_step | go_upon)
  clear d1 d2
  go_loopw [6, 21] (fun s i wr => ∃ (k : Nat) (acc : List UInt8) (a : Option Addr) (c : Nat), k ≤ cs.length ∧ i = .int .i64 k ∧ s = .slice a acc.length c ∧ Hid (BytO wr w.heap.size wr.heap.size (.slice a acc.length c) acc) ∧ acc.length ≤ 400 ∧ Hid (applyL old acc (cs.drop k) = RES) ∧ Kept w wr) (fun s i _ => cs.length - (intOf i).toNat)
  case atStart => exact ⟨0, [], none, 0, by omega, rfl, rfl, nil_byt _ _ _, by simp, by rw [List.drop_zero]; exact HRS, But.refl _ _ _⟩
  case round =>
    obtain ⟨k, acc, a, c, hk, rfl, rfl, HA, hacc, HL, hkp⟩ := hrel
    by_cases hlt : k < cs.length
    · obtain ⟨d, hd⟩ : ∃ p, cs[k]? = some p := ⟨_, List.getElem?_eq_getElem hlt⟩
      have hap := apply_at (old := old) (acc := acc) hd
      obtain ⟨b, o, cap', s, ee, c0, c1, c2, hka⟩ := (HV.out.kept hkp).get hd
      cases ee
      have hrg := HRG.out d (List.mem_of_getElem? hd)
      have hone := chunks_one (ds := cs) (d := d) (List.mem_of_getElem? hd)
      unfold chunksOne at hone
      have hdl : d.2.2.length ≤ 1048576 := by have := HCO.out; omega
      have HKP : Hid (Kept w wr) := hkp
      obtain ⟨f, m, l⟩ := d
      dsimp only at c0 c1 c2 hka hrg hone hdl hap
      obtain ⟨ad, cd, hsl⟩ := row_nil hka
      subst hsl
      have HOW : Hid (BytAt wr (.slice ao old.length co) old) := HO.out.kept hkp
      have HDA : Hid (BytAt wr (.slice ad l.length cd) l) := hka
      have hpl : ∀ p, pieceP old (f, m, l) = some p → p.length ≤ 2097152 := fun p hp => by have := piece_len hp; dsimp only at this; omega
      have HPL : Hid (∀ p, pieceP old (f, m, l) = some p → p.length ≤ 2097152) := hpl
      have HPC : Hid (∀ W, Kept wr W → Calls Try.prog 79 #[.slice ao old.length co, .agg #[.int .i64 f, .int .i64 m, .slice ad l.length cd]] W fun e w' => ∃ a9 n9 c9 b, e = .returned (.tuple #[.slice a9 n9 c9, .bool b]) ∧ b = (pieceP old (f, m, l)).isSome ∧ (∀ p, pieceP old (f, m, l) = some p → n9 = p.length ∧ BytAt W (.slice a9 n9 c9) p) ∧ Kept W w') := fun W k => ipiece f m l old ad ao cd co W (HDA.out.kept k) (HOW.out.kept k) hco hdl hol hrg
      have HAP : Hid (applyL old acc (cs.drop k) = (match pieceP old (f, m, l) with
        | none => none
        | some p => if acc.length + p.length ≤ 400 then applyL old (acc ++ p) (cs.drop (k + 1)) else none)) := hap
      have L8 := Loc.new wr [.int .i64 f, .int .i64 m, .slice ad l.length cd] 108
      clear hd hkp hka hrg hone hap hpl
      have z0 : (0 : Int) ≤ (k : Int) := by omega
      have z1 : (k : Int) < (cs.length : Int) := by omega
      repeat (first | go_values | go_skip | go_guarded | go_step | go_upon)
      go_at_call 79
      refine (HPC.out _ ((But.refl _ _ _).alloc _)).mono ?_
      rintro e w4 ⟨a9, n9, c9, b9, rfl, hb9, hp9, k4⟩
      have HK4 : Hid (Kept wr w4) := ((But.refl _ _ _).alloc _).trans k4
      have HP9 : Hid (∀ p, pieceP old (f, m, l) = some p → n9 = p.length ∧ BytAt w4 (.slice a9 n9 c9) p) := fun p hp => ⟨(hp9 p hp).1, (hp9 p hp).2.kept k4⟩
      clear k4 hp9 c0 c1 c2 L8
      cases hpp : pieceP old (f, m, l) with
      | none =>
        rw [hpp] at hb9
        have hb : b9 = false := hb9
        subst hb
        have hR : RES = none := by rw [← HL.out, HAP.out, hpp]
        subst hR
        clear hb9
        dsimp only
        repeat (first | go_values | go_skip | go_guarded | go_step | go_upon)
        go_ret2
        exact ⟨_, rfl, nil_byt _ _ _, HKP.out.trans HK4.out⟩
      | some p =>
        rw [hpp] at hb9
        have hb : b9 = true := hb9
        subst hb
        obtain ⟨hn9, hat⟩ := HP9.out p hpp
        subst hn9
        have hpl := HPL.out p hpp
        have HAT : Hid (BytAt w4 (.slice a9 p.length c9) p) := hat
        have HA4 : Hid (BytO w4 w.heap.size w4.heap.size (.slice a acc.length c) acc) := (HA.out.kept HK4.out).mono (Nat.le_refl _) HK4.out.size
        have HAP2 : Hid (RES = if acc.length + p.length ≤ 400 then applyL old (acc ++ p) (cs.drop (k + 1)) else none) := by show _ = _; rw [← HL.out, HAP.out, hpp]
        have HKW : Hid (Kept w w4) := HKP.out.trans HK4.out
        have hwsz := HKW.out.size
        clear hb9 hat
        by_cases h4 : acc.length + p.length ≤ 400
        · have d4 : decide ((400 : Int) - (acc.length : Int) < (p.length : Int)) = false := decide_eq_false (by omega)
          have HR4 : Hid (applyL old (acc ++ p) (cs.drop (k + 1)) = RES) := by show _ = _; rw [HAP2.out, if_pos h4]
          dsimp only
          repeat (first | (at_builtin; refine app_byt rfl _ _ rfl (lo := w.heap.size) (ps := acc) rfl HA4.out (ao := a9) (m := p.length) (c := c9) (qs := p) rfl HAT.out rfl (by omega) hwsz ?_) | go_values | go_skip | go_guarded | go_step | go_upon)
          intro v7 w7 hO7 hB7
          obtain ⟨a7, c7, hf7⟩ := hO7.form
          subst hf7
          have HO7 : Hid (BytO w7 w.heap.size w7.heap.size (.slice a7 (acc ++ p).length c7) (acc ++ p)) := hO7
          have HK7 : Hid (Kept w w7) := HKW.out.onto hB7 (Nat.le_refl _)
          clear hO7 hB7
          have hlen7 : (acc ++ p).length ≤ 400 := by simp; omega
          generalize acc ++ p = acc7 at *
          repeat (first | go_values | go_skip | go_guarded | go_step | go_upon)
          exact ⟨⟨k + 1, acc7, a7, c7, hlt, by go_num, rfl, HO7, hlen7, HR4, HK7.out⟩, by simp [intOf]; omega⟩
        · have d4 : decide ((400 : Int) - (acc.length : Int) < (p.length : Int)) = true := decide_eq_true (by omega)
          have hR : RES = none := by rw [HAP2.out, if_neg h4]
          subst hR
          dsimp only
          repeat (first | go_values | go_skip | go_guarded | go_step | go_upon)
          go_ret2
          exact ⟨_, rfl, nil_byt _ _ _, HKW.out⟩
    · have hR : RES = some acc := by rw [← HL.out, apply_end hlt]
      subst hR
      have hke : k = cs.length := by omega
      subst hke
      have HK : Hid (Kept w wr) := hkp
      clear hkp
      repeat (first | go_values | go_skip | go_guarded | go_step | go_upon)
      go_ret2
      exact ⟨_, rfl, HA.out, HK.out⟩

end Go.Proofs.Ytipgffikmnebnaa
