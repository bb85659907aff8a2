/-
  What WriteSave of the program answers.
-/
import Derived.Lib.SlBytesConst
import Derived.ArgAppend
import Derived.Test.YtklgjhemcofhhaaSaveC22
import Derived.Test.YtklgjhemcofhhaaWNum22
import Derived.Test.YtklgjhemcofhhaaWFour22
import Derived.Test.YtklgjhemcofhhaaDig22
import Derived.Test.YtklgjhemcofhhaaIGood22
import Derived.Deep.Cut
import Derived.BigQuiet
import Derived.WalkLawsBesides
namespace Go.Proofs.Ytklgjhemcofhhaa
open Go.ChangeShapes Go.WideShapes Go.ChangeAt Go.RowKit

set_option maxRecDepth 100000
set_option linter.unusedVariables false
set_option linter.unusedSimpArgs false
theorem forgetXW {P : Program} {c : Go.Code} {Q : Exit → Act → World → Prop} {a : Act} {W : World} (F : World → Prop) (hF : F W) (h : ∀ W', F W' → Code.wp P c Q a W') : Code.wp P c Q a W := h W hF

set_option maxHeartbeats 8000000 in
theorem iwrite (version : Int) (l : List ValD) (v : Value) (w : World) (hv : ValAt w v l) (hn : l.length ≤ 1048576) (hs0 : ∀ d ∈ l, d.1.size ≤ 1048576 ∧ d.2.2.size ≤ 1048576) :
    Calls Try.prog 12 #[.int .i64 version, v] w fun e w' => ∃ v', e = .returned (.tuple #[v', .bool (decide ((1 ≤ version ∧ version ≤ 250) ∧ ValsP l))]) ∧ BytO w' w.heap.size w'.heap.size v' (saveR version l) ∧ Kept w w' := by
  obtain ⟨ao, cap, hsl⟩ := row_nil hv
  subst hsl
  have AG : Hid (∀ W, Kept w W → Calls Try.prog 9 #[.slice ao l.length cap] W fun e w' => e = .returned (.bool (decide (ValsP l))) ∧ Kept W w') := fun W k => igoodv l _ W (hv.kept k) hn hs0
  by_cases h1 : 1 ≤ version ∧ version ≤ 250
  case neg =>
    rw [show decide ((1 ≤ version ∧ version ≤ 250) ∧ ValsP l) = false from decide_eq_false (fun h => h1 h.1), show saveR version l = [] from if_neg (fun h => h1 h.1)]
    have d1 : decide (1 ≤ version ∧ version ≤ 250) = false := decide_eq_false h1
    clear h1 AG
    go_enter Try.func12, Try.ntmps12
    repeat (first | (go_at_call 29; refine (iversion _ _).mono ?_; rintro e w3 ⟨rfl, hw3⟩; rw [hw3]; clear hw3 w3; rw [d1]; dsimp only) | go_values | go_skip | go_guarded | go_step | go_upon)
    go_ret2
    exact ⟨_, rfl, nil_byt _ _ _, But.refl _ _ _⟩
  have d1 : decide (1 ≤ version ∧ version ≤ 250) = true := decide_eq_true h1
  by_cases h2 : ValsP l
  case neg =>
    rw [show decide ((1 ≤ version ∧ version ≤ 250) ∧ ValsP l) = false from decide_eq_false (fun h => h2 h.2), show saveR version l = [] from if_neg (fun h => h2 h.2)]
    rw [decide_eq_false h2] at AG
    clear h1 h2
    go_enter Try.func12, Try.ntmps12
    repeat (first | (go_at_call 29; refine (iversion _ _).mono ?_; rintro e w3 ⟨rfl, hw3⟩; rw [hw3]; clear hw3 w3; rw [d1]; dsimp only) | (go_at_call 9; with_reducible refine (AG.out _ (But.refl _ _ _)).mono ?_; rintro e w9 ⟨rfl, k9⟩; dsimp only) | go_values | go_skip | go_guarded | go_step | go_upon)
    go_ret2
    exact ⟨_, rfl, nil_byt _ _ _, k9⟩
  rw [show decide ((1 ≤ version ∧ version ≤ 250) ∧ ValsP l) = true from decide_eq_true ⟨h1, h2⟩, show saveR version l = saveB version l from if_pos ⟨h1, h2⟩]
  rw [decide_eq_true h2] at AG
  have HV1 : Hid (ValsP l) := h2
  have HSM : Hid (l.length ≤ 30 ∧ ∀ d ∈ l, d.1.size ≤ 20 ∧ d.2.2.size ≤ 100) := vals_small h2
  have hl30 : l.length ≤ 30 := (vals_small h2).1
  have e1 : IntKind.u8.wrap version = ((UInt8.ofNat version.toNat).toNat : Int) := by rw [IntKind.wrap_u8, u8_of]; omega
  have e2 : IntKind.u8.wrap (l.length : Int) = ((UInt8.ofNat l.length).toNat : Int) := by rw [IntKind.wrap_u8, u8_of]
  have HBD : Hid (bodyB version l = [83, 65, 86, 69, UInt8.ofNat version.toNat, UInt8.ofNat l.length] ++ l.flatMap valueB) := rfl
  generalize UInt8.ofNat version.toNat = B1 at *
  generalize UInt8.ofNat l.length = B2 at *
  have HV : Hid (ValAt w (.slice ao l.length cap) l) := hv
  clear h1 h2 hs0 hn hv
  have kc := fun (w : World) (C : Array Value) (n c : Nat) => Lib.run_convert_bytes_const (P := Try.prog) w 29 5 C n c Try.underlying29 Try.underlying5
  go_enter Try.func12, Try.ntmps12
  repeat (first | (go_at_call 29; refine (iversion _ _).mono ?_; rintro e w3 ⟨rfl, hw3⟩; rw [hw3]; clear hw3 w3; rw [d1]; dsimp only) | go_values | go_skip | go_guarded | go_step | go_upon)
  go_at_call 9
  with_reducible refine (AG.out _ (But.refl _ _ _)).mono ?_
  rintro e w9 ⟨rfl, k9⟩
  have HK9 : Hid (Kept w w9) := k9
  clear k9
  dsimp only
  repeat (first | (at_builtin; refine forgetL (fun w' => w' = _) rfl ?_) | go_values | go_skip | go_guarded | go_step | go_upon)
  intro W7 hW7
  rw [hW7]
  clear hW7 W7
  obtain ⟨i0, hi0, hz0, hz1, hz2⟩ := info_parts info_bytA
  refine wpList_append_grows _ rfl _ _ 29 rfl 5 i0 (.int .u8 0) 1 1 Try.underlying29 hi0 hz0 hz1 hz2 rfl (by decide) (some ⟨w9.heap.size, 0, none⟩) 4 4 (([83, 65, 86, 69] : List BytD).flatMap bytC) rfl (by intro h; cases h) rfl (fun b hb j u hj => by cases hb; exact mark_cells w9 [83, 65, 86, 69] [B1, B2] _ j u hj) ⟨w9.heap.size + 1, 0, none⟩ 2 2 (([B1, B2] : List BytD).flatMap bytC) rfl rfl (fun j u hj => mark_cells2 w9 [83, 65, 86, 69] [B1, B2] _ j u hj) (ones_byt [B1, B2]) (by decide) (by unfold maxLen; decide) (by decide) ?_
  intro v5 w5 h5 g5
  have k5 : Kept w w5 := HK9.out.trans ((((But.refl _ _ _).alloc _).alloc _).grown g5 (fun g hg => by cases hg))
  have o5 : BytO w5 w.heap.size w5.heap.size v5 [83, 65, 86, 69, B1, B2] := by
    refine RowO.top ⟨h5.1, h5.2.imp id (fun ⟨g, c2, cur, h1, h2, h3⟩ => ⟨g, c2, cur, h1, ?_, h3⟩)⟩
    have := HK9.out.size
    simp at h2
    omega
  obtain ⟨a5, p5, hf⟩ := o5.form
  subst hf
  clear e1 e2 HK9 h5 g5 kc
  repeat (first | go_values | go_skip | go_guarded | go_step | go_upon)
  go_loopw [6, 28] (fun s i wr => ∃ (k : Nat) (X : List BytD), k ≤ l.length ∧ i = .int .i64 k ∧ Hid ([83, 65, 86, 69, B1, B2] ++ (l.take k).flatMap valueB = X) ∧ BytO wr w.heap.size wr.heap.size s X ∧ Kept w wr) (fun s i _ => l.length - (intOf i).toNat)
  case atStart => exact ⟨0, _, by omega, rfl, by show _ = _; simp, o5, k5⟩
  case round =>
    obtain ⟨k, X, hk, rfl, HX, ox, hkp⟩ := hrel
    have HXB : Hid (X.length ≤ 4000) := by
      show X.length ≤ 4000
      have := take_value_len l HSM.out.2 k
      rw [← HX.out, List.length_append]
      simp only [List.length_cons, List.length_nil]
      omega
    obtain ⟨a, p, hf⟩ := ox.form
    subst hf
    have OX : Hid (BytO wr w.heap.size wr.heap.size (.slice a X.length p) X) := ox
    have HK : Hid (Kept w wr) := hkp
    by_cases hlt : k < l.length
    · obtain ⟨d, hd⟩ : ∃ d, l[k]? = some d := ⟨_, List.getElem?_eq_getElem hlt⟩
      obtain ⟨b, o, cap1, e, c0, c1, c2⟩ := val_get (HV.out.kept hkp) hd
      cases e
      have hsz := HSM.out.2 d (List.mem_of_getElem? hd)
      have HTK : Hid (l.take (k + 1) = l.take k ++ [d]) := take_snoc hd
      obtain ⟨d0, dn, d2⟩ := d
      dsimp only at c0 c1 c2 hsz
      have HSZ : Hid (d0.size ≤ 20 ∧ d2.size ≤ 100) := hsz
      have HSW : Hid (w.heap.size ≤ wr.heap.size) := hkp.size
      clear hd hkp ox hsz
      repeat (go_not_at_region 7; first | go_values | go_skip | go_guarded | go_step | go_upon)
      refine forgetXW (fun W => LocV W wr.heap.size (d0, dn, d2) ∧ Kept wr W) ⟨LocV.new wr (d0, dn, d2), (But.refl _ _ _).alloc _⟩ ?_
      intro w6 hw6
      obtain ⟨l6, k6⟩ := hw6
      obtain ⟨bb, hbb⟩ : ∃ bb, wr.heap.size = bb := ⟨_, rfl⟩
      rw [hbb] at l6 ⊢
      have L6 : Hid (LocV w6 bb (d0, dn, d2)) := l6
      have K6 : Hid (Kept w w6) := HK.out.trans k6
      have O6 : Hid (BytO w6 w.heap.size bb (.slice a X.length p) X) := by rw [← hbb]; exact OX.out.kept k6
      have S6 : Hid (w.heap.size ≤ w6.heap.size) := Nat.le_trans HSW.out k6.size
      clear c0 c1 c2
      have c0 := l6.loc.cell 0 rfl
      have c1 := l6.loc.cell 1 rfl
      have c2 := l6.loc.cell 2 rfl
      have cl := l6.lt
      clear k6 l6 hbb OX HK
      repeat (first | go_values | go_skip | go_guarded | go_step | go_upon)
      go_at_call 30
      refine (withText X d0 a p w.heap.size bb w6 O6.out S6.out (by have := HXB.out; omega) (by have := HSZ.out; omega)).mono ?_
      rintro e w1 ⟨v1, rfl, o1, b1⟩
      have L1 : Hid (LocV w1 bb (d0, dn, d2)) := L6.out.byt O6.out b1
      have K1 : Hid (Kept w w1) := butv_below O6.out (Nat.le_refl _) K6.out b1
      have S1 : Hid (w.heap.size ≤ w1.heap.size) := Nat.le_trans (show w.heap.size ≤ _ from S6.out) b1.size
      obtain ⟨a1, p1, hf⟩ := o1.form
      subst hf
      obtain ⟨X1, hX⟩ : ∃ Z, X ++ textB d0 = Z := ⟨_, rfl⟩
      rw [hX] at o1 ⊢
      have HX1 : Hid (X ++ textB d0 = X1) := hX
      have O1 : Hid (BytO w1 w.heap.size w1.heap.size (.slice a1 X1.length p1) X1) := o1
      clear c0 c1 c2 cl
      have c0 := L1.out.loc.cell 0 (v := .string d0) rfl
      have c1 := L1.out.loc.cell 1 (v := .int .i64 dn) rfl
      have c2 := L1.out.loc.cell 2 (v := .string d2) rfl
      have cl := L1.out.lt
      clear hX o1 b1
      dsimp only
      have HL1 : Hid (X1.length ≤ 4021) := by show X1.length ≤ 4021; have := HXB.out; have := HSZ.out; rw [← HX1.out, List.length_append, textB_len]; omega
      repeat (first | go_values | go_skip | go_guarded | go_step | go_upon)
      go_at_call 31
      refine (withNum X1 dn a1 p1 w.heap.size w1.heap.size w1 O1.out S1.out (by have := HL1.out; omega)).mono ?_
      rintro e w2 ⟨v2, rfl, o2, b2⟩
      have L2 : Hid (LocV w2 bb (d0, dn, d2)) := L1.out.byt O1.out b2
      have K2 : Hid (Kept w w2) := butv_below O1.out (Nat.le_refl _) K1.out b2
      have S2 : Hid (w.heap.size ≤ w2.heap.size) := Nat.le_trans (show w.heap.size ≤ _ from S1.out) b2.size
      obtain ⟨a2, p2, hf⟩ := o2.form
      subst hf
      obtain ⟨X2, hX⟩ : ∃ Z, X1 ++ numBytes dn = Z := ⟨_, rfl⟩
      rw [hX] at o2 ⊢
      have HX2 : Hid (X1 ++ numBytes dn = X2) := hX
      have O2 : Hid (BytO w2 w.heap.size w2.heap.size (.slice a2 X2.length p2) X2) := o2
      clear c0 c1 c2 cl
      have c0 := L2.out.loc.cell 0 (v := .string d0) rfl
      have c1 := L2.out.loc.cell 1 (v := .int .i64 dn) rfl
      have c2 := L2.out.loc.cell 2 (v := .string d2) rfl
      have cl := L2.out.lt
      clear hX o2 b2
      dsimp only
      have HL2 : Hid (X2.length ≤ 4029) := by show X2.length ≤ 4029; have := HL1.out; rw [← HX2.out, List.length_append, numBytes_len]; omega
      repeat (first | go_values | go_skip | go_guarded | go_step | go_upon)
      go_at_call 30
      refine (withText X2 d2 a2 p2 w.heap.size w2.heap.size w2 O2.out S2.out (by have := HL2.out; omega) (by have := HSZ.out; omega)).mono ?_
      rintro e w3 ⟨v3, rfl, o3, b3⟩
      have L3 : Hid (LocV w3 bb (d0, dn, d2)) := L2.out.byt O2.out b3
      have K3 : Hid (Kept w w3) := butv_below O2.out (Nat.le_refl _) K2.out b3
      have S3 : Hid (w.heap.size ≤ w3.heap.size) := Nat.le_trans (show w.heap.size ≤ _ from S2.out) b3.size
      obtain ⟨a3, p3, hf⟩ := o3.form
      subst hf
      obtain ⟨X3, hX⟩ : ∃ Z, X2 ++ textB d2 = Z := ⟨_, rfl⟩
      rw [hX] at o3 ⊢
      have HX3 : Hid (X2 ++ textB d2 = X3) := hX
      have O3 : Hid (BytO w3 w.heap.size w3.heap.size (.slice a3 X3.length p3) X3) := o3
      clear c0 c1 c2 cl
      have c0 := L3.out.loc.cell 0 (v := .string d0) rfl
      have c1 := L3.out.loc.cell 1 (v := .int .i64 dn) rfl
      have c2 := L3.out.loc.cell 2 (v := .string d2) rfl
      have cl := L3.out.lt
      clear hX o3 b3
      dsimp only
      repeat (first | go_values | go_skip | go_guarded | go_step | go_upon)
      refine ⟨⟨k + 1, X3, hlt, by go_num, ?_, O3.out, K3.out⟩, by simp [intOf]; omega⟩
      show _ = _
      rw [HTK.out, body_snoc 0, HX.out, ← HX3.out, ← HX2.out, ← HX1.out]
      unfold valueB
      simp only [List.append_assoc]
    · have hke : k = l.length := by omega
      subst hke
      have hB := HX.out
      rw [List.take_length, ← HBD.out] at hB
      have HB : Hid (bodyB version l = X) := hB
      have HDN : Hid (digN X < 4294967296) := digN_lt X
      clear hB ox hkp
      obtain ⟨N, hN⟩ : ∃ N, digN X = N := ⟨_, rfl⟩
      have AD : Hid (Calls Try.prog 33 #[.slice a X.length p] wr fun e w' => e = .returned (.int .u32 (N : Int)) ∧ Kept wr w') := by rw [← hN]; exact idigest X _ wr OX.out.at (by have := HXB.out; omega)
      have HN : Hid (digN X = N) := hN
      clear hN
      repeat (first | go_values | go_skip | go_guarded | go_step | go_upon)
      go_at_call 33
      refine AD.out.mono ?_
      rintro e w1 ⟨rfl, k1⟩
      have O1 : Hid (BytO w1 w.heap.size wr.heap.size (.slice a X.length p) X) := OX.out.kept k1
      have K1 : Hid (Kept w w1) := HK.out.trans k1
      clear k1
      dsimp only
      repeat (first | go_values | go_skip | go_guarded | go_step | go_upon)
      go_at_call 32
      refine (withFour X N a p w.heap.size wr.heap.size w1 O1.out K1.out.size (by have := HXB.out; omega) (by rw [← HN.out]; exact HDN.out)).mono ?_
      rintro e w2 ⟨v2, rfl, o2, b2⟩
      have K2 : Hid (Kept w w2) := butv_below O1.out (Nat.le_refl _) K1.out b2
      obtain ⟨a2, p2, hf⟩ := o2.form
      subst hf
      have HSV : Hid (saveB version l = X ++ fourB N) := by show _ = _; unfold saveB; rw [HB.out, HN.out]
      have h3910 : (X ++ fourB N).length ≤ 3910 := by rw [← HSV.out]; exact save_len HV1.out
      generalize X ++ fourB N = Z at *
      have O2 : Hid (BytO w2 w.heap.size w2.heap.size (.slice a2 Z.length p2) Z) := o2
      have d4 : decide ((4000 : Int) < (Z.length : Int)) = false := decide_eq_false (by omega)
      clear b2 o2 h3910
      dsimp only
      repeat (first | go_values | go_skip | go_guarded | go_step | go_upon)
      go_ret2
      exact ⟨_, rfl, by rw [HSV.out]; exact O2.out, K2.out⟩

end Go.Proofs.Ytklgjhemcofhhaa
