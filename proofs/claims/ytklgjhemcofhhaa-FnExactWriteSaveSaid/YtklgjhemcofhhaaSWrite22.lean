/-
  What WriteSave of the specification answers.
-/
import Derived.Lib.SlBytesConst
import Derived.Test.YtklgjhemcofhhaaSaveC22
import Derived.Test.YtklgjhemcofhhaaWNum22
import Derived.Test.YtklgjhemcofhhaaDig22
import Derived.Test.YtklgjhemcofhhaaSGood22
import Derived.Deep.Cut
import Derived.BigQuiet
import Derived.WalkLawsBesides
namespace Go.Proofs.Ytklgjhemcofhhaa
open Go.ChangeShapes Go.WideShapes Go.ChangeAt Go.RowKit

set_option maxRecDepth 100000
set_option linter.unusedVariables false
set_option linter.unusedSimpArgs false

theorem numByte_mod (n : Int) (k : Nat) (hk : k < 8) : (n % 18446744073709551616) / 2 ^ (8 * k) % 256 = ((numByte n k).toNat : Int) := by
  have h := numByte_shr n k hk
  rw [IntKind.wrap_u8] at h
  rw [← h]
  rcases (show k = 0 ∨ k = 1 ∨ k = 2 ∨ k = 3 ∨ k = 4 ∨ k = 5 ∨ k = 6 ∨ k = 7 by omega) with rfl | rfl | rfl | rfl | rfl | rfl | rfl | rfl <;> simp <;> omega
theorem locv_kept {w w' : World} {b : Nat} {d : ValD} (h : LocV w b d) (k : Kept w w') : LocV w' b d := by
  unfold LocV
  rw [k.block b h.lt (by omega)]
  exact h

set_option maxHeartbeats 8000000 in
theorem swrite (version : Int) (l : List ValD) (v : Value) (w : World) (hv : ValAt w v l) (hn : l.length ≤ 1048576) (hs0 : ∀ d ∈ l, d.1.size ≤ 1048576 ∧ d.2.2.size ≤ 1048576) :
    Calls Try.prog 11 #[.int .i64 version, v] w fun e w' => ∃ v', e = .returned (.tuple #[v', .bool (decide ((1 ≤ version ∧ version ≤ 250) ∧ ValsP l))]) ∧ BytO w' w.heap.size w'.heap.size v' (saveR version l) ∧ Kept w w' := by
  obtain ⟨ao, cap, hsl⟩ := row_nil hv
  subst hsl
  have AG : Hid (∀ W, Kept w W → Calls Try.prog 7 #[.slice ao l.length cap] W fun e w' => e = .returned (.bool (decide (ValsP l))) ∧ Kept W w') := fun W k => sgoodv l _ W (hv.kept k) hn hs0
  by_cases h1 : 1 ≤ version ∧ version ≤ 250
  case neg =>
    rw [show decide ((1 ≤ version ∧ version ≤ 250) ∧ ValsP l) = false from decide_eq_false (fun h => h1 h.1), show saveR version l = [] from if_neg (fun h => h1 h.1)]
    have d1 : decide (1 ≤ version ∧ version ≤ 250) = false := decide_eq_false h1
    clear h1 AG
    go_enter Try.func11, Try.ntmps11
    repeat (first | (go_at_call 27; refine (sInG _ _ _ _).mono ?_; rintro e w3 ⟨rfl, hw3⟩; rw [hw3]; clear hw3 w3; rw [d1]; dsimp only) | go_values | go_skip | go_guarded | go_step | go_upon)
    go_ret2
    exact ⟨_, rfl, nil_byt _ _ _, But.refl _ _ _⟩
  have d1 : decide (1 ≤ version ∧ version ≤ 250) = true := decide_eq_true h1
  by_cases h2 : ValsP l
  case neg =>
    rw [show decide ((1 ≤ version ∧ version ≤ 250) ∧ ValsP l) = false from decide_eq_false (fun h => h2 h.2), show saveR version l = [] from if_neg (fun h => h2 h.2)]
    rw [decide_eq_false h2] at AG
    clear h1 h2
    go_enter Try.func11, Try.ntmps11
    repeat (first | (go_at_call 27; refine (sInG _ _ _ _).mono ?_; rintro e w3 ⟨rfl, hw3⟩; rw [hw3]; clear hw3 w3; rw [d1]; dsimp only) | (go_at_call 7; with_reducible refine (AG.out _ (But.refl _ _ _)).mono ?_; rintro e w9 ⟨rfl, k9⟩; dsimp only) | go_values | go_skip | go_guarded | go_step | go_upon)
    go_ret2
    exact ⟨_, rfl, nil_byt _ _ _, k9⟩
  rw [show decide ((1 ≤ version ∧ version ≤ 250) ∧ ValsP l) = true from decide_eq_true ⟨h1, h2⟩, show saveR version l = saveB version l from if_pos ⟨h1, h2⟩]
  rw [decide_eq_true h2] at AG
  have HV1 : Hid (ValsP l) := h2
  have HSM : Hid (l.length ≤ 30 ∧ ∀ d ∈ l, d.1.size ≤ 20 ∧ d.2.2.size ≤ 100) := vals_small h2
  have hl30 : l.length ≤ 30 := (vals_small h2).1
  have e1 : IntKind.u8.wrap version = ((UInt8.ofNat version.toNat).toNat : Int) := by rw [IntKind.wrap_u8, u8_of]; omega
  have e2 : IntKind.u8.wrap (l.length : Int) = ((UInt8.ofNat l.length).toNat : Int) := by rw [IntKind.wrap_u8, u8_of]
  have HBD : Hid (bodyB version l = [83, 65, 86, 69, UInt8.ofNat version.toNat, UInt8.ofNat l.length] ++ l.flatMap valueB) := rfl
  generalize UInt8.ofNat version.toNat = B1 at *
  generalize UInt8.ofNat l.length = B2 at *
  have HV : Hid (ValAt w (.slice ao l.length cap) l) := hv
  clear h1 h2 hs0 hn hv
  have kc0 := fun (w : World) (C : Array Value) (n c : Nat) => Lib.run_convert_bytes_const (P := Try.prog) w 29 5 C n c Try.underlying29 Try.underlying5
  clear kc0
  go_enter Try.func11, Try.ntmps11
  repeat (first | (go_at_call 27; refine (sInG _ _ _ _).mono ?_; rintro e w3 ⟨rfl, hw3⟩; rw [hw3]; clear hw3 w3; rw [d1]; dsimp only) | go_values | go_skip | go_guarded | go_step | go_upon)
  go_at_call 7
  with_reducible refine (AG.out _ (But.refl _ _ _)).mono ?_
  rintro e w9 ⟨rfl, k9⟩
  have HK9 : Hid (Kept w w9) := k9
  clear k9
  dsimp only
  have LB := lit_byt w9 [83, 65, 86, 69, B1, B2] (by simp)
  have o5 : BytO (w9.alloc (.cells ([83, 65, 86, 69, B1, B2].flatMap bytC).toArray 5)) w.heap.size (w9.alloc (.cells ([83, 65, 86, 69, B1, B2].flatMap bytC).toArray 5)).heap.size (.slice (some ⟨w9.heap.size, 0, none⟩) 6 6) [83, 65, 86, 69, B1, B2] := by
    refine RowO.top ⟨LB.1.1, LB.1.2.imp id (fun ⟨g, c2, cur, h1, h2, h3⟩ => ⟨g, c2, cur, h1, ?_, h3⟩)⟩
    have := HK9.out.size
    omega
  have k5 : Kept w (w9.alloc (.cells ([83, 65, 86, 69, B1, B2].flatMap bytC).toArray 5)) := HK9.out.alloc _
  have HO5 : Hid _ := o5
  clear LB
  repeat (first | go_values | go_skip | go_guarded | go_step | go_upon)
  clear e1 e2
  go_loopw [6, 27] (fun s i wr => ∃ (k : Nat) (X : List BytD), k ≤ l.length ∧ i = .int .i64 k ∧ Hid ([83, 65, 86, 69, B1, B2] ++ (l.take k).flatMap valueB = X) ∧ BytO wr w.heap.size wr.heap.size s X ∧ Kept w wr) (fun s i _ => l.length - (intOf i).toNat)
  case atStart => exact ⟨0, _, by omega, rfl, by show _ = _; simp, o5, k5⟩
  case round =>
    obtain ⟨k, X, hk, rfl, HX, ox, hkp⟩ := hrel
    have HXB : Hid (X.length ≤ 4000) := by
      show X.length ≤ 4000
      have := take_value_len l HSM.out.2 k
      rw [← HX.out, List.length_append]
      simp only [List.length_cons, List.length_nil]
      omega
    obtain ⟨a, p, hf⟩ := ox.form
    subst hf
    have OX : Hid (BytO wr w.heap.size wr.heap.size (.slice a X.length p) X) := ox
    have HK : Hid (Kept w wr) := hkp
    by_cases hlt : k < l.length
    · obtain ⟨d, hd⟩ : ∃ d, l[k]? = some d := ⟨_, List.getElem?_eq_getElem hlt⟩
      obtain ⟨b, o, cap1, e, c0, c1, c2⟩ := val_get (HV.out.kept hkp) hd
      cases e
      have hsz := HSM.out.2 d (List.mem_of_getElem? hd)
      have HTK : Hid (l.take (k + 1) = l.take k ++ [d]) := take_snoc hd
      obtain ⟨d0, dn, d2⟩ := d
      dsimp only at c0 c1 c2 hsz
      have HSZ : Hid (d0.size ≤ 20 ∧ d2.size ≤ 100) := hsz
      have HSW : Hid (w.heap.size ≤ wr.heap.size) := hkp.size
      clear hd hkp ox hsz
      repeat (go_not_at_region 7; first | go_values | go_skip | go_guarded | go_step | go_upon)
      refine forgetX (fun W => LocV W wr.heap.size (d0, dn, d2) ∧ Kept wr W) ⟨LocV.new wr (d0, dn, d2), (But.refl _ _ _).alloc _⟩ ?_
      intro w6 hw6
      obtain ⟨l6, k6⟩ := hw6
      obtain ⟨bb, hbb⟩ : ∃ bb, wr.heap.size = bb := ⟨_, rfl⟩
      rw [hbb] at l6 ⊢
      have L6 : Hid (LocV w6 bb (d0, dn, d2)) := l6
      have K6 : Hid (Kept w w6) := HK.out.trans k6
      have O6 : Hid (BytO w6 w.heap.size bb (.slice a X.length p) X) := by rw [← hbb]; exact OX.out.kept k6
      have S6 : Hid (w.heap.size ≤ w6.heap.size) := Nat.le_trans HSW.out k6.size
      clear c0 c1 c2
      have c0 := l6.loc.cell 0 rfl
      have c1 := l6.loc.cell 1 rfl
      have c2 := l6.loc.cell 2 rfl
      have cl := l6.lt
      clear k6 l6 hbb OX HK
      have e1 : IntKind.u8.wrap (d0.size : Int) = ((UInt8.ofNat d0.size).toNat : Int) := by rw [IntKind.wrap_u8, u8_of]
      have e2 : IntKind.u8.wrap (d2.size : Int) = ((UInt8.ofNat d2.size).toNat : Int) := by rw [IntKind.wrap_u8, u8_of]
      have HT0 : Hid (textB d0 = UInt8.ofNat d0.size :: d0.data.toList) := rfl
      have HT2 : Hid (textB d2 = UInt8.ofNat d2.size :: d2.data.toList) := rfl
      generalize UInt8.ofNat d0.size = T0 at *
      generalize UInt8.ofNat d2.size = T2 at *
      repeat (first | (at_builtin; refine forgetL (fun w' => w' = _) rfl ?_) | go_values | go_skip | go_guarded | go_step | go_upon)
      intro W7 hW7
      rw [hW7]
      clear hW7 W7
      refine app1_byt rfl _ _ rfl (lo := w.heap.size) (hi := bb) rfl (O6.out.kept ((But.refl _ _ _).alloc _)) T0 rfl (Loc.new w6 [.int .u8 (T0.toNat : Int)] 5) (by have := HXB.out; omega) (by have := S6.out; simp; omega) ?_
      intro v1 w1 o1 b1 _
      have L1 : Hid (LocV w1 bb (d0, dn, d2)) := (locv_kept L6.out ((But.refl _ _ _).alloc _)).byt (O6.out.kept ((But.refl _ _ _).alloc _)) b1
      have K1 : Hid (Kept w w1) := butv_below (O6.out.kept ((But.refl _ _ _).alloc _)) (Nat.le_refl _) (K6.out.alloc _) b1
      have S1 : Hid (w.heap.size ≤ w1.heap.size) := K1.out.size
      obtain ⟨a1, p1, hf⟩ := o1.form
      subst hf
      obtain ⟨X1, hX⟩ : ∃ Z, X ++ [T0] = Z := ⟨_, rfl⟩
      rw [hX] at o1 ⊢
      have HX1 : Hid (X ++ [T0] = X1) := hX
      have HL1 : Hid (X1.length ≤ 4001) := by show X1.length ≤ 4001; have := HSZ.out; have := HXB.out; rw [← hX, List.length_append]; simp only [List.length_cons, List.length_nil, Array.length_toList]; try (have hs0 : d0.data.size = d0.size := rfl); try (have hs2 : d2.data.size = d2.size := rfl); omega
      have O1 : Hid (BytO w1 w.heap.size w1.heap.size (.slice a1 X1.length p1) X1) := o1
      clear c0 c1 c2 cl
      have c0 := L1.out.loc.cell 0 (v := .string d0) rfl
      have c1 := L1.out.loc.cell 1 (v := .int .i64 dn) rfl
      have c2 := L1.out.loc.cell 2 (v := .string d2) rfl
      have cl := L1.out.lt
      clear hX o1 b1
      repeat (first | (at_builtin; refine forgetL (fun w' => w' = _) rfl ?_) | go_values | go_skip | go_guarded | go_step | go_upon)
      intro W7 hW7
      rw [hW7]
      clear hW7 W7
      refine apps_byt rfl _ _ rfl (lo := w.heap.size) (hi := w1.heap.size) rfl O1.out d0 rfl (by have := HL1.out; have := HSZ.out; omega) (by have := S1.out; omega) ?_
      intro v2 w2 o2 b2
      have L2 : Hid (LocV w2 bb (d0, dn, d2)) := L1.out.byt O1.out b2
      have K2 : Hid (Kept w w2) := butv_below O1.out (Nat.le_refl _) K1.out b2
      have S2 : Hid (w.heap.size ≤ w2.heap.size) := K2.out.size
      obtain ⟨a2, p2, hf⟩ := o2.form
      subst hf
      obtain ⟨X2, hX⟩ : ∃ Z, X1 ++ d0.data.toList = Z := ⟨_, rfl⟩
      rw [hX] at o2 ⊢
      have HX2 : Hid (X1 ++ d0.data.toList = X2) := hX
      have HL2 : Hid (X2.length ≤ 4021) := by show X2.length ≤ 4021; have := HSZ.out; have := HL1.out; rw [← hX, List.length_append]; simp only [List.length_cons, List.length_nil, Array.length_toList]; try (have hs0 : d0.data.size = d0.size := rfl); try (have hs2 : d2.data.size = d2.size := rfl); omega
      have O2 : Hid (BytO w2 w.heap.size w2.heap.size (.slice a2 X2.length p2) X2) := o2
      clear c0 c1 c2 cl
      have c0 := L2.out.loc.cell 0 (v := .string d0) rfl
      have c1 := L2.out.loc.cell 1 (v := .int .i64 dn) rfl
      have c2 := L2.out.loc.cell 2 (v := .string d2) rfl
      have cl := L2.out.lt
      clear hX o2 b2
      have L2x := L2.out
      have k2x := K2.out
      have o2x := O2.out
      clear e1 c0 c1 c2 cl
      repeat (first | go_values | go_skip | go_guarded | go_step | go_upon)
      go_loopw [6, 9] (fun s t wr2 => ∃ (m : Nat) (Y : List BytD), m ≤ 8 ∧ t = .int .i64 m ∧ Hid (X2 ++ (List.range m).map (numByte dn) = Y) ∧ BytO wr2 w.heap.size wr2.heap.size s Y ∧ LocV wr2 bb (d0, dn, d2) ∧ Kept w wr2) (fun s t _ => 8 - (intOf t).toNat)
      case atStart => exact ⟨0, _, by omega, rfl, by show _ = _; simp, o2x, L2x, k2x⟩
      case round =>
      obtain ⟨m, Y, hm, rfl, HY, oy, ly, ky⟩ := hrel
      clear L2x k2x o2x
      obtain ⟨aY, pY, hf⟩ := oy.form
      subst hf
      have OY : Hid (BytO wr w.heap.size wr.heap.size (.slice aY Y.length pY) Y) := oy
      have LY : Hid (LocV wr bb (d0, dn, d2)) := ly
      have KY : Hid (Kept w wr) := ky
      have SY : Hid (w.heap.size ≤ wr.heap.size) := ky.size
      have HYL : Hid (Y.length ≤ 4029) := by
        show Y.length ≤ 4029
        have := HL2.out
        rw [← HY.out, List.length_append, List.length_map, List.length_range]
        omega
      have c0 := ly.loc.cell 0 (v := .string d0) rfl
      have c1 := ly.loc.cell 1 (v := .int .i64 dn) rfl
      have c2 := ly.loc.cell 2 (v := .string d2) rfl
      have cl := ly.lt
      clear oy ly ky
      by_cases hm8 : m < 8
      · have dlt : decide ((m : Int) < 8) = true := decide_eq_true (by omega)
        obtain ⟨B, hB⟩ : ∃ B, numByte dn m = B := ⟨_, rfl⟩
        have e9 := numByte_mod dn m hm8
        rw [hB] at e9
        have HB : Hid (numByte dn m = B) := hB
        have e5 : IntKind.i64.wrap (8 * (m : Int)) = 8 * (m : Int) := by rw [IntWalk.i64_in _ (by omega)]
        have e6 : IntKind.u64.wrap (8 * (m : Int)) = 8 * (m : Int) := by rw [IntKind.wrap_u64]; omega
        have e4 : IntKind.u64.wrap dn = dn % 18446744073709551616 := by rw [IntKind.wrap_u64]
        have e7 : dn % 18446744073709551616 / 2 ^ min (8 * (m : Int)).toNat 64 = dn % 18446744073709551616 / ((2 ^ (8 * m) : Nat) : Int) := by
          rw [show min (8 * (m : Int)).toNat 64 = 8 * m by omega]
          simp
        have hsh : decide (8 * (m : Int) < 0) = false := decide_eq_false (by omega)
        clear hB
        repeat (first | (at_builtin; refine forgetL (fun w' => w' = _) rfl ?_) | go_values | go_skip | go_guarded | go_step | go_upon)
        intro W7 hW7
        rw [hW7]
        clear hW7 W7
        refine app1_byt rfl _ _ rfl (lo := w.heap.size) (hi := wr.heap.size) rfl (OY.out.kept ((But.refl _ _ _).alloc _)) B rfl (Loc.new wr [.int .u8 (B.toNat : Int)] 5) (by have := HYL.out; omega) (by have := SY.out; simp; omega) ?_
        intro v3 w3 o3 b3 _
        have L3 : Hid (LocV w3 bb (d0, dn, d2)) := (locv_kept LY.out ((But.refl _ _ _).alloc _)).byt (OY.out.kept ((But.refl _ _ _).alloc _)) b3
        have K3 : Hid (Kept w w3) := butv_below (OY.out.kept ((But.refl _ _ _).alloc _)) (Nat.le_refl _) (KY.out.alloc _) b3
        have S3 : Hid (w.heap.size ≤ w3.heap.size) := K3.out.size
        obtain ⟨a3, p3, hf⟩ := o3.form
        subst hf
        obtain ⟨X3, hX⟩ : ∃ Z, Y ++ [B] = Z := ⟨_, rfl⟩
        rw [hX] at o3 ⊢
        have HX3 : Hid (Y ++ [B] = X3) := hX
        have HL3 : Hid (X3.length ≤ 4030) := by show X3.length ≤ 4030; have := HSZ.out; have := HYL.out; rw [← hX, List.length_append]; simp only [List.length_cons, List.length_nil, Array.length_toList]; try (have hs0 : d0.data.size = d0.size := rfl); try (have hs2 : d2.data.size = d2.size := rfl); omega
        have O3 : Hid (BytO w3 w.heap.size w3.heap.size (.slice a3 X3.length p3) X3) := o3
        clear c0 c1 c2 cl
        have c0 := L3.out.loc.cell 0 (v := .string d0) rfl
        have c1 := L3.out.loc.cell 1 (v := .int .i64 dn) rfl
        have c2 := L3.out.loc.cell 2 (v := .string d2) rfl
        have cl := L3.out.lt
        clear hX o3 b3
        clear e4 e5 e6 e7 e9 hsh
        repeat (first | go_values | go_skip | go_guarded | go_step | go_upon)
        refine ⟨⟨m + 1, X3, by omega, by go_num, ?_, O3.out, L3.out, K3.out⟩, by simp [intOf]; omega⟩
        show _ = _
        rw [nums_snoc, ← List.append_assoc, HY.out, HB.out, HX3.out]
      have hm9 : m = 8 := by omega
      subst hm9
      have HY8 : Hid (X2 ++ numBytes dn = Y) := HY.out
      have dlt : decide (((8 : Nat) : Int) < 8) = false := by decide
      clear HY hm8 hm
      have HYL : Hid (Y.length ≤ 4029) := HYL
      repeat (first | (at_builtin; refine forgetL (fun w' => w' = _) rfl ?_) | (with_reducible refine then_normal ?_) | (with_reducible refine then_exit ?_) | (with_reducible refine block_hit ?_) | (with_reducible refine block_normal ?_) | go_values | go_skip | go_guarded | go_step | go_upon)
      intro W7 hW7
      rw [hW7]
      clear hW7 W7
      refine app1_byt rfl _ _ rfl (lo := w.heap.size) (hi := wr.heap.size) rfl (OY.out.kept ((But.refl _ _ _).alloc _)) T2 rfl (Loc.new wr [.int .u8 (T2.toNat : Int)] 5) (by have := HYL.out; omega) (by have := SY.out; simp; omega) ?_
      intro v4 w4 o4 b4 _
      have L4 : Hid (LocV w4 bb (d0, dn, d2)) := (locv_kept LY.out ((But.refl _ _ _).alloc _)).byt (OY.out.kept ((But.refl _ _ _).alloc _)) b4
      have K4 : Hid (Kept w w4) := butv_below (OY.out.kept ((But.refl _ _ _).alloc _)) (Nat.le_refl _) (KY.out.alloc _) b4
      have S4 : Hid (w.heap.size ≤ w4.heap.size) := K4.out.size
      obtain ⟨a4, p4, hf⟩ := o4.form
      subst hf
      obtain ⟨X4, hX⟩ : ∃ Z, Y ++ [T2] = Z := ⟨_, rfl⟩
      rw [hX] at o4 ⊢
      have HX4 : Hid (Y ++ [T2] = X4) := hX
      have HL4 : Hid (X4.length ≤ 4030) := by show X4.length ≤ 4030; have := HSZ.out; have := HYL.out; rw [← hX, List.length_append]; simp only [List.length_cons, List.length_nil, Array.length_toList]; try (have hs0 : d0.data.size = d0.size := rfl); try (have hs2 : d2.data.size = d2.size := rfl); omega
      have O4 : Hid (BytO w4 w.heap.size w4.heap.size (.slice a4 X4.length p4) X4) := o4
      clear c0 c1 c2 cl
      have c0 := L4.out.loc.cell 0 (v := .string d0) rfl
      have c1 := L4.out.loc.cell 1 (v := .int .i64 dn) rfl
      have c2 := L4.out.loc.cell 2 (v := .string d2) rfl
      have cl := L4.out.lt
      clear hX o4 b4
      repeat (first | (at_builtin; refine forgetL (fun w' => w' = _) rfl ?_) | go_values | go_skip | go_guarded | go_step | go_upon)
      intro W7 hW7
      rw [hW7]
      clear hW7 W7
      refine apps_byt rfl _ _ rfl (lo := w.heap.size) (hi := w4.heap.size) rfl O4.out d2 rfl (by have := HL4.out; have := HSZ.out; omega) (by have := S4.out; omega) ?_
      intro v5 w5 o5 b5
      have L5 : Hid (LocV w5 bb (d0, dn, d2)) := L4.out.byt O4.out b5
      have K5 : Hid (Kept w w5) := butv_below O4.out (Nat.le_refl _) K4.out b5
      have S5 : Hid (w.heap.size ≤ w5.heap.size) := K5.out.size
      obtain ⟨a5, p5, hf⟩ := o5.form
      subst hf
      obtain ⟨X5, hX⟩ : ∃ Z, X4 ++ d2.data.toList = Z := ⟨_, rfl⟩
      rw [hX] at o5 ⊢
      have HX5 : Hid (X4 ++ d2.data.toList = X5) := hX
      have HL5 : Hid (X5.length ≤ 4130) := by show X5.length ≤ 4130; have := HSZ.out; have := HL4.out; rw [← hX, List.length_append]; simp only [List.length_cons, List.length_nil, Array.length_toList]; try (have hs0 : d0.data.size = d0.size := rfl); try (have hs2 : d2.data.size = d2.size := rfl); omega
      have O5 : Hid (BytO w5 w.heap.size w5.heap.size (.slice a5 X5.length p5) X5) := o5
      clear c0 c1 c2 cl
      have c0 := L5.out.loc.cell 0 (v := .string d0) rfl
      have c1 := L5.out.loc.cell 1 (v := .int .i64 dn) rfl
      have c2 := L5.out.loc.cell 2 (v := .string d2) rfl
      have cl := L5.out.lt
      clear hX o5 b5
      repeat (first | go_values | go_skip | go_guarded | go_step | go_upon)
      refine ⟨⟨k + 1, X5, hlt, by go_num, ?_, O5.out, K5.out⟩, by simp [intOf]; omega⟩
      show _ = _
      rw [HTK.out, body_snoc 0, HX.out, ← HX5.out, ← HX4.out, ← HY8.out, ← HX2.out, ← HX1.out]
      unfold valueB
      rw [HT0.out, HT2.out]
      simp only [List.append_assoc, List.cons_append, List.nil_append]
    · have hke : k = l.length := by omega
      subst hke
      have hB := HX.out
      rw [List.take_length, ← HBD.out] at hB
      have HB : Hid (bodyB version l = X) := hB
      have HDN : Hid (digN X < 4294967296) := digN_lt X
      clear hB ox hkp
      obtain ⟨N, hN⟩ : ∃ N, digN X = N := ⟨_, rfl⟩
      have AD : Hid (Calls Try.prog 28 #[.slice a X.length p] wr fun e w' => e = .returned (.int .u32 (N : Int)) ∧ Kept wr w') := by rw [← hN]; exact sdigest X _ wr OX.out.at (by have := HXB.out; omega)
      have HN : Hid (digN X = N) := hN
      have hNl : N < 4294967296 := by rw [← hN]; exact HDN.out
      clear hN
      repeat (first | go_values | go_skip | go_guarded | go_step | go_upon)
      go_at_call 28
      refine AD.out.mono ?_
      rintro e w1 ⟨rfl, k1⟩
      have O1 : Hid (BytO w1 w.heap.size wr.heap.size (.slice a X.length p) X) := OX.out.kept k1
      have K1 : Hid (Kept w w1) := HK.out.trans k1
      clear k1
      dsimp only
      have e1 : IntKind.u8.wrap ((N : Int) / 16777216) = ((UInt8.ofNat (N / 16777216)).toNat : Int) := by rw [IntKind.wrap_u8, u8_of]; omega
      have e2 : IntKind.u8.wrap ((N : Int) / 65536) = ((UInt8.ofNat (N / 65536)).toNat : Int) := by rw [IntKind.wrap_u8, u8_of]; omega
      have e3 : IntKind.u8.wrap ((N : Int) / 256) = ((UInt8.ofNat (N / 256)).toNat : Int) := by rw [IntKind.wrap_u8, u8_of]; omega
      have e4 : IntKind.u8.wrap (N : Int) = ((UInt8.ofNat N).toNat : Int) := by rw [IntKind.wrap_u8, u8_of]
      have HF : Hid (fourB N = [UInt8.ofNat (N / 16777216), UInt8.ofNat (N / 65536), UInt8.ofNat (N / 256), UInt8.ofNat N]) := rfl
      generalize UInt8.ofNat (N / 16777216) = C1 at *
      generalize UInt8.ofNat (N / 65536) = C2 at *
      generalize UInt8.ofNat (N / 256) = C3 at *
      generalize UInt8.ofNat N = C4 at *
      repeat (first | (at_builtin; refine forgetL (fun w' => w' = _) rfl ?_) | go_values | go_skip | go_guarded | go_step | go_upon)
      intro W7 hW7
      rw [hW7]
      clear hW7 W7
      refine appv_byt rfl _ _ rfl (lo := w.heap.size) (hi := wr.heap.size) rfl (O1.out.kept ((But.refl _ _ _).alloc _)) (qs := [C1, C2, C3, C4]) rfl ⟨_, _, rfl, fun j x hj => ⟨w1.heap.size, 0, rfl, by rw [Nat.zero_add]; exact (Loc.new w1 [.int .u8 (C1.toNat : Int), .int .u8 (C2.toNat : Int), .int .u8 (C3.toNat : Int), .int .u8 (C4.toNat : Int)] 5).cell j (by simpa [bytC] using hj)⟩⟩ rfl (by have := HXB.out; simp; omega) (by have := K1.out.size; simp; omega) ?_
      intro v2 w2 o2 b2
      have K2 : Hid (Kept w w2) := butv_below (O1.out.kept ((But.refl _ _ w1).alloc (.cells #[.int .u8 (C1.toNat : Int), .int .u8 (C2.toNat : Int), .int .u8 (C3.toNat : Int), .int .u8 (C4.toNat : Int)] 5))) (Nat.le_refl _) (K1.out.alloc _) b2
      obtain ⟨a2, p2, hf⟩ := o2.form
      subst hf
      have HSV : Hid (saveB version l = X ++ [C1, C2, C3, C4]) := by show _ = _; unfold saveB; rw [HB.out, HN.out, HF.out]
      have h3910 : (X ++ [C1, C2, C3, C4]).length ≤ 3910 := by rw [← HSV.out]; exact save_len HV1.out
      generalize X ++ [C1, C2, C3, C4] = Z at *
      have O2 : Hid (BytO w2 w.heap.size w2.heap.size (.slice a2 Z.length p2) Z) := o2
      have d4 : decide ((4000 : Int) < (Z.length : Int)) = false := decide_eq_false (by omega)
      clear b2 o2 h3910 e1 e2 e3 e4
      dsimp only
      repeat (first | go_values | go_skip | go_guarded | go_step | go_upon)
      go_ret2
      exact ⟨_, rfl, by rw [HSV.out]; exact O2.out, K2.out⟩

end Go.Proofs.Ytklgjhemcofhhaa
