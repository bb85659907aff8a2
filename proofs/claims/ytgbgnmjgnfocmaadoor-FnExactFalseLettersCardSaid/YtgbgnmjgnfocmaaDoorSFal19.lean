/-
  FalseLetters in the specification.
-/
import Derived.Test.YtgbgnmjgnfocmaaDoorBr19
import Derived.Test.YtgbgnmjgnfocmaaDoorRunR18
import Derived.Deep.Strs
namespace Go.Proofs.YtgbgnmjgnfocmaaDoor
open Go.ChangeShapes Go.WideShapes Go.ChangeAt Go.RowKit

set_option maxRecDepth 100000
set_option linter.unusedVariables false

set_option maxHeartbeats 16000000 in
theorem sfalse (s : ByteArray) (w : World) (hs : s.size ≤ 1048576) :
    Calls Tryd.prog 4 #[.string s] w fun e w' => e = .returned (.tuple #[.string (falseA s).1, .bool (falseA s).2]) ∧ Kept w w' := by
  by_cases h2 : 200 < s.size
  · rw [falseA_no (fun h => by have := h.1; omega)]
    go_enter Tryd.func4, Tryd.ntmps4
    go_wp2
    go_returns
    exact ⟨rfl, But.refl _ _ _⟩
  have hd2 : decide (200 < (s.size : Int)) = false := by simp; omega
  have HR : Hid (∀ W, Calls Tryd.prog 6 #[.string s] W fun e w' => ∃ v, e = .returned (.tuple #[v, .bool true]) ∧ NumO w' W.heap.size w'.heap.size v (runesF s s.size 0) ∧ Kept W w') := fun W => by
    have := sruns s W hs
    rw [runA_yes (by omega)] at this
    exact this
  have hrl : (runesF s s.size 0).length ≤ 400 := by have := runA_len s; rw [runA_yes (by omega)] at this; exact this
  have HNO : Hid ((65533 : Int) ∈ runesF s s.size 0 → falseA s = (⟨#[]⟩, false)) := fun h => falseA_no (fun h' => h'.2 h)
  have HYES : Hid ((65533 : Int) ∉ runesF s s.size 0 → falseA s = (outT (fl s.data.toList), true)) := fun h => falseA_yes ⟨by omega, h⟩
  have hfl : (fl s.data.toList).length = s.size := by rw [fl_len _ _ (Nat.le_refl _), ← Lib.size_eq]
  have hsl : s.data.toList.length = s.size := by rw [← Lib.size_eq]
  obtain ⟨X, hX⟩ : ∃ X, fl s.data.toList = X := ⟨_, rfl⟩
  have HX : Hid (fl s.data.toList = X) := hX
  rw [hX] at hfl HYES
  have HXL : Hid (X.length = s.size ∧ s.data.toList.length = s.size) := ⟨hfl, hsl⟩
  have hs2 : s.size ≤ 200 := by omega
  generalize falseA s = FA at *
  generalize runesF s s.size 0 = R at *
  clear hX hfl hsl h2
  go_enter Tryd.func4, Tryd.ntmps4
  repeat (first | go_values | go_skip | go_guarded | go_step | go_upon)
  go_at_call 6
  refine (HR.out _).mono ?_
  rintro e w1 ⟨v1, rfl, o1, k1⟩
  obtain ⟨a1, c1, hf, _⟩ := own_form o1.1
  subst hf
  have HO : Hid (NumAt w1 (.slice a1 R.length c1) R) := o1.at
  have HK : Hid (Kept w w1) := k1
  clear o1 k1 HR
  dsimp only
  repeat (first | go_values | go_skip | go_guarded | go_step | go_upon)
  go_loopw [22] (fun i wr => ∃ k : Nat, k ≤ R.length ∧ i = .int .i64 k ∧ Hid (∀ j : Nat, j < k → R[j]? ≠ some 65533) ∧ Kept w1 wr) (fun i _ => R.length - (intOf i).toNat)
  case atStart => exact ⟨0, by omega, rfl, fun j hj => by omega, But.refl _ _ _⟩
  case round =>
    obtain ⟨k, hk, rfl, HB, hkp⟩ := hrel
    by_cases hlt : k < R.length
    · obtain ⟨p, hp⟩ : ∃ p : Int, R[k]? = some p := ⟨_, List.getElem?_eq_getElem hlt⟩
      obtain ⟨g, o, cap1, ee, c0⟩ := num_get (HO.out.kept hkp) hp
      cases ee
      have HP : Hid (R[k]? = some p) := hp
      have HKr : Hid (Kept w1 wr) := hkp
      clear hp hkp
      by_cases h1 : p = 65533
      · have d1 : (p == 65533) = true := by simp [h1]
        have hFA := HNO.out (List.mem_of_getElem? (by rw [HP.out, h1]))
        subst hFA
        clear h1
        repeat (first | go_values | go_skip | go_guarded | go_step | go_upon)
        go_returns
        exact ⟨rfl, HK.out.trans HKr.out⟩
      · have d1 : (p == 65533) = false := by simp [h1]
        have HN1 : Hid (¬ p = 65533) := h1
        clear h1
        repeat (first | go_values | go_skip | go_guarded | go_step | go_upon)
        refine ⟨⟨k + 1, hlt, by go_num, ?_, HKr.out⟩, by simp [intOf]; omega⟩
        intro j hj
        by_cases hjk : j = k
        · subst hjk
          rw [HP.out]
          intro he
          cases he
          exact HN1.out rfl
        · exact HB.out j (by omega)
    · have hke : k = R.length := by omega
      subst hke
      have hFA := HYES.out (no_mem HB.out)
      subst hFA
      have HKr : Hid (Kept w wr) := HK.out.trans hkp
      have hcv := run_bytes_of_string (P := Tryd.prog) wr 9 28 5 s Tryd.underlying9 Tryd.underlying28 Tryd.underlying5
      clear hkp HB HNO HYES HK HO
      repeat (first | go_values | go_skip | go_guarded | go_step | go_upon)
      obtain ⟨C, hC⟩ : ∃ C, grownCap wr s.size 0 5 = C := ⟨_, rfl⟩
      obtain ⟨G, hG⟩ : ∃ G, wr.heap.size = G := ⟨_, rfl⟩
      rw [hC]
      have hbr := BR.new wr s C 5
      rw [hG] at hbr ⊢
      have HKr2 : Hid (Kept wr (wr.drew.alloc (.cells (bytesRow s C) 5 ((bytesRow s C).size, (bytesRow s C).size + 1)))) := ((But.refl _ _ _).drew).alloc _
      refine forgetC (fun W => BR W G s.data.toList ∧ Kept wr W) ⟨hbr, HKr2.out⟩ ?_
      rintro W ⟨hbW, hkW⟩
      have HBW : Hid (BR W G s.data.toList) := hbW
      have HKW : Hid (Kept w W) := HKr.out.trans hkW
      have HG : Hid (wr.heap.size = G ∧ w.heap.size ≤ G) := ⟨hG, by have := HKr.out.size; omega⟩
      clear hbr HKr2 hbW hkW hC hG hcv HKr
      go_loopw [9] (fun iv wz => ∃ (pre rest : List UInt8), iv = .int .i64 (pre.length : Int) ∧ BR wz G (pre ++ rest) ∧ Hid (pre ++ fl rest = X) ∧ pre.length + rest.length = s.size ∧ Kept w wz) (fun iv _ => s.size - (intOf iv).toNat)
      case atStart => exact ⟨[], s.data.toList, rfl, HBW.out, HX, by have := HXL.out.2; simp [this], HKW.out⟩
      case round =>
        rename World => wz
        obtain ⟨pre, rest, rfl, hbr, HPX, hpl, hkz⟩ := hrel
        have HKz : Hid (Kept w wz) := hkz
        have HBr : Hid (BR wz G (pre ++ rest)) := hbr
        clear hkz
        cases rest with
        | nil =>
          have hpl2 : pre.length = s.size := by simpa using hpl
          have hXe : pre = X := by have := HPX.out; rw [fl_nil, List.append_nil] at this; exact this
          rw [List.append_nil] at hbr
          rw [hXe] at hbr hpl2 ⊢
          have hcb := hbr.back s.size C hpl2.symm 28 9 5 Tryd.underlying28 Tryd.underlying5 Tryd.underlying9
          have hd9 : decide ((X.length : Int) < (s.size : Int)) = false := by simp; omega
          have hbig1 : ¬ 9223372036854775807 < 1 + X.length := by omega
          have hbig2 : ¬ 9223372036854775807 < 1 + X.length + 1 := by omega
          clear hbr HBr HPX hpl hXe
          repeat (first | go_values | go_skip | go_guarded | go_step | go_upon)
          go_returns
          refine ⟨?_, HKz.out⟩
          rw [cat_data, cat_data]
          simp [outT]
        | cons c t =>
          have hlt9 : pre.length < s.size := by simp only [List.length_cons] at hpl; omega
          have hd9 : decide ((pre.length : Int) < (s.size : Int)) = true := by simp; omega
          obtain ⟨c0, cf0⟩ := hbr.cell (at_pre c)
          have hx0 : (0 : Int) ≤ (c.toNat : Int) := by omega
          have hx1 := u8_lt c
          have hgl := hbr.lt
          have HPL : Hid (pre.length + (t.length + 1) = s.size) := show _ = _ from by simpa using hpl
          have z0 : (0 : Int) ≤ (pre.length : Int) := by omega
          have z1 : (pre.length : Int) < (s.size : Int) := by omega
          clear hbr hpl
          by_cases h123 : c = 123
          · have d123 : ((c.toNat : Int) == 123) = true := by rw [h123]; rfl
            have HC9 : Hid (c = 123) := h123
            clear h123
            repeat (first | go_values | go_skip | go_guarded | go_step | go_upon)
            go_loopw [11] (fun ev wy => ∃ e : Nat, ev = .int .i64 (e : Int) ∧ pre.length ≤ e ∧ e ≤ s.size ∧ Hid (∀ i, pre.length ≤ i → i < e → (pre ++ c :: t)[i]? ≠ some 125) ∧ wz = wy) (fun ev _ => s.size - (intOf ev).toNat)
            case atStart => exact ⟨pre.length, rfl, by omega, by omega, fun i h1 h2 => by omega, rfl⟩
            case round =>
              obtain ⟨e, rfl, he1, he2, HBN, rfl⟩ := hrel
              by_cases hlt2 : e < s.size
              · have he9 : decide ((e : Int) < (s.size : Int)) = true := by simp; omega
                obtain ⟨y, hy⟩ : ∃ y, (pre ++ c :: t)[e]? = some y := ⟨_, List.getElem?_eq_getElem (by have := HPL.out; simp; omega)⟩
                obtain ⟨y0, yf0⟩ := HBr.out.cell hy
                have HY : Hid ((pre ++ c :: t)[e]? = some y) := hy
                have w0 : (0 : Int) ≤ (e : Int) := by omega
                have w1 : (e : Int) < (s.size : Int) := by omega
                have v0 : (0 : Int) ≤ (y.toNat : Int) := by omega
                have v1 := u8_lt y
                clear hy
                by_cases h125 : y = 125
                · have d125 : ((y.toNat : Int) != 125) = false := by rw [h125]; rfl
                  have HF : Hid (∃ pre' rest', pre'.length = e + 1 ∧ pre' ++ rest' = pre ++ c :: t ∧ pre' ++ fl rest' = X) := by
                    have h5 := HY.out
                    rw [h125] at h5
                    exact open_at HC9.out HPX.out he1 HBN.out h5
                  have HE : Hid (pre.length ≤ e) := he1
                  clear h125 HBN HY
                  repeat (first | go_values | go_skip | go_guarded | go_step | go_upon)
                  obtain ⟨pre', rest', l1, l2, l3⟩ := HF.out
                  refine ⟨⟨pre', rest', by congr 1; omega, by rw [l2]; exact HBr.out, l3, ?_, HKz.out⟩, ?_⟩
                  · have := congrArg List.length l2
                    have h9 := HPL.out
                    simp only [List.length_append, List.length_cons] at this
                    omega
                  · simp [intOf]
                    omega
                · have d125 : ((y.toNat : Int) != 125) = true := by
                    rw [bne_iff_ne]
                    intro h
                    exact h125 ((u8_eq y 125 (by decide)).1 h)
                  have HN5 : Hid (¬ y = 125) := h125
                  clear h125
                  repeat (first | go_values | go_skip | go_guarded | go_step | go_upon)
                  refine ⟨⟨e + 1, by go_num, by omega, by omega, fun i h1 h2 => ?_, by first | rfl | trivial⟩, by simp [intOf]; omega⟩
                  by_cases hie : i = e
                  · subst hie
                    rw [HY.out]
                    intro h
                    cases h
                    exact HN5.out rfl
                  · exact HBN.out i h1 (by omega)
              · have hee : e = s.size := by omega
                subst hee
                have he9 : decide ((s.size : Int) < (s.size : Int)) = false := by simp
                have HPN : Hid (pre ++ [c] ++ fl t = X) := show _ = _ from by
                  have h5 : (125 : UInt8) ∉ t := fun hm => by
                    obtain ⟨i, hi⟩ := List.mem_iff_getElem?.1 hm
                    have hil := (List.getElem?_eq_some_iff.1 hi).1
                    have h9 := HPL.out
                    refine HBN.out (pre.length + (i + 1)) (by omega) (by omega) ?_
                    rw [List.getElem?_append_right (by omega)]
                    simpa using hi
                  rw [← HPX.out, HC9.out, fl_lone h5]
                  simp
                clear HBN HPX
                repeat (first | go_values | go_skip | go_guarded | go_step | go_upon)
                refine ⟨⟨pre ++ [c], t, by congr 1; simp, by simpa using HBr.out, HPN, by have := HPL.out; simp; omega, HKz.out⟩, by simp [intOf]; omega⟩
          · have d123 : ((c.toNat : Int) == 123) = false := by
              rw [beq_eq_false_iff_ne]
              intro h
              exact h123 ((u8_eq c 123 (by decide)).1 h)
            have HPN : Hid (pre ++ [rotB c] ++ fl t = X) := show _ = _ from by rw [← HPX.out, fl_plain t h123]; simp
            clear HPX h123
            by_cases q1 : 97 ≤ (c.toNat : Int) ∧ (c.toNat : Int) ≤ 122
            · have hr := rot_low c q1.1 q1.2
              obtain ⟨q1, q2⟩ := q1
              have HBS : Hid (BR (wz.setCell ⟨G, pre.length, none⟩ (.int .u8 ((rotB c).toNat : Int))) G (pre ++ [rotB c] ++ t)) := show BR _ _ _ from by have := HBr.out.set (j := pre.length) (rotB c); rw [set_pre] at this; exact this
              rw [hr] at HBS
              have HRR : Hid (((rotB c).toNat : Int) = 97 + ((c.toNat : Int) - 97 + 13) % 26) := hr
              clear hr
              generalize (c.toNat : Int) = x at *
              go_wp2
              refine ⟨⟨pre ++ [rotB c], t, by congr 1; simp, HBS.out, HPN, by have := HPL.out; simp; omega, HKz.out.onto (br_but _ _ _ _) HG.out.2⟩, by simp [intOf]; omega⟩
            · by_cases q2 : 65 ≤ (c.toNat : Int) ∧ (c.toNat : Int) ≤ 90
              · have hr := rot_up c q2.1 q2.2
                obtain ⟨q2, q3⟩ := q2
                have HBS : Hid (BR (wz.setCell ⟨G, pre.length, none⟩ (.int .u8 ((rotB c).toNat : Int))) G (pre ++ [rotB c] ++ t)) := show BR _ _ _ from by have := HBr.out.set (j := pre.length) (rotB c); rw [set_pre] at this; exact this
                rw [hr] at HBS
                clear hr q1
                generalize (c.toNat : Int) = x at *
                go_wp2
                refine ⟨⟨pre ++ [rotB c], t, by congr 1; simp, HBS.out, HPN, by have := HPL.out; simp; omega, HKz.out.onto (br_but _ _ _ _) HG.out.2⟩, by simp [intOf]; omega⟩
              · have HBS : Hid (BR wz G (pre ++ [rotB c] ++ t)) := show BR _ _ _ from by rw [rot_not c q1 q2]; simpa using HBr.out
                have hxx : (c.toNat : Int) < 65 ∨ (90 < (c.toNat : Int) ∧ (c.toNat : Int) < 97) ∨ 122 < (c.toNat : Int) := by omega
                clear q1 q2
                generalize (c.toNat : Int) = x at *
                rcases hxx with h | ⟨h, h'⟩ | h
                all_goals
                  go_wp2
                  refine ⟨⟨pre ++ [rotB c], t, by congr 1; simp, HBS.out, HPN, by have := HPL.out; simp; omega, HKz.out⟩, by simp [intOf]; omega⟩

end Go.Proofs.YtgbgnmjgnfocmaaDoor
