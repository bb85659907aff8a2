/-
  Assets in the program: each alone, what comes next.
-/
import Derived.Test.YtmoaihhllfkmiaaHas21
import Derived.Test.YtmoaihhllfkmiaaApp21n
import Derived.Test.YtmoaihhllfkmiaaRise21
import Derived.Test.YtmoaihhllfkmiaaOrd21
namespace Go.Proofs.Ytmoaihhllfkmiaa
open Go.ChangeShapes Go.WideShapes Go.ChangeAt Go.RowKit

set_option maxRecDepth 100000
set_option linter.unusedVariables false
set_option linter.unusedSimpArgs false

def ASz (d : AssetE) : Prop := d.1.size ≤ 1048576 ∧ d.2.1.2.length ≤ 1048576 ∧ (∀ q ∈ d.2.1.2, q.size ≤ 1048576)
set_option maxHeartbeats 4000000 in
theorem igea (l : List AssetE) (v : Value) (w : World) (hv : AssetAt w v l) (hn : l.length ≤ 1048576) (hs0 : ∀ d ∈ l, ASz d) :
    Calls Try.prog 35 #[v] w fun e w' => e = .returned (.bool (decide (EachP l))) ∧ Kept w w' := by
  obtain ⟨ao, cap, hsl⟩ := row_nil hv.1
  subst hsl
  have HS : Hid (∀ d ∈ l, ASz d) := hs0
  have HV : Hid (AssetAt w (.slice ao l.length cap) l) := hv
  clear hs0 hv
  have NO : Hid (¬ EachP l → decide (EachP l) = false) := decide_eq_false
  have RES : Hid ((∀ d ∈ l, KeysP 10 d.2.1.2 ∧ d.2.2.2.length ≤ 400) → decide (KeysP 30 (namesA l)) = decide (EachP l)) := fun h => decide_eq_decide.2 ⟨fun h2 => ⟨h, h2⟩, fun h2 => h2.2⟩
  generalize decide (EachP l) = R at *
  go_enter Try.func35, Try.ntmps35
  repeat (first | go_values | go_skip | go_guarded | go_step | go_upon)
  go_loopw [3, 8] (fun s i wr => ∃ k : Nat, k ≤ l.length ∧ i = .int .i64 k ∧ Hid (∀ d ∈ l.take k, KeysP 10 d.2.1.2 ∧ d.2.2.2.length ≤ 400) ∧ TxtO wr w.heap.size wr.heap.size s (namesA (l.take k)) ∧ Kept w wr) (fun s i _ => l.length - (intOf i).toNat)
  case atStart => exact ⟨0, by omega, rfl, fun d hd => by simp at hd, nil_txt _ _ _, But.refl _ _ _⟩
  case round =>
    obtain ⟨k, hk, rfl, HALL, ho, hkp⟩ := hrel
    obtain ⟨ar, cr, hf⟩ := ho.form
    subst hf
    have hnl : (namesA (l.take k)).length = k := by rw [namesA_len, List.length_take]; omega
    by_cases hlt : k < l.length
    · obtain ⟨d, hd⟩ : ∃ d, l[k]? = some d := ⟨_, List.getElem?_eq_getElem hlt⟩
      obtain ⟨b, o, cap1, e, c0, c1, c2, hpt, hpb⟩ := asset_get (HV.out.kept hkp) hd
      cases e
      have hsz := HS.out d (List.mem_of_getElem? hd)
      have HD : Hid (l[k]? = some d) := hd
      have HTK : Hid (l.take (k + 1) = l.take k ++ [d]) := take_snoc hd
      have HK : Hid (Kept w wr) := hkp
      obtain ⟨X, hX⟩ : ∃ X, namesA (l.take k) = X := ⟨_, rfl⟩
      rw [hX] at ho hnl ⊢
      have HX : Hid (namesA (l.take k) = X) := hX
      have OX : Hid (TxtO wr w.heap.size wr.heap.size (.slice ar X.length cr) X) := ho
      have HXL : Hid (X.length = k) := hnl
      obtain ⟨d0, ⟨d1, t1⟩, ⟨d2, t2⟩⟩ := d
      dsimp only at c0 c1 c2 hpt hpb hsz
      obtain ⟨a1, p1, hs1⟩ := row_nil hpt
      subst hs1
      obtain ⟨a2, p2, hs2⟩ := row_nil hpb
      subst hs2
      have NK : Hid (¬ (KeysP 10 t1 ∧ t2.length ≤ 400) → R = false) := fun h => NO.out fun h' => h (h'.1 _ (List.mem_of_getElem? HD.out))
      have AR : Hid (∀ W, Kept wr W → Calls Try.prog 71 #[.slice a1 t1.length p1, .int .i64 10] W fun e w' => e = .returned (.bool (decide (KeysP 10 t1))) ∧ Kept W w') := fun W k => irises t1 10 _ W (hpt.kept k) (by omega) hsz.2.1 hsz.2.2
      have hgw : b < wr.heap.size := World.block_lt_of_cell? _ _ c0
      clear hd hkp ho hX hnl hpt hpb hsz
      repeat (first | go_values | go_skip | go_guarded | go_step | go_upon)
      go_at_call 71
      refine (AR.out _ ((But.refl _ _ _).alloc _)).mono ?_
      rintro e w2 ⟨rfl, k2⟩
      have LX := (Loc.new wr [.string d0, .slice a1 t1.length p1, .slice a2 t2.length p2] 30).kept k2
      have HK2 : Hid (Kept wr w2) := (But.alloc (But.refl _ _ _) _).trans k2
      have x0 := LX.cell 0 rfl
      have x2 := LX.cell 2 rfl
      have xl := LX.lt
      clear k2 LX c0 c1 c2 hgw AR
      by_cases h1 : KeysP 10 t1
      · rw [decide_eq_true h1]
        by_cases h2 : t2.length ≤ 400
        · have dt : decide ((400 : Int) < (t2.length : Int)) = false := decide_eq_false (by omega)
          have HT : Hid (KeysP 10 t1 ∧ t2.length ≤ 400) := ⟨h1, h2⟩
          clear h1 h2
          dsimp only
          repeat (first | (at_builtin; refine forgetL (fun w' => w' = _) rfl ?_) | go_values | go_skip | go_guarded | go_step | go_upon)
          intro W7 hW7
          rw [hW7]
          clear hW7 W7
          refine app1_txt rfl _ _ rfl (lo := w.heap.size) (hi := wr.heap.size) rfl (OX.out.kept (HK2.out.alloc _)) d0 rfl (Loc.new w2 [.string d0] 9) (by have := HXL.out; omega) (by have := HK.out.size; have := HK2.out.size; simp; omega) ?_
          intro v5 w5 o5 b5 _
          have b5' := But.inner b5 (OX.out.kept (HK2.out.alloc (.cells #[.string d0] 9)))
          have K5 : Hid (Kept w w5) := by
            have a1 : Kept w (w2.alloc (.cells #[.string d0] 9)) := (HK.out.trans HK2.out).alloc _
            exact ⟨b5'.os.trans a1.os, b5'.out.trans a1.out, Nat.le_trans a1.size b5'.size, fun i hi' ho => (b5'.block i (Nat.lt_of_lt_of_le hi' a1.size) (by omega)).trans (a1.block i hi' ho)⟩
          obtain ⟨a5, q5, hf⟩ := o5.form
          subst hf
          have O5 : Hid (TxtO w5 w.heap.size w5.heap.size (.slice a5 (X ++ [d0]).length q5) (X ++ [d0])) := o5
          obtain ⟨Z, hZ⟩ : ∃ Z, X ++ [d0] = Z := ⟨_, rfl⟩
          rw [hZ] at O5 ⊢
          have HZ : Hid (namesA (l.take (k + 1)) = Z) := by show _ = _; rw [HTK.out, namesA_snoc, HX.out, hZ]
          clear hZ o5 b5 b5' x0 x2 xl
          repeat (first | go_values | go_skip | go_guarded | go_step | go_upon)
          refine ⟨⟨k + 1, hlt, by go_num, fun d hd => ?_, by rw [HZ.out]; exact O5.out, K5.out⟩, by simp [intOf]; omega⟩
          rw [HTK.out, List.mem_append] at hd
          rcases hd with hd | hd
          · exact HALL.out d hd
          · simp at hd; subst hd; exact HT.out
        · have dt : decide ((400 : Int) < (t2.length : Int)) = true := decide_eq_true (by omega)
          have hR := NK.out (fun h => h2 h.2)
          subst hR
          clear h1 h2
          dsimp only
          repeat (first | go_values | go_skip | go_guarded | go_step | go_upon)
          go_ret
          exact ⟨rfl, HK.out.trans HK2.out⟩
      · rw [decide_eq_false h1]
        have hR := NK.out (fun h => h1 h.1)
        subst hR
        clear h1
        dsimp only
        repeat (first | go_values | go_skip | go_guarded | go_step | go_upon)
        go_ret
        exact ⟨rfl, HK.out.trans HK2.out⟩
    · have hke : k = l.length := by omega
      subst hke
      have hall2 := HALL.out
      rw [List.take_length] at hall2 ho hnl
      have hR := RES.out hall2
      have HNS : Hid (∀ p ∈ namesA l, p.size ≤ 1048576) := by
        intro p hp
        obtain ⟨d, hd, rfl⟩ := List.mem_map.1 hp
        exact (HS.out d hd).1
      rw [List.take_length]
      have HVN : Hid (TxtAt wr (.slice ar (namesA l).length cr) (namesA l)) := ho.at
      have hl9 : (namesA l).length ≤ 1048576 := by omega
      have HR : Hid (decide (KeysP 30 (namesA l)) = R) := hR
      generalize namesA l = ns at *
      have HK : Hid (Kept w wr) := hkp
      have AR : Hid (Calls Try.prog 71 #[.slice ar ns.length cr, .int .i64 30] wr fun e w' => e = .returned (.bool (decide (KeysP 30 ns))) ∧ Kept wr w') := irises ns 30 _ _ HVN.out (by omega) hl9 HNS.out
      clear hR hall2 HALL ho hkp hnl hl9
      repeat (first | (go_at_call 71; with_reducible refine (AR.out).mono ?_; rintro e w9 ⟨rfl, k9⟩; dsimp only) | go_values | go_skip | go_guarded | go_step | go_upon)
      go_ret
      exact ⟨ret_boolG HR.out, HK.out.trans k9⟩

set_option maxHeartbeats 4000000 in
theorem icn (d0 : ByteArray) (d1 d2 : Value) (t1 : List TxtD) (t2 : List BytD) (X : List ByteArray) (v : Value) (w : World) (h1 : TxtAt w d1 t1) (h2 : BytAt w d2 t2) (hx : TxtAt w v X) (hn : t1.length ≤ 1048576) (hX : X.length ≤ 1048576) :
    Calls Try.prog 38 #[.agg #[.string d0, d1, d2], v] w fun e w' => e = .returned (.bool (readyB X (d0, (d1, t1), (d2, t2)))) ∧ Kept w w' := by
  obtain ⟨a1, p1, hs1⟩ := row_nil h1
  subst hs1
  obtain ⟨a2, p2, hs2⟩ := row_nil h2
  subst hs2
  obtain ⟨ar, cr, hs3⟩ := row_nil hx
  subst hs3
  have AX : Hid (∀ (s : ByteArray) W, Kept w W → Calls Try.prog 72 #[.slice ar X.length cr, .string s] W fun e w' => e = .returned (.bool (hasB X s)) ∧ Kept W w') := fun s W k => icont X s _ W (hx.kept k) hX
  have HT : Hid (TxtAt w (.slice a1 t1.length p1) t1) := h1
  have HRD : Hid (readyB X (d0, (.slice a1 t1.length p1, t1), (.slice a2 t2.length p2, t2)) = (!hasB X d0 && t1.all fun n => hasB X n)) := rfl
  generalize readyB X (d0, (.slice a1 t1.length p1, t1), (.slice a2 t2.length p2, t2)) = R at *
  clear h1 h2 hx
  go_enter Try.func38, Try.ntmps38
  repeat (first | go_values | go_skip | go_guarded | go_step | go_upon)
  go_at_call 72
  refine (AX.out d0 _ ((But.refl _ _ _).alloc _)).mono ?_
  rintro e w2 ⟨rfl, k2⟩
  have LX := (Loc.new w [.string d0, .slice a1 t1.length p1, .slice a2 t2.length p2] 30).kept k2
  have HK2 : Hid (Kept w w2) := (But.alloc (But.refl _ _ _) _).trans k2
  have x1 := LX.cell 1 rfl
  have xl := LX.lt
  clear k2 LX
  cases q0 : hasB X d0 with
  | true =>
    have hR : R = false := by rw [HRD.out, q0]; rfl
    subst hR
    dsimp only
    repeat (first | go_values | go_skip | go_guarded | go_step | go_upon)
    go_ret
    exact ⟨rfl, HK2.out⟩
  | false =>
    have HR1 : Hid (R = t1.all fun n => hasB X n) := by show _ = _; rw [HRD.out, q0]; rfl
    dsimp only
    repeat (first | go_values | go_skip | go_guarded | go_step | go_upon)
    clear x1 xl
    go_loopw [14] (fun i wr => ∃ k : Nat, k ≤ t1.length ∧ i = .int .i64 k ∧ Hid (((t1.take k).all fun n => hasB X n) = true) ∧ Kept w wr) (fun i _ => t1.length - (intOf i).toNat)
    case atStart => exact ⟨0, by omega, rfl, by show _ = _; simp, HK2.out⟩
    case round =>
      obtain ⟨k, hk, rfl, HB, hkp⟩ := hrel
      by_cases hlt : k < t1.length
      · obtain ⟨n, hnn⟩ : ∃ n, t1[k]? = some n := ⟨_, List.getElem?_eq_getElem hlt⟩
        obtain ⟨b3, o3, cap3, e3, y0⟩ := txt_get (HT.out.kept hkp) hnn
        cases e3
        have HSN : Hid (((t1.take (k + 1)).all fun n => hasB X n) = hasB X n) := by
          show _ = _
          rw [all_snoc hnn, HB.out]
          simp
        have HNF : Hid (hasB X n = false → R = false) := fun h => by
          rw [HR1.out, List.all_eq_false]
          exact ⟨n, List.mem_of_getElem? hnn, by rw [h]; simp⟩
        have HK : Hid (Kept w wr) := hkp
        clear hnn hkp
        repeat (first | go_values | go_skip | go_guarded | go_step | go_upon)
        go_at_call 72
        refine (AX.out n _ HK.out).mono ?_
        rintro e w4 ⟨rfl, k4⟩
        have HK4 : Hid (Kept w w4) := HK.out.trans k4
        clear y0 k4
        cases q1 : hasB X n with
        | true =>
          rw [q1] at HSN
          dsimp only
          repeat (first | go_values | go_skip | go_guarded | go_step | go_upon)
          exact ⟨⟨k + 1, hlt, by go_num, HSN.out, HK4.out⟩, by simp [intOf]; omega⟩
        | false =>
          have hR := HNF.out q1
          subst hR
          dsimp only
          repeat (first | go_values | go_skip | go_guarded | go_step | go_upon)
          go_ret
          exact ⟨rfl, HK4.out⟩
      · have hke : k = t1.length := by omega
        subst hke
        have hb := HB.out
        rw [List.take_length, ← HR1.out] at hb
        subst hb
        repeat (first | go_values | go_skip | go_guarded | go_step | go_upon)
        go_ret
        exact ⟨rfl, hkp⟩
set_option maxHeartbeats 2000000 in
theorem iclo (d0 : ByteArray) (d1 d2 : Value) (t1 : List TxtD) (t2 : List BytD) (X : List ByteArray) (v : Value) (bb : Nat) (w : World) (h1 : TxtAt w d1 t1) (h2 : BytAt w d2 t2) (hx : TxtAt w v X) (hc : w.cell? ⟨bb, 0, none⟩ = some v) (hn : t1.length ≤ 1048576) (hX : X.length ≤ 1048576) :
    Calls Try.prog 37 #[.agg #[.string d0, d1, d2], .pointer (some ⟨bb, 0, none⟩)] w fun e w' => e = .returned (.bool (readyB X (d0, (d1, t1), (d2, t2)))) ∧ Kept w w' := by
  have HC : Hid (∀ W, Kept w W → Calls Try.prog 38 #[.agg #[.string d0, d1, d2], v] W fun e w' => e = .returned (.bool (readyB X (d0, (d1, t1), (d2, t2)))) ∧ Kept W w') := fun W k => icn d0 d1 d2 t1 t2 X v W (h1.kept k) (h2.kept k) (hx.kept k) hn hX
  obtain ⟨a1, p1, hs1⟩ := row_nil h1
  subst hs1
  obtain ⟨a2, p2, hs2⟩ := row_nil h2
  subst hs2
  obtain ⟨ar, cr, hs3⟩ := row_nil hx
  subst hs3
  generalize readyB X (d0, (.slice a1 t1.length p1, t1), (.slice a2 t2.length p2, t2)) = R at *
  have hbl : bb < w.heap.size := World.block_lt_of_cell? _ _ hc
  clear h1 h2 hx
  go_enter Try.func37, Try.ntmps37
  repeat (first | go_values | go_skip | go_guarded | go_step | go_upon)
  go_at_call 38
  refine (HC.out _ ((But.refl _ _ _).alloc _)).mono ?_
  rintro e w2 ⟨rfl, k2⟩
  dsimp only
  repeat (first | go_values | go_skip | go_guarded | go_step | go_upon)
  go_ret
  exact ⟨rfl, (But.alloc (But.refl _ _ _) _).trans k2⟩

end Go.Proofs.Ytmoaihhllfkmiaa
