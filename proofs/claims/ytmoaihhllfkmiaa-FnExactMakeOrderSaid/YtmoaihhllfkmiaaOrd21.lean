/-
  The order in which assets are made, in the specification.
-/
import Derived.Test.YtmoaihhllfkmiaaHas21
import Derived.Test.YtmoaihhllfkmiaaApp21n
namespace Go.Proofs.Ytmoaihhllfkmiaa
open Go.ChangeShapes Go.WideShapes Go.ChangeAt Go.RowKit

set_option maxRecDepth 100000
set_option linter.unusedVariables false
set_option linter.unusedSimpArgs false

theorem find_hit {l : List AssetE} {p : AssetE → Bool} {i : Nat} {a : AssetE} (h0 : ∀ (j : Nat) (b : AssetE), j < i → l[j]? = some b → p b = false) (hi : l[i]? = some a) (hr : p a = true) : l.find? p = some a := by
  induction l generalizing i with
  | nil => simp at hi
  | cons x t ih =>
    cases i with
    | zero =>
      simp at hi
      subst hi
      simp [List.find?_cons, hr]
    | succ i =>
      have hx := h0 0 x (by omega) rfl
      rw [List.find?_cons, hx]
      exact ih (fun j b hj hb => h0 (j + 1) b (by omega) hb) hi
theorem find_non {l : List AssetE} {p : AssetE → Bool} (h0 : ∀ (j : Nat) (b : AssetE), l[j]? = some b → p b = false) : l.find? p = none := by
  rw [List.find?_eq_none]
  intro x hx
  obtain ⟨j, hj⟩ := List.mem_iff_getElem?.1 hx
  rw [h0 j x hj]
  simp
theorem all_snoc {ns : List ByteArray} {p : ByteArray → Bool} {j : Nat} {n : ByteArray} (h : ns[j]? = some n) : (ns.take (j + 1)).all p = ((ns.take j).all p && p n) := by
  rw [take_snoc h]
  simp
def lenOf (v : Value) : Nat := match v with
  | .slice _ n _ => n
  | _ => 0
set_option maxHeartbeats 16000000 in
theorem sord (l : List AssetE) (v : Value) (w : World) (hv : AssetAt w v l) (hn : l.length ≤ 1000) (hs : ∀ d ∈ l, d.2.1.2.length ≤ 1048576) :
    Calls Try.prog 39 #[v] w fun e w' => ∃ v', e = .returned v' ∧ TxtO w' w.heap.size w'.heap.size v' (ordL l) ∧ Kept w w' := by
  obtain ⟨ao, cap, hsl⟩ := row_nil hv.1
  subst hsl
  have HV : Hid (AssetAt w (.slice ao l.length cap) l) := hv
  have HS : Hid (∀ d ∈ l, d.2.1.2.length ≤ 1048576) := hs
  clear hv hs
  go_enter Try.func39, Try.ntmps39
  repeat (first | go_values | go_skip | go_guarded | go_step | go_upon)
  go_loopw [3] (fun s wr => ∃ (k : Nat), k ≤ l.length ∧ Hid ((ordN l k).length = k) ∧ TxtO wr w.heap.size wr.heap.size s (ordN l k) ∧ Kept w wr) (fun s _ => l.length + 1 - lenOf s)
  case atStart => exact ⟨0, by omega, rfl, nil_txt _ _ _, But.refl _ _ _⟩
  case round =>
    rename World => wo
    obtain ⟨k, hk, HLN, ho, hkp⟩ := hrel
    obtain ⟨ar, cr, hf⟩ := ho.form
    subst hf
    obtain ⟨X, hX⟩ : ∃ X, ordN l k = X := ⟨_, rfl⟩
    rw [hX] at ho HLN ⊢
    have HX : Hid (ordN l k = X) := hX
    have HO : Hid (TxtO wo w.heap.size wo.heap.size (.slice ar X.length cr) X) := ho
    have HK : Hid (Kept w wo) := hkp
    have hXl : X.length ≤ 1048576 := by have := HLN.out; omega
    clear hX ho hkp
    repeat (first | go_values | go_skip | go_guarded | go_step | go_upon)
    go_loopw [3, 4, 12] (fun s f i wm => ∃ (i' : Nat), i' ≤ l.length ∧ i = .int .i64 i' ∧ f = .bool false ∧ s = .slice ar X.length cr ∧ Hid (∀ (j : Nat) (a : AssetE), j < i' → l[j]? = some a → readyB X a = false) ∧ Kept wo wm) (fun s f i _ => l.length - (intOf i).toNat)
    case atStart => exact ⟨0, by omega, rfl, rfl, rfl, fun j a hj => by omega, But.refl _ _ _⟩
    case round =>
      rename World => wm
      obtain ⟨i', hi', rfl, rfl, rfl, HB, hkm⟩ := hrel
      have HM : Hid (Kept wo wm) := hkm
      by_cases hlt : i' < l.length
      · obtain ⟨d, hd⟩ : ∃ d, l[i']? = some d := ⟨_, List.getElem?_eq_getElem hlt⟩
        obtain ⟨b, o, cap1, e, c0, c1, c2, hpt, hpb⟩ := asset_get (HV.out.kept (HK.out.trans hkm)) hd
        cases e
        have hnl := HS.out d (List.mem_of_getElem? hd)
        have HD : Hid (l[i']? = some d) := hd
        obtain ⟨d0, ⟨d1, t1⟩, ⟨d2, t2⟩⟩ := d
        dsimp only at c0 c1 c2 hpt hpb hnl
        obtain ⟨a1, p1, hs1⟩ := row_nil hpt
        subst hs1
        obtain ⟨a2, p2, hs2⟩ := row_nil hpb
        subst hs2
        have HT : Hid (TxtAt wm (.slice a1 t1.length p1) t1) := hpt
        have hgw : b < wm.heap.size := World.block_lt_of_cell? _ _ c0
        have AX : Hid (∀ (s : ByteArray) W, Kept wo W → Calls Try.prog 73 #[.slice ar X.length cr, .string s] W fun e w' => e = .returned (.bool (hasB X s)) ∧ Kept W w') := fun s W k => shas X s _ W (HO.out.at.kept k) hXl
        have HRD : Hid (readyB X (d0, (.slice a1 t1.length p1, t1), (.slice a2 t2.length p2, t2)) = (!hasB X d0 && t1.all fun n => hasB X n)) := rfl
        clear hd hkm hpt hpb
        repeat (first | go_values | go_skip | go_guarded | go_step | go_upon)
        go_at_call 73
        refine (AX.out d0 _ (HM.out.alloc _)).mono ?_
        rintro e w2 ⟨rfl, k2⟩
        have LX := (Loc.new wm [.string d0, .slice a1 t1.length p1, .slice a2 t2.length p2] 30).kept k2
        have HM2 : Hid (Kept wm w2) := (But.alloc (But.refl _ _ _) _).trans k2
        obtain ⟨bb, hbb⟩ : ∃ bb, wm.heap.size = bb := ⟨_, rfl⟩
        rw [hbb] at LX ⊢
        have HL : Hid (Loc w2 bb [.string d0, .slice a1 t1.length p1, .slice a2 t2.length p2]) := LX
        have x0 := LX.cell 0 rfl
        have x1 := LX.cell 1 rfl
        have xl := LX.lt
        obtain ⟨H0, hH0⟩ : ∃ H0, hasB X d0 = H0 := ⟨_, rfl⟩
        have HH0 : Hid (hasB X d0 = H0) := hH0
        rw [hH0]
        clear k2 LX c0 c1 c2 hgw hbb hH0
        dsimp only
        repeat (first | go_values | go_skip | go_guarded | go_step | go_upon)
        go_loopw [7, 24] (fun r j wn => ∃ (j' : Nat), j' ≤ t1.length ∧ j = .int .i64 j' ∧ r = .bool (!H0 && (t1.take j').all fun n => hasB X n) ∧ Kept w2 wn) (fun r j _ => t1.length - (intOf j).toNat)
        case atStart => exact ⟨0, by omega, rfl, by simp, But.refl _ _ _⟩
        case round =>
          rename World => wn
          obtain ⟨j', hj', rfl, rfl, hkn⟩ := hrel
          have HN : Hid (Kept w2 wn) := hkn
          obtain ⟨RB, hRB⟩ : ∃ RB, (!H0 && (t1.take j').all fun n => hasB X n) = RB := ⟨_, rfl⟩
          have HRB : Hid ((!H0 && (t1.take j').all fun n => hasB X n) = RB) := hRB
          rw [hRB]
          clear hRB x0 x1 xl
          have LY := HL.out.kept hkn
          have x0 := LY.cell 0 rfl
          have x1 := LY.cell 1 rfl
          have xl := LY.lt
          clear LY hkn
          by_cases hltj : j' < t1.length
          · obtain ⟨n, hnn⟩ : ∃ n, t1[j']? = some n := ⟨_, List.getElem?_eq_getElem hltj⟩
            obtain ⟨b3, o3, cap3, e3, y0⟩ := txt_get (HT.out.kept (HM2.out.trans HN.out)) hnn
            cases e3
            have HSN : Hid ((!H0 && (t1.take (j' + 1)).all fun n => hasB X n) = (RB && hasB X n)) := by
              show _ = _
              rw [all_snoc hnn, ← HRB.out, Bool.and_assoc]
            clear hnn
            cases RB with
            | false =>
              repeat (first | go_values | go_skip | go_guarded | go_step | go_upon)
              exact ⟨⟨j' + 1, hltj, by go_num, by rw [HSN.out]; rfl, HN.out⟩, by simp [intOf]; omega⟩
            | true =>
              repeat (first | go_values | go_skip | go_guarded | go_step | go_upon)
              go_at_call 73
              refine (AX.out n _ (HM.out.trans (HM2.out.trans HN.out))).mono ?_
              rintro e w4 ⟨rfl, k4⟩
              obtain ⟨H1, hH1⟩ : ∃ H1, hasB X n = H1 := ⟨_, rfl⟩
              have HH1 : Hid (hasB X n = H1) := hH1
              rw [hH1]
              clear hH1 y0
              dsimp only
              repeat (first | go_values | go_skip | go_guarded | go_step | go_upon)
              exact ⟨⟨j' + 1, hltj, by go_num, by rw [HSN.out, HH1.out]; rfl, HN.out.trans k4⟩, by simp [intOf]; omega⟩
          · have hje : j' = t1.length := by omega
            subst hje
            have hrb := HRB.out
            rw [List.take_length, ← HH0.out, ← HRD.out] at hrb
            have HRY : Hid (readyB X (d0, (.slice a1 t1.length p1, t1), (.slice a2 t2.length p2, t2)) = RB) := hrb
            clear hrb HRB
            have HKN : Hid (Kept wo wn) := HM.out.trans (HM2.out.trans HN.out)
            cases RB with
            | false =>
              clear x1
              repeat (first | go_values | go_skip | go_guarded | go_step | go_upon)
              refine ⟨⟨i' + 1, hlt, by go_num, rfl, rfl, fun j a hj ha => ?_, HKN.out⟩, by simp [intOf]; omega⟩
              by_cases e : j = i'
              · subst e
                rw [HD.out] at ha
                cases ha
                exact HRY.out
              · exact HB.out j a (by omega) ha
            | true =>
              have HF : Hid (l.find? (readyB (ordN l k)) = some (d0, (.slice a1 t1.length p1, t1), (.slice a2 t2.length p2, t2))) := by
                have h1 := HX.out
                show l.find? (readyB (ordN l k)) = _
                rw [h1]
                exact find_hit HB.out HD.out HRY.out
              have HS1 : Hid (ordN l (k + 1) = X ++ [d0]) := by have := ord_some HF.out; rw [HX.out] at this; exact this
              have hk1 : k + 1 ≤ l.length := by
                have := ord_len l (k + 1)
                rw [HS1.out, List.length_append, HLN.out] at this
                simpa using this
              clear x1
              repeat (first | (at_builtin; refine forgetL (fun w' => w' = _) rfl ?_) | go_values | go_skip | go_guarded | go_step | go_upon)
              intro W7 hW7
              rw [hW7]
              clear hW7 W7
              refine app1_txt rfl _ _ rfl (lo := w.heap.size) (hi := wo.heap.size) rfl (HO.out.kept (HKN.out.alloc _)) d0 rfl (Loc.new wn [.string d0] 9) (by have := HLN.out; omega) (by have := HK.out.size; have := HKN.out.size; simp; omega) ?_
              intro v5 w5 o5 b5 _
              have b5' := But.inner b5 (HO.out.kept (HKN.out.alloc (.cells #[.string d0] 9)))
              have K5 : Hid (Kept w w5) := by
                have a1 : Kept w (wn.alloc (.cells #[.string d0] 9)) := (HK.out.trans HKN.out).alloc _
                exact ⟨b5'.os.trans a1.os, b5'.out.trans a1.out, Nat.le_trans a1.size b5'.size, fun i hi' ho => (b5'.block i (Nat.lt_of_lt_of_le hi' a1.size) (by omega)).trans (a1.block i hi' ho)⟩
              have O5 : Hid (TxtO w5 w.heap.size w5.heap.size v5 (X ++ [d0])) := o5
              obtain ⟨a5, p5, hf⟩ := o5.form
              subst hf
              clear o5 b5 b5' x0 xl
              repeat (first | go_values | go_skip | go_guarded | go_step | go_upon)
              refine ⟨⟨k + 1, hk1, by show _ = _; rw [HS1.out, List.length_append, HLN.out]; rfl, by rw [HS1.out]; have h9 := O5.out; rw [show (X ++ [d0]).length = X.length + 1 by simp] at h9; exact h9, K5.out⟩, ?_⟩
              have := HLN.out
              simp [lenOf]
              omega
      · have hie : i' = l.length := by omega
        subst hie
        have HF : Hid (l.find? (readyB (ordN l k)) = none) := by
          have h1 := HX.out
          show l.find? (readyB (ordN l k)) = none
          rw [h1]
          exact find_non fun j b hb => HB.out j b (List.getElem?_eq_some_iff.1 hb).1 hb
        have HE : Hid (ordL l = X) := by
          have h1 := ord_stop HF.out (l.length - k)
          rw [show k + (l.length - k) = l.length by omega, HX.out] at h1
          exact h1
        clear hkm
        repeat (first | go_values | go_skip | go_guarded | go_step | go_upon)
        go_ret
        have hsz := HM.out.size
        exact ⟨_, rfl, by rw [HE.out]; exact RowO.mono (HO.out.kept HM.out) (Nat.le_refl _) hsz, HK.out.trans HM.out⟩

end Go.Proofs.Ytmoaihhllfkmiaa
