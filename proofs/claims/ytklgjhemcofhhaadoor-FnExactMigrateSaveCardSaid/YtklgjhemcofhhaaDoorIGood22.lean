/-
  Which values are good: the program.
-/
import Derived.Test.YtklgjhemcofhhaaDoorRise22
import Derived.Test.YtklgjhemcofhhaaDoorApp22
import Derived.Test.YtklgjhemcofhhaaDoorVal
namespace Go.Proofs.YtklgjhemcofhhaaDoor
open Go.ChangeShapes Go.WideShapes Go.ChangeAt Go.RowKit

set_option maxRecDepth 100000
set_option linter.unusedVariables false
set_option linter.unusedSimpArgs false

set_option maxHeartbeats 8000000 in
theorem igoodv (l : List ValD) (v : Value) (w : World) (hv : ValAt w v l) (hn : l.length ≤ 1048576) (hs0 : ∀ d ∈ l, d.1.size ≤ 1048576 ∧ d.2.2.size ≤ 1048576) :
    Calls Tryd.prog 45 #[v] w fun e w' => e = .returned (.bool (decide (ValsP l))) ∧ Kept w w' := by
  obtain ⟨ao, cap, hsl⟩ := row_nil hv
  subst hsl
  have HS : Hid (∀ d ∈ l, d.1.size ≤ 1048576 ∧ d.2.2.size ≤ 1048576) := hs0
  clear hs0
  have NO : Hid (¬ ValsP l → decide (ValsP l) = false) := decide_eq_false
  have RES : Hid ((∀ d ∈ l, d.2.2.size ≤ 100) → decide (KeysP 30 (namesOf l)) = decide (ValsP l)) := fun h => decide_eq_decide.2 ⟨fun h2 => ⟨h, h2⟩, fun h2 => h2.2⟩
  generalize decide (ValsP l) = R at *
  go_enter Tryd.func45, Tryd.ntmps45
  repeat (first | go_values | go_skip | go_guarded | go_step | go_upon)
  go_loopw [3, 8] (fun s i wr => ∃ k : Nat, k ≤ l.length ∧ i = .int .i64 k ∧ Hid (∀ d ∈ l.take k, d.2.2.size ≤ 100) ∧ TxtO wr w.heap.size wr.heap.size s (namesOf (l.take k)) ∧ Kept w wr) (fun s i _ => l.length - (intOf i).toNat)
  case atStart => exact ⟨0, by omega, rfl, fun d hd => by simp at hd, nil_txt _ _ _, But.refl _ _ _⟩
  case round =>
    obtain ⟨k, hk, rfl, hall, ho, hkp⟩ := hrel
    have HALL : Hid _ := hall
    clear hall
    obtain ⟨ar, cr, hf⟩ := ho.form
    subst hf
    have hnl : (namesOf (l.take k)).length = k := by rw [namesOf_len, List.length_take]; omega
    by_cases hlt : k < l.length
    · obtain ⟨d, hd⟩ : ∃ d, l[k]? = some d := ⟨_, List.getElem?_eq_getElem hlt⟩
      obtain ⟨b, o, cap1, e, c0, c1, c2⟩ := val_get (hv.kept hkp) hd
      cases e
      have hsz := (HS.out d (List.mem_of_getElem? hd)).2
      have HD : Hid (l[k]? = some d) := hd
      have HTK : Hid (l.take (k + 1) = l.take k ++ [d]) := take_snoc hd
      have HK : Hid (Kept w wr) := hkp
      have hw := hkp.size
      obtain ⟨X, hX⟩ : ∃ X, namesOf (l.take k) = X := ⟨_, rfl⟩
      rw [hX] at ho hnl ⊢
      have HX : Hid (namesOf (l.take k) = X) := hX
      have OX : Hid (TxtO wr w.heap.size wr.heap.size (.slice ar X.length cr) X) := ho
      have HXL : Hid (X.length = k) := hnl
      obtain ⟨d0, d1, d2⟩ := d
      dsimp only at c0 c1 c2 hsz
      clear hv hd hkp ho hX hnl
      have h0 := World.block_lt_of_cell? _ _ c0
      by_cases ht : d2.size ≤ 100
      · have dt : decide ((100 : Int) < (d2.size : Int)) = false := decide_eq_false (by omega)
        have HT : Hid (d2.size ≤ 100) := ht
        clear ht
        repeat (first | (at_builtin; refine forgetL (fun w' => w' = _) rfl ?_) | go_values | go_skip | go_guarded | go_step | go_upon)
        intro W7 hW7
        rw [hW7]
        clear hW7 W7
        refine app1_txt rfl _ _ rfl (lo := w.heap.size) (hi := wr.heap.size) rfl (OX.out.kept (((But.refl _ _ wr).alloc _).alloc _)) d0 rfl (by have := Loc.new (wr.alloc (.cells #[.string d0, .int .i64 d1, .string d2] 53)) [.string d0] 9; simp only [World.size_alloc] at this; exact this) (by have := HXL.out; omega) (by simp; omega) ?_
        intro v5 w5 o5 b5 _
        have b5' := But.inner b5 (OX.out.kept (((But.refl _ _ wr).alloc (.cells #[.string d0, .int .i64 d1, .string d2] 53)).alloc (.cells #[.string d0] 9)))
        have K5 : Hid (Kept w w5) := by
          have a1 : Kept w ((wr.alloc (.cells #[.string d0, .int .i64 d1, .string d2] 53)).alloc (.cells #[.string d0] 9)) := (HK.out.alloc _).alloc _
          exact ⟨b5'.os.trans a1.os, b5'.out.trans a1.out, Nat.le_trans a1.size b5'.size, fun i hi' ho => (b5'.block i (Nat.lt_of_lt_of_le hi' a1.size) (by omega)).trans (a1.block i hi' ho)⟩
        obtain ⟨a5, p5, hf⟩ := o5.form
        subst hf
        have O5 : Hid (TxtO w5 w.heap.size w5.heap.size (.slice a5 (X ++ [d0]).length p5) (X ++ [d0])) := o5
        obtain ⟨Z, hZ⟩ : ∃ Z, X ++ [d0] = Z := ⟨_, rfl⟩
        rw [hZ] at O5 ⊢
        have HZ : Hid (namesOf (l.take (k + 1)) = Z) := by show _ = _; rw [HTK.out, namesOf_snoc, HX.out, hZ]
        clear hZ o5 b5 b5' c0 c1 c2
        repeat (first | go_values | go_skip | go_guarded | go_step | go_upon)
        refine ⟨⟨k + 1, hlt, by go_num, fun d hd => ?_, by rw [HZ.out]; exact O5.out, K5.out⟩, by simp [intOf]; omega⟩
        rw [HTK.out, List.mem_append] at hd
        rcases hd with hd | hd
        · exact HALL.out d hd
        · simp at hd; subst hd; exact HT.out
      · have dt : decide ((100 : Int) < (d2.size : Int)) = true := decide_eq_true (by omega)
        have hR := NO.out (fun h => ht (h.1 _ (List.mem_of_getElem? HD.out)))
        subst hR
        clear ht
        repeat (first | go_values | go_skip | go_guarded | go_step | go_upon)
        go_ret
        exact ⟨rfl, HK.out.alloc _⟩
    · have hke : k = l.length := by omega
      subst hke
      have hall2 := HALL.out
      rw [List.take_length] at hall2 ho hnl
      have hR := RES.out hall2
      have HNS : Hid (∀ p ∈ namesOf l, p.size ≤ 1048576) := by
        intro p hp
        obtain ⟨d, hd, rfl⟩ := List.mem_map.1 hp
        exact (HS.out d hd).1
      rw [List.take_length]
      have HV : Hid (TxtAt wr (.slice ar (namesOf l).length cr) (namesOf l)) := ho.at
      have hl9 : (namesOf l).length ≤ 1048576 := by omega
      have HR : Hid (decide (KeysP 30 (namesOf l)) = R) := hR
      generalize namesOf l = ns at *
      have HK : Hid (Kept w wr) := hkp
      have AR : Hid (Calls Tryd.prog 61 #[.slice ar ns.length cr, .int .i64 30] wr fun e w' => e = .returned (.bool (decide (KeysP 30 ns))) ∧ Kept wr w') := irises ns 30 _ _ HV.out (by omega) hl9 HNS.out
      clear hR hall2 HALL ho hkp hv hnl hl9
      repeat (first | (go_at_call 61; with_reducible refine (AR.out).mono ?_; rintro e w9 ⟨rfl, k9⟩; dsimp only) | go_values | go_skip | go_guarded | go_step | go_upon)
      go_ret
      exact ⟨ret_boolG HR.out, HK.out.trans k9⟩

end Go.Proofs.YtklgjhemcofhhaaDoor
