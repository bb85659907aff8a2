/-
  Whether the keys of a list of entries rise: the program.
-/
import Derived.Test.YtgbgnmjgnfocmaaApp19
import Derived.Test.YtgbgnmjgnfocmaaRise19
namespace Go.Proofs.Ytgbgnmjgnfocmaa
open Go.ChangeShapes Go.WideShapes Go.ChangeAt Go.RowKit

set_option maxRecDepth 100000
set_option linter.unusedVariables false

set_option maxHeartbeats 8000000 in
theorem ikeys (l : List EntryD) (v : Value) (w : World) (hv : EntriesAt w v l) (hn : l.length ≤ 1048576) (hs0 : ∀ d ∈ l, d.1.size ≤ 1048576) :
    Calls Try.prog 16 #[v] w fun e w' => e = .returned (.bool (dec (KeysP 60 (keysOf l)))) ∧ Kept w w' := by
  obtain ⟨ao, cap, hsl⟩ := hv.form
  subst hsl
  have hs : Hid (∀ d ∈ l, d.1.size ≤ 1048576) := hs0
  clear hs0
  have HR : Hid (∀ W v, Kept w W → TxtAt W v (keysOf l) → Calls Try.prog 24 #[v, .int .i64 60] W fun e w' => e = .returned (.bool (dec (KeysP 60 (keysOf l)))) ∧ Kept W w') := fun W v k hv => irises (keysOf l) 60 v W hv (by omega) (by rw [keysOf_len]; exact hn) (fun p hp => by
    obtain ⟨d, hd, rfl⟩ := List.mem_map.1 hp
    exact hs.out d hd)
  generalize dec (KeysP 60 (keysOf l)) = R at *
  go_enter Try.func16, Try.ntmps16
  repeat (first | go_values | go_skip | go_guarded | go_step | go_upon)
  go_loopw [3, 8] (fun x i wr => ∃ (k : Nat), k ≤ l.length ∧ i = .int .i64 k ∧ TxtO wr w.heap.size wr.heap.size x (keysOf (l.take k)) ∧ Kept w wr) (fun x i _ => l.length - (intOf i).toNat)
  case atStart => exact ⟨0, by omega, rfl, nil_txt _ _ _, But.refl _ _ _⟩
  case round =>
    obtain ⟨k, hk, rfl, ho, hkp⟩ := hrel
    obtain ⟨ax, cx, hf, _⟩ := own_form ho.1
    subst hf
    have hkl : (keysOf (l.take k)).length = k := by rw [keysOf_len, List.length_take]; omega
    rw [hkl] at ho ⊢
    by_cases hlt : k < l.length
    · obtain ⟨d, hd⟩ : ∃ p, l[k]? = some p := ⟨_, List.getElem?_eq_getElem hlt⟩
      obtain ⟨b, o, cap', s, ee, c0, c1, c2, hka⟩ := (hv.kept hkp).get hd
      cases ee
      have HT : Hid (keysOf (l.take k) ++ [d.1] = keysOf (l.take (k + 1))) := show _ = _ from by rw [take_snoc hd]; simp [keysOf]
      have HKL : Hid ((keysOf (l.take k)).length = k) := hkl
      have HK : Hid (Kept w wr) := hkp
      have HO : Hid (TxtO wr w.heap.size wr.heap.size (.slice ax k cx) (keysOf (l.take k))) := ho
      obtain ⟨d0, d1, d2⟩ := d
      dsimp only at c0 c1 c2 hka HT
      obtain ⟨a3, p3, hsl⟩ := row_nil hka
      subst hsl
      have hsz := hkp.size
      clear hd hka hkp hv ho hkl
      repeat (first | (at_builtin; refine forgetL (fun w' => w' = _) rfl ?_) | go_values | go_skip | go_guarded | go_step | go_upon)
      intro W7 hW7
      rw [hW7]
      clear hW7 W7
      have LN : Loc ((wr.alloc (.cells #[.string d0, .slice a3 d1.length p3, .bool d2] 38)).alloc (.cells #[.string d0] 9)) (wr.heap.size + 1) [.string d0] := by have := Loc.new (wr.alloc (.cells #[.string d0, .slice a3 d1.length p3, .bool d2] 38)) [.string d0] 9; simpa only [World.size_alloc] using this
      refine app_txt rfl _ _ rfl (lo := w.heap.size) (hi := wr.heap.size) rfl (HO.out.kept (((But.refl _ _ wr).alloc _).alloc _)) rfl (one_txt (p := d0) LN) rfl (by rw [HKL.out]; simp; omega) (by simp; omega) ?_
      clear LN
      intro v2 w2 o2 b2
      have HO2 : Hid (TxtO w2 w.heap.size w2.heap.size v2 (keysOf (l.take k) ++ [d0])) := o2
      have HK2 : Hid (Kept w w2) := But.onto ((HK.out.alloc _).alloc _) b2 (Nat.le_refl _)
      clear o2 b2 HO HK
      repeat (first | go_values | go_skip | go_guarded | go_step | go_upon)
      exact ⟨⟨k + 1, hlt, by go_num, by rw [← HT.out]; exact HO2.out, HK2.out⟩, by simp [intOf]; omega⟩
    · have hke : k = l.length := by omega
      subst hke
      rw [List.take_length] at ho
      have HO : Hid (TxtAt wr (.slice ax l.length cx) (keysOf l)) := ho.at
      have HK : Hid (Kept w wr) := hkp
      clear ho hkp hkl
      repeat (first | (go_at_call 24; refine (HR.out _ _ HK.out HO.out).mono ?_; rintro e w4 ⟨rfl, k4⟩; dsimp only) | go_values | go_skip | go_guarded | go_step | go_upon)
      go_ret
      exact ⟨rfl, HK.out.trans k4⟩

end Go.Proofs.Ytgbgnmjgnfocmaa
