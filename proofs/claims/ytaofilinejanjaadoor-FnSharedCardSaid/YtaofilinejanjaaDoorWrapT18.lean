/-
  Blanks at a text's end, and a text's rows, in the specification.
-/
import Derived.Test.YtaofilinejanjaaDoorLib18
import Derived.Test.YtaofilinejanjaaDoorRunS18
import Derived.Test.YtaofilinejanjaaDoorAppT18
import Derived.Laws.DeepStrings4
namespace Go.Proofs.YtaofilinejanjaaDoor
open Go.ChangeShapes Go.WideShapes Go.ChangeAt Go.RowKit

set_option maxRecDepth 100000
set_option linter.unusedVariables false

theorem ext_all (s : ByteArray) : s.extract 0 s.size = s := by
  rw [Lib.extract_upto, List.take_of_length_le (by rw [← Lib.size_eq]; exact Nat.le_refl _)]
theorem ext_size (s : ByteArray) (k : Nat) (h : k ≤ s.size) : (s.extract 0 k).size = k := by rw [ByteArray.size_extract]; omega
theorem sl_mid (t : ByteArray) (a b : Nat) (i j : Int) (hi : i = (a : Int)) (hj : j = (b : Int)) (hab : a ≤ b) (h : b ≤ t.size) (W : World) : (Instr.slice 9 (.string t) (some (.int .i64 i)) (some (.int .i64 j)) none).run Tryd.prog W = .ok (.string (t.extract a b)) W := by
  subst hi hj
  rw [run_slice_string_if W 9 t .i64 .i64 (a : Int) (b : Int) Tryd.underlying9, if_pos ⟨by omega, by omega⟩, if_pos ⟨by omega, by omega⟩]
  simp
set_option maxHeartbeats 4000000 in
theorem strim (s : ByteArray) (w : World) (hs : s.size ≤ 1048576) : Calls Tryd.prog 32 #[.string s] w fun e w' => e = .returned (.string (trimR s)) ∧ w' = w := by
  have HS : Hid (Value.string s = .string (s.extract 0 s.size)) := show Value.string s = .string (s.extract 0 s.size) from by rw [ext_all]
  go_enter Tryd.func32, Tryd.ntmps32
  go_wp2
  go_loopw [0] (fun v wr => wr = w ∧ ∃ k : Nat, k ≤ s.size ∧ v = .string (s.extract 0 k) ∧ Hid (∀ j, k ≤ j → j < s.size → byt s j = 32)) (fun v _ => Lib.strSize v)
  case atStart => exact ⟨rfl, s.size, Nat.le_refl _, HS.out, (fun j h1 h2 => by omega : ∀ j, s.size ≤ j → j < s.size → byt s j = 32)⟩
  case round =>
    obtain ⟨hwr, k, hk, rfl, HB⟩ := hrel
    rw [hwr]
    clear hwr
    have hz := ext_size s k hk
    cases k with
    | zero =>
      have hR : trimR s = s.extract 0 0 := trimR_eq ⟨by omega, HB.out, fun h => by omega⟩
      have HR : Hid (trimR s = s.extract 0 0) := hR
      have d0 : decide ((0 : Int) < ((s.extract 0 0).size : Int)) = false := decide_eq_false (by omega)
      have d0' : decide (0 < (s.extract 0 0).size) = false := decide_eq_false (by omega)
      clear hR hz
      repeat (first | go_values | go_skip | go_guarded | go_step | go_upon)
      go_ret
      exact ⟨by rw [HR.out]; rfl, rfl⟩
    | succ k =>
      have hbt := byt_take s (k + 1) k (by omega) hk
      have hix := fun W => ix_str (s.extract 0 (k + 1)) k (k : Int) rfl (by omega) W
      rw [hbt] at hix
      have hsl := fun W => sl_to (s.extract 0 (k + 1)) k (k : Int) rfl (by omega) W
      rw [ByteArray.extract_extract, show min (0 + k) (k + 1) = k by omega, Nat.zero_add] at hsl
      have hzz : ((s.extract 0 (k + 1)).size : Int) = (k : Int) + 1 := by omega
      have HZ : Hid ((s.extract 0 k).size = k) := ext_size s k (by omega)
      have e1 : IntKind.i64.wrap (((s.extract 0 (k + 1)).size : Int) - 1) = (k : Int) := by rw [IntWalk.i64_in _ (by omega)]; omega
      have d0 : decide ((0 : Int) < ((s.extract 0 (k + 1)).size : Int)) = true := decide_eq_true (by omega)
      have d0' : decide (0 < (s.extract 0 (k + 1)).size) = true := decide_eq_true (by omega)
      have d0'' : 0 < (s.extract 0 (k + 1)).size := by omega
      have HZ1 : Hid ((s.extract 0 (k + 1)).size = k + 1) := hz
      have HRR : Hid (byt s k ≠ 32 → trimR s = s.extract 0 (k + 1)) := fun h => trimR_eq ⟨hk, HB.out, fun _ => by simpa using h⟩
      clear hz hbt hzz
      generalize s.extract 0 (k + 1) = t at *
      by_cases hb : byt s k = 32
      · have d1 : (byt s k == 32) = true := by simp [hb]
        have HB2 : Hid (∀ j, k ≤ j → j < s.size → byt s j = 32) := fun j h1 h2 => by
          by_cases e : j = k
          · subst e; exact hb
          · exact HB.out j (by omega) h2
        clear hb HRR HS
        repeat (first | go_values | go_skip | go_guarded | go_step | go_upon)
        exact ⟨⟨by trivial, k, by omega, rfl, HB2⟩, by simp only [Lib.strSize]; have := HZ.out; have := HZ1.out; omega⟩
      · have d1 : (byt s k == 32) = false := by simp [hb]
        have HR : Hid (trimR s = t) := HRR.out hb
        clear hb HRR HS
        repeat (first | go_values | go_skip | go_guarded | go_step | go_upon)
        go_ret
        exact ⟨by rw [HR.out]; rfl, rfl⟩

set_option maxRecDepth 100000
set_option linter.unusedVariables false

set_option maxHeartbeats 8000000 in
theorem ssplit (s : ByteArray) (w : World) (hs : s.size ≤ 1048576) :
    Calls Tryd.prog 30 #[.string s, .int .u8 10] w fun e w' => ∃ ao cap, e = .returned (.slice ao (splF s s.size 0 0).length cap) ∧ TxtAt w' (.slice ao (splF s s.size 0 0).length cap) (splF s s.size 0 0) ∧ Kept w w' := by
  obtain ⟨R, hR⟩ : ∃ R, splF s s.size 0 0 = R := ⟨_, rfl⟩
  have HR : Hid (splF s s.size 0 0 = R) := hR
  have hRl : R.length ≤ s.size + 1 := by rw [← hR]; exact splF_len s s.size 0 0
  rw [hR]
  clear hR
  go_enter Tryd.func30, Tryd.ntmps30
  go_wp2
  go_loopw [5, 6, 7] (fun v fv iv wr => ∃ (i fr : Nat) (L : List ByteArray), iv = .int .i64 i ∧ fv = .int .i64 fr ∧ TxtO wr w.heap.size wr.heap.size v L ∧ Hid ((∃ b, b + i = s.size ∧ L ++ splF s b fr i = R) ∨ (i = s.size + 1 ∧ L = R)) ∧ fr ≤ i ∧ i ≤ s.size + 1 ∧ L.length ≤ i ∧ Kept w wr) (fun v fv iv _ => s.size + 1 - (intOf iv).toNat)
  case atStart => exact ⟨0, 0, [], rfl, rfl, nil_txt _ _ _, (show (∃ b, b + 0 = s.size ∧ [] ++ splF s b 0 0 = R) ∨ (0 = s.size + 1 ∧ [] = R) from .inl ⟨s.size, rfl, HR.out⟩), by omega, by omega, by simp, But.refl _ _ _⟩
  case round =>
    obtain ⟨i, fr, L, rfl, rfl, ho, HB, hfi, his, hLi, hkp⟩ := hrel
    obtain ⟨a5, p5, hf⟩ := ho.form
    subst hf
    have HO : Hid (TxtO wr w.heap.size wr.heap.size (.slice a5 L.length p5) L) := ho
    have HK : Hid (Kept w wr) := hkp
    have s1 := hkp.size
    clear ho hkp HR
    by_cases h1 : i ≤ s.size
    · have d1 : decide ((i : Int) ≤ (s.size : Int)) = true := decide_eq_true (by omega)
      obtain ⟨b, hb, hLR⟩ : ∃ b, b + i = s.size ∧ L ++ splF s b fr i = R := HB.out.resolve_right (fun h => by omega)
      have hsl := fun W => sl_mid s fr i (fr : Int) (i : Int) rfl rfl hfi h1 W
      cases b with
      | zero =>
        have hie : i = s.size := by omega
        have HE : Hid (L ++ [s.extract fr i] = R) := by
          have e : L ++ [s.extract fr i] = R := by rw [hie]; exact hLR
          exact e
        have HIE : Hid (i = s.size) := hie
        have d2 : ((i : Int) == (s.size : Int)) = true := by simp [hie]
        have d2' : (i == s.size) = true := by simp [hie]
        clear hLR hb HB hie
        repeat (first | (at_builtin; refine forgetL (fun w' => w' = _) rfl ?_) | go_values | go_skip | go_guarded | go_step | go_upon)
        intro W7 hW7
        rw [hW7]
        clear hW7 W7
        refine app_txt rfl _ _ rfl (lo := w.heap.size) (hi := wr.heap.size) rfl (HO.out.kept ((But.refl _ _ wr).alloc _)) rfl (one_txt (p := s.extract fr i) (Loc.new wr [.string (s.extract fr i)] 9)) rfl (by simp; omega) (by simp; omega) ?_
        intro v2 w2 o2 b2
        have HO2 : Hid (TxtO w2 w.heap.size w2.heap.size v2 (L ++ [s.extract fr i])) := o2
        have HK2 : Hid (Kept w w2) := But.onto (HK.out.alloc _) b2 (Nat.le_refl _)
        clear o2 b2
        repeat (first | go_values | go_skip | go_guarded | go_step | go_upon)
        exact ⟨⟨i + 1, i + 1, L ++ [s.extract fr i], by go_num, by go_num, HO2.out, (show (∃ b, b + (i + 1) = s.size ∧ (L ++ [s.extract fr i]) ++ splF s b (i + 1) (i + 1) = R) ∨ (i + 1 = s.size + 1 ∧ L ++ [s.extract fr i] = R) from .inr ⟨by have := HIE.out; omega, HE.out⟩), by omega, by omega, by simp; omega, HK2.out⟩, by simp [intOf]; omega⟩
      | succ b =>
        have hil : i < s.size := by omega
        have d2 : ((i : Int) == (s.size : Int)) = false := by simp; omega
        have d2' : (i == s.size) = false := by simp; omega
        have hix := fun W => ix_str s i (i : Int) rfl hil W
        by_cases hbt : byt s i = 10
        · have d3 : (byt s i == 10) = true := by simp [hbt]
          have HE : Hid ((L ++ [s.extract fr i]) ++ splF s b (i + 1) (i + 1) = R) := by
            have e : (L ++ [s.extract fr i]) ++ splF s b (i + 1) (i + 1) = R := by
              rw [← hLR]
              conv => rhs; rhs; unfold splF
              rw [if_pos hbt]
              simp
            exact e
          have HBI : Hid (b + (i + 1) = s.size) := show b + (i + 1) = s.size from by omega
          clear hLR hb HB hbt
          repeat (first | (at_builtin; refine forgetL (fun w' => w' = _) rfl ?_) | go_values | go_skip | go_guarded | go_step | go_upon)
          intro W7 hW7
          rw [hW7]
          clear hW7 W7
          refine app_txt rfl _ _ rfl (lo := w.heap.size) (hi := wr.heap.size) rfl (HO.out.kept ((But.refl _ _ wr).alloc _)) rfl (one_txt (p := s.extract fr i) (Loc.new wr [.string (s.extract fr i)] 9)) rfl (by simp; omega) (by simp; omega) ?_
          intro v2 w2 o2 b2
          have HO2 : Hid (TxtO w2 w.heap.size w2.heap.size v2 (L ++ [s.extract fr i])) := o2
          have HK2 : Hid (Kept w w2) := But.onto (HK.out.alloc _) b2 (Nat.le_refl _)
          clear o2 b2
          repeat (first | go_values | go_skip | go_guarded | go_step | go_upon)
          exact ⟨⟨i + 1, i + 1, L ++ [s.extract fr i], by go_num, by go_num, HO2.out, (show (∃ b, b + (i + 1) = s.size ∧ (L ++ [s.extract fr i]) ++ splF s b (i + 1) (i + 1) = R) ∨ (i + 1 = s.size + 1 ∧ L ++ [s.extract fr i] = R) from .inl ⟨b, HBI.out, HE.out⟩), by omega, by omega, by simp; omega, HK2.out⟩, by simp [intOf]; omega⟩
        · have d3 : (byt s i == 10) = false := by simp [hbt]
          have HE : Hid (L ++ splF s b fr (i + 1) = R) := by
            have e : L ++ splF s b fr (i + 1) = R := by
              rw [← hLR]
              conv => rhs; rhs; unfold splF
              rw [if_neg hbt]
            exact e
          have HBI : Hid (b + (i + 1) = s.size) := show b + (i + 1) = s.size from by omega
          clear hLR hb HB hbt
          repeat (first | go_values | go_skip | go_guarded | go_step | go_upon)
          exact ⟨⟨i + 1, fr, L, by go_num, rfl, HO.out, (show (∃ b, b + (i + 1) = s.size ∧ L ++ splF s b fr (i + 1) = R) ∨ (i + 1 = s.size + 1 ∧ L = R) from .inl ⟨b, HBI.out, HE.out⟩), by omega, by omega, by omega, HK.out⟩, by simp [intOf]; omega⟩
    · have d1 : decide ((i : Int) ≤ (s.size : Int)) = false := decide_eq_false (by omega)
      have hLR : L = R := by
        rcases HB.out with ⟨b, hb, _⟩ | ⟨_, h⟩
        · omega
        · exact h
      subst hLR
      clear HB
      repeat (first | go_values | go_skip | go_guarded | go_step | go_upon)
      go_ret
      exact ⟨_, _, rfl, HO.out.at, HK.out⟩

end Go.Proofs.YtaofilinejanjaaDoor
