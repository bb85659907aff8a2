/-
  WrapText of the specification.
-/
import Derived.Test.YtaofilinejanjaaDoorWrapT18
import Derived.Test.YtaofilinejanjaaDoorWrapI18
import Derived.Test.YtaofilinejanjaaDoorQuiet
namespace Go.Proofs.YtaofilinejanjaaDoor
open Go.ChangeShapes Go.WideShapes Go.ChangeAt Go.RowKit

set_option maxRecDepth 100000
set_option linter.unusedVariables false

set_option maxHeartbeats 16000000 in
theorem swrap (s : ByteArray) (wide : Int) (w : World) (hs : s.size ≤ 1048576) :
    Calls Tryd.prog 11 #[.string s, .int .i64 wide] w fun e w' => ∃ v, e = .returned (.tuple #[v, .bool (wrapA s wide).2]) ∧ TxtO w' w.heap.size w'.heap.size v (wrapA s wide).1 ∧ Kept w w' := by
  by_cases h4 : 400 < s.size
  · rw [wrapA_no (fun h => by have := h.1; omega)]
    have d4 : decide ((400 : Int) < (s.size : Int)) = true := decide_eq_true (by omega)
    go_enter Tryd.func11, Tryd.ntmps11
    go_wp2
    go_ret2
    exact ⟨_, rfl, nil_txt _ _ _, But.refl _ _ _⟩
  have d4 : decide ((400 : Int) < (s.size : Int)) = false := decide_eq_false (by omega)
  rcases (Decidable.em (1 ≤ wide ∧ wide ≤ 100)).symm with h1 | h1
  · rw [wrapA_no (fun h => h1 h.2)]
    have d1 : decide (1 ≤ wide ∧ wide ≤ 100) = false := decide_eq_false h1
    go_enter Tryd.func11, Tryd.ntmps11
    repeat (first | (go_at_call 25; refine (sInG _ _ _ _).mono ?_; rintro e w3 ⟨rfl, hw3⟩; rw [hw3, d1]; clear hw3 w3; dsimp only) | go_values | go_skip | go_guarded | go_step | go_upon)
    go_ret2
    exact ⟨_, rfl, nil_txt _ _ _, But.refl _ _ _⟩
  have d1 : decide (1 ≤ wide ∧ wide ≤ 100) = true := decide_eq_true h1
  rw [wrapA_yes ⟨by omega, h1⟩]
  have hbd := wrap_bd (s := s) (wide := wide) (by omega)
  have hsz : ∀ t ∈ splF s s.size 0 0, t.size ≤ 400 := fun t ht => by have := splF_sz s _ _ _ t ht; omega
  have hln : (splF s s.size 0 0).length ≤ 401 := by have := splF_len s s.size 0 0; omega
  have ASP : Hid (∀ W, Calls Tryd.prog 30 #[.string s, .int .u8 10] W fun e w' => ∃ ao cap, e = .returned (.slice ao (splF s s.size 0 0).length cap) ∧ TxtAt w' (.slice ao (splF s s.size 0 0).length cap) (splF s s.size 0 0) ∧ Kept W w') := fun W => ssplit s W hs
  have HBD : Hid ((rowsA wide (splF s s.size 0 0)).length ≤ 160801) := hbd
  have HSZ : Hid (∀ t ∈ splF s s.size 0 0, t.size ≤ 400) := hsz
  generalize hrows : splF s s.size 0 0 = rows at *
  obtain ⟨hw1, hw2⟩ := h1
  clear hbd hsz hrows
  go_enter Tryd.func11, Tryd.ntmps11
  repeat (first | (go_at_call 25; refine (sInG _ _ _ _).mono ?_; rintro e w3 ⟨rfl, hw3⟩; rw [hw3, d1]; clear hw3 w3; dsimp only) | go_values | go_skip | go_guarded | go_step | go_upon)
  go_at_call 30
  refine (ASP.out _).mono ?_
  rintro e w1 ⟨ao, cap, rfl, hrw, k1⟩
  dsimp only
  repeat (first | go_values | go_skip | go_guarded | go_step | go_upon)
  clear d4 d1
  have K1 : Hid (Kept w w1) := k1
  have s1 := k1.size
  clear k1 ASP
  go_loopw [6, 25] (fun v i wr => ∃ (k : Nat) (L : List ByteArray), k ≤ rows.length ∧ i = .int .i64 k ∧ TxtO wr w1.heap.size wr.heap.size v L ∧ Hid (L = rowsA wide (rows.take k)) ∧ Kept w1 wr) (fun v i _ => rows.length - (intOf i).toNat)
  case atStart => exact ⟨0, [], by omega, rfl, nil_txt _ _ _, (show [] = rowsA wide (rows.take 0) from rfl), But.refl _ _ _⟩
  case round =>
    obtain ⟨k, L0, hk, rfl, ho, HL, hkp⟩ := hrel
    obtain ⟨a5, p5, hf⟩ := ho.form
    subst hf
    by_cases hlt : k < rows.length
    · obtain ⟨t0, ht⟩ : ∃ p, rows[k]? = some p := ⟨_, List.getElem?_eq_getElem hlt⟩
      obtain ⟨b, o, cap', ee, c0⟩ := txt_get (hrw.kept hkp) ht
      cases ee
      have hts := HSZ.out t0 (List.mem_of_getElem? ht)
      have hT : rowsA wide (rows.take (k + 1)) = rowsA wide (rows.take k) ++ rowF wide (t0.size + 1) t0 := by rw [take_snoc ht, rowsA_snoc]
      have hTl : (rowsA wide (rows.take (k + 1))).length ≤ 160801 := by
        have h := HBD.out
        have e : rowsA wide rows = rowsA wide (rows.take (k + 1)) ++ rowsA wide (rows.drop (k + 1)) := by
          unfold rowsA
          rw [← List.flatMap_append, List.take_append_drop]
        rw [e, List.length_append] at h
        omega
      obtain ⟨T, hTT⟩ : ∃ T, rowsA wide (rows.take (k + 1)) = T := ⟨_, rfl⟩
      rw [hTT] at hT hTl
      have HT : Hid (rowsA wide (rows.take (k + 1)) = T) := hTT
      have HN0 : Hid (L0 ++ rowF wide (t0.size + 1) t0 = T) := by
        have e : L0 ++ rowF wide (t0.size + 1) t0 = T := by rw [HL.out]; exact hT.symm
        exact e
      have HO : Hid (TxtO wr w1.heap.size wr.heap.size (.slice a5 L0.length p5) L0) := ho
      have HK : Hid (Kept w1 wr) := hkp
      have s2 := hkp.size
      clear ho hkp HL hT ht hTT
      repeat (first | go_values | go_skip | go_guarded | go_step | go_upon)
      rename World => wo
      go_loopw [6, 8] (fun v lv wr => ∃ (f : Nat) (L : List ByteArray) (t : ByteArray), lv = .string t ∧ TxtO wr w1.heap.size wr.heap.size v L ∧ Hid (L ++ rowF wide f t = T) ∧ t.size < f ∧ t.size ≤ 400 ∧ Kept w1 wr) (fun v lv _ => Lib.strSize lv)
      case atStart => exact ⟨t0.size + 1, L0, t0, rfl, HO.out, HN0, by omega, hts, HK.out⟩
      case round =>
        obtain ⟨f, L, t, rfl, ho, HL, hrf, ht4, hkp⟩ := hrel
        obtain ⟨a6, p6, hf⟩ := ho.form
        subst hf
        obtain ⟨f, rfl⟩ : ∃ f', f = f' + 1 := ⟨f - 1, by omega⟩
        have hl2 := cutA_less t wide hw1
        have HN2 : Hid ((L ++ [(cutA t wide).1]) ++ (if (cutA t wide).2.size = 0 then [] else rowF wide f (cutA t wide).2) = T) := by
          have h := HL.out
          unfold rowF at h
          have e : (L ++ [(cutA t wide).1]) ++ (if (cutA t wide).2.size = 0 then [] else rowF wide f (cutA t wide).2) = T := by
            rw [← h]
            simp
          exact e
        have hLl3 : L.length ≤ 160801 := by have h := congrArg List.length HN2.out; simp only [List.length_append] at h; omega
        have HR0 : Hid (cutF t wide (t.size + 1) 0 0 (-1) = cutA t wide) := show cutF t wide (t.size + 1) 0 0 (-1) = cutA t wide from rfl
        have HL2 : Hid ((cutA t wide).2.size = 0 ∨ (cutA t wide).2.size < t.size) := hl2
        generalize cutA t wide = R at *
        clear HO HK HN0 HL hl2
        have HO : Hid (TxtO wr w1.heap.size wr.heap.size (.slice a6 L.length p6) L) := ho
        have HK : Hid (Kept w1 wr) := hkp
        have s4 := hkp.size
        clear ho hkp
        repeat (first | go_values | go_skip | go_guarded | go_step | go_upon)
        rename World => wi
        go_loopw [9, 10, 11] (fun pv mv bv wr => wr = wi ∧ ∃ (p b : Nat) (many bl : Int), pv = .int .i64 p ∧ mv = .int .i64 many ∧ bv = .int .i64 bl ∧ Hid (cutF t wide b p many bl = R) ∧ t.size + 1 ≤ p + b ∧ p ≤ t.size ∧ 0 ≤ many ∧ many ≤ (p : Int) ∧ Hid (bl = -1 ∨ ∃ q : Nat, bl = (q : Int) ∧ q < t.size) ∧ (0 < p ∨ many < wide)) (fun pv mv bv _ => t.size - (intOf pv).toNat)
        case atStart => exact ⟨rfl, 0, t.size + 1, 0, -1, rfl, rfl, rfl, HR0, by omega, by omega, by omega, by omega, (show (-1 : Int) = -1 ∨ ∃ q : Nat, (-1 : Int) = (q : Int) ∧ q < t.size from .inl rfl), .inr (by omega)⟩
        case round =>
          obtain ⟨hwr, p, b5, many, bl, rfl, rfl, rfl, HC, hpb, hps, hm0, hmp, HBB, hpos⟩ := hrel
          rw [hwr]
          clear hwr HR0
          by_cases hlp : p < t.size
          · obtain ⟨b', rfl⟩ : ∃ b', b5 = b' + 1 := ⟨b5 - 1, by omega⟩
            have dp : decide ((p : Int) < (t.size : Int)) = true := decide_eq_true (by omega)
            have dpe : ((p : Int) == (t.size : Int)) = false := by simp; omega
            have dpe' : (p == t.size) = false := by simp; omega
            have hix := fun W => ix_str t p (p : Int) rfl hlp W
            have hw1' := wid_pos t p hlp
            have hw2' := wid_le t p hlp
            have hrl := run_le t p
            obtain ⟨bl', hbl'⟩ : ∃ x, (if byt t p = 32 then (p : Int) else bl) = x := ⟨_, rfl⟩
            have HBI : Hid (byt t p = 32 → (p : Int) = bl') := fun h => by
              rw [if_pos h] at hbl'
              exact hbl'
            have HBN : Hid (¬ byt t p = 32 → bl = bl') := fun h => by
              rw [if_neg h] at hbl'
              exact hbl'
            have HB2 : Hid (bl' = -1 ∨ ∃ q : Nat, bl' = (q : Int) ∧ q < t.size) := by
              by_cases hq : byt t p = 32
              · rw [if_pos hq] at hbl'
                exact (.inr ⟨p, hbl'.symm, hlp⟩ : bl' = -1 ∨ ∃ q : Nat, bl' = (q : Int) ∧ q < t.size)
              · rw [if_neg hq] at hbl'
                rw [← hbl']
                exact HBB.out
            by_cases q1 : many < wide
            · have d2 : decide (many < wide) = true := decide_eq_true q1
              have HN : Hid (cutF t wide b' (p + (runM t p).2) (many + 1) bl' = R) := by
                have e : cutF t wide b' (p + (runM t p).2) (many + 1) bl' = R := by
                  rw [← cutF_go t wide b' p many bl bl' hlp q1 hbl']
                  exact HC.out
                exact e
              have AR : Hid (∀ W, Calls Tryd.prog 31 #[.string (t.extract p t.size)] W fun e w' => e = .returned (.tuple #[.int .i64 (((runM t p).1 : Nat) : Int), .int .i64 (((runM t p).2 : Nat) : Int)]) ∧ w' = W) := fun W => by
                have := srune (t.extract p t.size) W (by rw [ByteArray.size_extract]; omega) (by rw [ByteArray.size_extract]; omega)
                rw [run_ext t p hps] at this
                exact this
              have hsf := fun W => sl_from t p (p : Int) rfl hps W
              generalize (runM t p).1 = r at *
              generalize (runM t p).2 = n at *
              clear hbl' HC HBB
              by_cases hbk : byt t p = 32
              · have d1 : (byt t p == 32) = true := by simp [hbk]
                have hbe := HBI.out hbk
                subst hbe
                clear HBI HBN hbk
                repeat (first | (go_at_call 31; refine (AR.out _).mono ?_; rintro e w3 ⟨rfl, hw3⟩; rw [hw3]; clear hw3 w3; dsimp only) | go_values | go_skip | go_guarded | go_step | go_upon)
                exact ⟨⟨by trivial, p + n, b', many + 1, (p : Int), by go_num, by go_num, rfl, HN, by omega, by omega, by omega, by omega, HB2, .inl (by omega)⟩, by simp [intOf]; omega⟩
              · have d1 : (byt t p == 32) = false := by simp [hbk]
                have hbe := HBN.out hbk
                subst hbe
                clear HBI HBN hbk
                repeat (first | (go_at_call 31; refine (AR.out _).mono ?_; rintro e w3 ⟨rfl, hw3⟩; rw [hw3]; clear hw3 w3; dsimp only) | go_values | go_skip | go_guarded | go_step | go_upon)
                exact ⟨⟨by trivial, p + n, b', many + 1, bl, by go_num, by go_num, rfl, HN, by omega, by omega, by omega, by omega, HB2, .inl (by omega)⟩, by simp [intOf]; omega⟩
            · have d2 : decide (many < wide) = false := decide_eq_false q1
              have HCS : Hid (bl' < 0 → R = (t.extract 0 p, t.extract p t.size)) := fun h2 => by
                rw [← cutF_cut t wide b' p many bl bl' hlp q1 hbl' h2]
                exact HC.out.symm
              have HBS : Hid (¬ bl' < 0 → R = (trimR (t.extract 0 bl'.toNat), trimL (t.extract bl'.toNat t.size))) := fun h2 => by
                rw [← cutF_blank t wide b' p many bl bl' hlp q1 hbl' h2]
                exact HC.out.symm
              clear HC HBB hbl' hrl hw1' hw2'
              by_cases hbk : byt t p = 32
              · have d1 : (byt t p == 32) = true := by simp [hbk]
                have hbe := HBI.out hbk
                subst hbe
                have q2 : ¬ (p : Int) < 0 := by omega
                have d3 : decide ((p : Int) < 0) = false := decide_eq_false q2
                clear HBI HBN hbk HB2
                have hR := HBS.out q2
                rw [Int.toNat_natCast] at hR
                have hq0 : p ≤ t.size := by omega
                have hsl1 := fun W => sl_to t p (p : Int) rfl hq0 W
                have hsl2 := fun W => sl_from t p (p : Int) rfl hq0 W
                have ATR : Hid (∀ W, Calls Tryd.prog 32 #[.string (t.extract 0 p)] W fun e w' => e = .returned (.string (trimR (t.extract 0 p))) ∧ w' = W) := fun W => strim _ W (by rw [ByteArray.size_extract]; omega)
                subst hR
                clear HCS HBS
                have HL2 : Hid ((trimL (t.extract p t.size)).size = 0 ∨ (trimL (t.extract p t.size)).size < t.size) := HL2.out
                have HN2 : Hid ((L ++ [trimR (t.extract 0 p)]) ++ (if (trimL (t.extract p t.size)).size = 0 then [] else rowF wide f (trimL (t.extract p t.size))) = T) := HN2.out
                have hu0 : (t.extract p t.size).size ≤ 400 := by rw [ByteArray.size_extract]; omega
                generalize trimR (t.extract 0 p) = ln at *
                generalize t.extract 0 p = tf at *
                generalize hu : t.extract p t.size = u at *
                clear hu
                repeat (first | (go_at_call 32; refine (ATR.out _).mono ?_; rintro e w3 ⟨rfl, hw3⟩; rw [hw3]; clear hw3 w3; dsimp only) | (at_builtin; refine forgetL (fun w' => w' = _) rfl ?_) | go_values | go_skip | go_guarded | go_step | go_upon)
                intro W7 hW7
                rw [hW7]
                clear hW7 W7
                refine app_txt rfl _ _ rfl (lo := w1.heap.size) (hi := wi.heap.size) rfl (HO.out.kept ((But.refl _ _ wi).alloc _)) rfl (one_txt (p := ln) (Loc.new wi [.string (ln)] 9)) rfl (by simp; omega) (by simp; omega) ?_
                intro v9 w9 o9 b9
                have HO2 : Hid (TxtO w9 w1.heap.size w9.heap.size v9 (L ++ [ln])) := o9
                have HK2 : Hid (Kept w1 w9) := But.onto (HK.out.alloc _) b9 (Nat.le_refl _)
                have hs9 := b9.size
                have HUE : Hid (Value.string u = .string (u.extract 0 u.size)) := show Value.string u = .string (u.extract 0 u.size) from by rw [ext_all]
                clear o9 b9 HO HK ATR hix dp dpe dpe' d1 d2 d3
                repeat (first | go_values | go_skip | go_guarded | go_step | go_upon)
                go_loopw [8] (fun lv wr => wr = w9 ∧ ∃ i : Nat, i ≤ u.size ∧ lv = .string (u.extract i u.size) ∧ Hid (∀ j, j < i → byt u j = 32)) (fun lv _ => Lib.strSize lv)
                case atStart => exact ⟨rfl, 0, by omega, HUE.out, (fun j hj => by omega : ∀ j, j < 0 → byt u j = 32)⟩
                case round =>
                  obtain ⟨hwr, i, hi, rfl, HJ⟩ := hrel
                  rw [hwr]
                  clear hwr HUE
                  have hez : (u.extract i u.size).size = u.size - i := by rw [ByteArray.size_extract]; omega
                  have heb := byt_ext u i 0
                  rw [Nat.add_zero] at heb
                  by_cases hil : i < u.size
                  · have d0 : decide ((0 : Int) < ((u.extract i u.size).size : Int)) = true := decide_eq_true (by omega)
                    have d0' : decide (0 < (u.extract i u.size).size) = true := decide_eq_true (by omega)
                    have d0'' : 0 < (u.extract i u.size).size := by omega
                    have hix := fun W => ix_str (u.extract i u.size) 0 0 rfl (by omega) W
                    rw [heb] at hix
                    have hsl := fun W => sl_from (u.extract i u.size) 1 1 rfl (by omega) W
                    rw [ByteArray.extract_extract, hez, show min (i + (u.size - i)) u.size = u.size by omega] at hsl
                    have HEZ : Hid ((u.extract i u.size).size = u.size - i) := hez
                    have HEZ2 : Hid ((u.extract (i + 1) u.size).size = u.size - (i + 1)) := show (u.extract (i + 1) u.size).size = u.size - (i + 1) from by rw [ByteArray.size_extract]; omega
                    have HTL : Hid (byt u i ≠ 32 → trimL u = u.extract i u.size) := fun h => trimL_eq ⟨by omega, HJ.out, fun _ => h⟩
                    have hne := nemp (t := u.extract i u.size) (by omega)
                    clear hez heb
                    generalize u.extract i u.size = x at *
                    by_cases hb : byt u i = 32
                    · have d1 : (byt u i == 32) = true := by simp [hb]
                      have HJ2 : Hid (∀ j, j < i + 1 → byt u j = 32) := all_more HJ.out hb
                      clear hb HTL
                      repeat (first | go_values | go_skip | go_guarded | go_step | go_upon)
                      exact ⟨⟨by trivial, i + 1, by omega, rfl, HJ2⟩, by simp only [Lib.strSize]; have := HEZ.out; have := HEZ2.out; omega⟩
                    · have d1 : (byt u i == 32) = false := by simp [hb]
                      have hxe := HTL.out hb
                      rw [hxe] at HL2 HN2
                      have hxs : x.size ≠ 0 := by omega
                      have hxl : x.size < t.size := HL2.out.resolve_left hxs
                      have HN3 : Hid ((L ++ [ln]) ++ rowF wide f x = T) := by
                        have h := HN2.out
                        rw [if_neg hxs] at h
                        exact h
                      clear hb HTL hxe HL2 HN2
                      repeat (first | go_values | go_skip | go_guarded | go_step | go_upon)
                      exact ⟨⟨f, L ++ [ln], x, rfl, HO2.out, HN3, by omega, by omega, HK2.out⟩, by simp only [Lib.strSize]; omega⟩
                  · have d0 : decide ((0 : Int) < ((u.extract i u.size).size : Int)) = false := decide_eq_false (by omega)
                    have d0' : decide (0 < (u.extract i u.size).size) = false := decide_eq_false (by omega)
                    have hxe : trimL u = u.extract i u.size := trimL_eq ⟨hi, HJ.out, fun h => absurd h hil⟩
                    have hx0 : (u.extract i u.size).size = 0 := by omega
                    rw [hxe] at HN2
                    have HE : Hid (L ++ [ln] = T) := by
                      have h := HN2.out
                      rw [if_pos hx0, List.append_nil] at h
                      exact h
                    have hxm := emp hx0
                    rw [hxm] at d0 d0' ⊢
                    clear HN2 HL2 hxe hx0 hez heb hxm
                    repeat (first | go_values | go_skip | go_guarded | go_step | go_upon)
                    exact ⟨⟨k + 1, L ++ [ln], hlt, by go_num, HO2.out, (show L ++ [ln] = rowsA wide (rows.take (k + 1)) from HE.out.trans HT.out.symm), HK2.out⟩, by simp [intOf]; omega⟩
              · have d1 : (byt t p == 32) = false := by simp [hbk]
                have hbe := HBN.out hbk
                subst hbe
                clear HBI HBN hbk
                by_cases q2 : bl < 0
                · have d3 : decide (bl < 0) = true := decide_eq_true q2
                  have hR := HCS.out q2
                  subst hR
                  have hsl1 := fun W => sl_to t p (p : Int) rfl hps W
                  have hsl2 := fun W => sl_from t p (p : Int) rfl hps W
                  have hze : (t.extract p t.size).size = t.size - p := by rw [ByteArray.size_extract]; omega
                  have HZE : Hid ((t.extract p t.size).size = t.size - p) := hze
                  have hp0 : 0 < p := by omega
                  have HN3 : Hid ((L ++ [t.extract 0 p]) ++ rowF wide f (t.extract p t.size) = T) := by
                    have h := HN2.out
                    dsimp only at h
                    rw [if_neg (by omega)] at h
                    exact h
                  clear HCS HBS HB2 HL2 HN2 hze
                  generalize t.extract 0 p = ln at *
                  generalize t.extract p t.size = x at *
                  repeat (first | (at_builtin; refine forgetL (fun w' => w' = _) rfl ?_) | go_values | go_skip | go_guarded | go_step | go_upon)
                  intro W7 hW7
                  rw [hW7]
                  clear hW7 W7
                  refine app_txt rfl _ _ rfl (lo := w1.heap.size) (hi := wi.heap.size) rfl (HO.out.kept ((But.refl _ _ wi).alloc _)) rfl (one_txt (p := ln) (Loc.new wi [.string (ln)] 9)) rfl (by simp; omega) (by simp; omega) ?_
                  intro v9 w9 o9 b9
                  have HO2 : Hid (TxtO w9 w1.heap.size w9.heap.size v9 (L ++ [ln])) := o9
                  have HK2 : Hid (Kept w1 w9) := But.onto (HK.out.alloc _) b9 (Nat.le_refl _)
                  clear o9 b9
                  repeat (first | go_values | go_skip | go_guarded | go_step | go_upon)
                  exact ⟨⟨f, L ++ [ln], x, rfl, HO2.out, HN3, by have := HZE.out; omega, by have := HZE.out; omega, HK2.out⟩, by simp only [Lib.strSize]; have := HZE.out; omega⟩
                · have d3 : decide (bl < 0) = false := decide_eq_false q2
                  obtain ⟨q, rfl, hq⟩ : ∃ q : Nat, bl = (q : Int) ∧ q < t.size := HB2.out.resolve_left (by omega)
                  clear HB2
                  have hR := HBS.out q2
                  rw [Int.toNat_natCast] at hR
                  have hq0 : q ≤ t.size := by omega
                  have hsl1 := fun W => sl_to t q (q : Int) rfl hq0 W
                  have hsl2 := fun W => sl_from t q (q : Int) rfl hq0 W
                  have ATR : Hid (∀ W, Calls Tryd.prog 32 #[.string (t.extract 0 q)] W fun e w' => e = .returned (.string (trimR (t.extract 0 q))) ∧ w' = W) := fun W => strim _ W (by rw [ByteArray.size_extract]; omega)
                  subst hR
                  clear HCS HBS
                  have HL2 : Hid ((trimL (t.extract q t.size)).size = 0 ∨ (trimL (t.extract q t.size)).size < t.size) := HL2.out
                  have HN2 : Hid ((L ++ [trimR (t.extract 0 q)]) ++ (if (trimL (t.extract q t.size)).size = 0 then [] else rowF wide f (trimL (t.extract q t.size))) = T) := HN2.out
                  have hu0 : (t.extract q t.size).size ≤ 400 := by rw [ByteArray.size_extract]; omega
                  generalize trimR (t.extract 0 q) = ln at *
                  generalize t.extract 0 q = tf at *
                  generalize hu : t.extract q t.size = u at *
                  clear hu
                  repeat (first | (go_at_call 32; refine (ATR.out _).mono ?_; rintro e w3 ⟨rfl, hw3⟩; rw [hw3]; clear hw3 w3; dsimp only) | (at_builtin; refine forgetL (fun w' => w' = _) rfl ?_) | go_values | go_skip | go_guarded | go_step | go_upon)
                  intro W7 hW7
                  rw [hW7]
                  clear hW7 W7
                  refine app_txt rfl _ _ rfl (lo := w1.heap.size) (hi := wi.heap.size) rfl (HO.out.kept ((But.refl _ _ wi).alloc _)) rfl (one_txt (p := ln) (Loc.new wi [.string (ln)] 9)) rfl (by simp; omega) (by simp; omega) ?_
                  intro v9 w9 o9 b9
                  have HO2 : Hid (TxtO w9 w1.heap.size w9.heap.size v9 (L ++ [ln])) := o9
                  have HK2 : Hid (Kept w1 w9) := But.onto (HK.out.alloc _) b9 (Nat.le_refl _)
                  have hs9 := b9.size
                  have HUE : Hid (Value.string u = .string (u.extract 0 u.size)) := show Value.string u = .string (u.extract 0 u.size) from by rw [ext_all]
                  clear o9 b9 HO HK ATR hix dp dpe dpe' d1 d2 d3
                  repeat (first | go_values | go_skip | go_guarded | go_step | go_upon)
                  go_loopw [8] (fun lv wr => wr = w9 ∧ ∃ i : Nat, i ≤ u.size ∧ lv = .string (u.extract i u.size) ∧ Hid (∀ j, j < i → byt u j = 32)) (fun lv _ => Lib.strSize lv)
                  case atStart => exact ⟨rfl, 0, by omega, HUE.out, (fun j hj => by omega : ∀ j, j < 0 → byt u j = 32)⟩
                  case round =>
                    obtain ⟨hwr, i, hi, rfl, HJ⟩ := hrel
                    rw [hwr]
                    clear hwr HUE
                    have hez : (u.extract i u.size).size = u.size - i := by rw [ByteArray.size_extract]; omega
                    have heb := byt_ext u i 0
                    rw [Nat.add_zero] at heb
                    by_cases hil : i < u.size
                    · have d0 : decide ((0 : Int) < ((u.extract i u.size).size : Int)) = true := decide_eq_true (by omega)
                      have d0' : decide (0 < (u.extract i u.size).size) = true := decide_eq_true (by omega)
                      have d0'' : 0 < (u.extract i u.size).size := by omega
                      have hix := fun W => ix_str (u.extract i u.size) 0 0 rfl (by omega) W
                      rw [heb] at hix
                      have hsl := fun W => sl_from (u.extract i u.size) 1 1 rfl (by omega) W
                      rw [ByteArray.extract_extract, hez, show min (i + (u.size - i)) u.size = u.size by omega] at hsl
                      have HEZ : Hid ((u.extract i u.size).size = u.size - i) := hez
                      have HEZ2 : Hid ((u.extract (i + 1) u.size).size = u.size - (i + 1)) := show (u.extract (i + 1) u.size).size = u.size - (i + 1) from by rw [ByteArray.size_extract]; omega
                      have HTL : Hid (byt u i ≠ 32 → trimL u = u.extract i u.size) := fun h => trimL_eq ⟨by omega, HJ.out, fun _ => h⟩
                      have hne := nemp (t := u.extract i u.size) (by omega)
                      clear hez heb
                      generalize u.extract i u.size = x at *
                      by_cases hb : byt u i = 32
                      · have d1 : (byt u i == 32) = true := by simp [hb]
                        have HJ2 : Hid (∀ j, j < i + 1 → byt u j = 32) := all_more HJ.out hb
                        clear hb HTL
                        repeat (first | go_values | go_skip | go_guarded | go_step | go_upon)
                        exact ⟨⟨by trivial, i + 1, by omega, rfl, HJ2⟩, by simp only [Lib.strSize]; have := HEZ.out; have := HEZ2.out; omega⟩
                      · have d1 : (byt u i == 32) = false := by simp [hb]
                        have hxe := HTL.out hb
                        rw [hxe] at HL2 HN2
                        have hxs : x.size ≠ 0 := by omega
                        have hxl : x.size < t.size := HL2.out.resolve_left hxs
                        have HN3 : Hid ((L ++ [ln]) ++ rowF wide f x = T) := by
                          have h := HN2.out
                          rw [if_neg hxs] at h
                          exact h
                        clear hb HTL hxe HL2 HN2
                        repeat (first | go_values | go_skip | go_guarded | go_step | go_upon)
                        exact ⟨⟨f, L ++ [ln], x, rfl, HO2.out, HN3, by omega, by omega, HK2.out⟩, by simp only [Lib.strSize]; omega⟩
                    · have d0 : decide ((0 : Int) < ((u.extract i u.size).size : Int)) = false := decide_eq_false (by omega)
                      have d0' : decide (0 < (u.extract i u.size).size) = false := decide_eq_false (by omega)
                      have hxe : trimL u = u.extract i u.size := trimL_eq ⟨hi, HJ.out, fun h => absurd h hil⟩
                      have hx0 : (u.extract i u.size).size = 0 := by omega
                      rw [hxe] at HN2
                      have HE : Hid (L ++ [ln] = T) := by
                        have h := HN2.out
                        rw [if_pos hx0, List.append_nil] at h
                        exact h
                      have hxm := emp hx0
                      rw [hxm] at d0 d0' ⊢
                      clear HN2 HL2 hxe hx0 hez heb hxm
                      repeat (first | go_values | go_skip | go_guarded | go_step | go_upon)
                      exact ⟨⟨k + 1, L ++ [ln], hlt, by go_num, HO2.out, (show L ++ [ln] = rowsA wide (rows.take (k + 1)) from HE.out.trans HT.out.symm), HK2.out⟩, by simp [intOf]; omega⟩
          · have dp : decide ((p : Int) < (t.size : Int)) = false := decide_eq_false (by omega)
            have dpe : ((p : Int) == (t.size : Int)) = true := by simp; omega
            have dpe' : (p == t.size) = true := by simp; omega
            have hR : R = (t, ByteArray.empty) := by
              have h := HC.out
              rw [cutF_end t wide b5 p many bl hlp] at h
              exact h.symm
            subst hR
            have HE : Hid (L ++ [t] = T) := by
              have h := HN2.out
              dsimp only at h
              rw [if_pos (by rfl), List.append_nil] at h
              exact h
            clear HC HN2 HBB HL2
            repeat (first | (at_builtin; refine forgetL (fun w' => w' = _) rfl ?_) | go_values | go_skip | go_guarded | go_step | go_upon)
            intro W7 hW7
            rw [hW7]
            clear hW7 W7
            refine app_txt rfl _ _ rfl (lo := w1.heap.size) (hi := wi.heap.size) rfl (HO.out.kept ((But.refl _ _ wi).alloc _)) rfl (one_txt (p := t) (Loc.new wi [.string (t)] 9)) rfl (by simp; omega) (by simp; omega) ?_
            intro v9 w9 o9 b9
            have HO2 : Hid (TxtO w9 w1.heap.size w9.heap.size v9 (L ++ [t])) := o9
            have HK2 : Hid (Kept w1 w9) := But.onto (HK.out.alloc _) b9 (Nat.le_refl _)
            clear o9 b9
            repeat (first | go_values | go_skip | go_guarded | go_step | go_upon)
            exact ⟨⟨k + 1, L ++ [t], hlt, by go_num, HO2.out, (show L ++ [t] = rowsA wide (rows.take (k + 1)) from HE.out.trans HT.out.symm), HK2.out⟩, by simp [intOf]; omega⟩
    · have hke : k = rows.length := by omega
      subst hke
      have HO : Hid (TxtO wr w1.heap.size wr.heap.size (.slice a5 L0.length p5) L0) := ho
      have HK : Hid (Kept w1 wr) := hkp
      clear ho hkp
      repeat (first | go_values | go_skip | go_guarded | go_step | go_upon)
      go_ret2
      have e := HL.out
      rw [List.take_length] at e
      exact ⟨_, rfl, by rw [← e]; exact (HO.out.mono (by omega) (Nat.le_refl _)), K1.out.trans HK.out⟩

end Go.Proofs.YtaofilinejanjaaDoor
