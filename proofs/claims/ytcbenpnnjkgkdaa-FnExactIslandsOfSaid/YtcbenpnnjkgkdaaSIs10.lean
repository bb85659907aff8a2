/-
  IslandsOf of the specification.
-/
import Derived.Test.YtcbenpnnjkgkdaaIIsA10
import Derived.WalkLawsBesides
namespace Go.Proofs.Ytcbenpnnjkgkdaa
open Go.ChangeShapes Go.WideShapes Go.ChangeAt Go.RowKit

set_option maxRecDepth 100000
set_option linter.unusedVariables false
set_option linter.unusedSimpArgs false

theorem sIn10 (x lo hi : Int) (w : World) : Calls Try.prog 13 #[.int .i64 x, .int .i64 lo, .int .i64 hi] w fun e w' => e = .returned (.bool (decide (lo ≤ x ∧ x ≤ hi))) ∧ w' = w := by
  go_enter Try.func13, Try.ntmps13
  by_cases h1 : lo ≤ x
  · have d1 : decide (lo ≤ x) = true := decide_eq_true h1
    by_cases h2 : x ≤ hi
    · have d2 : decide (x ≤ hi) = true := decide_eq_true h2
      rw [show decide (lo ≤ x ∧ x ≤ hi) = true from decide_eq_true ⟨h1, h2⟩]
      go_wp2
      go_ret
      exact ⟨rfl, rfl⟩
    · have d2 : decide (x ≤ hi) = false := decide_eq_false h2
      rw [show decide (lo ≤ x ∧ x ≤ hi) = false from decide_eq_false fun h => h2 h.2]
      go_wp2
      go_ret
      exact ⟨rfl, rfl⟩
  · have d1 : decide (lo ≤ x) = false := decide_eq_false h1
    rw [show decide (lo ≤ x ∧ x ≤ hi) = false from decide_eq_false fun h => h1 h.1]
    go_wp2
    go_ret
    exact ⟨rfl, rfl⟩
set_option maxHeartbeats 8000000 in
theorem sis (m : Int) (ts : List PairD) (v : Value) (w : World) (hv : PairAt w v ts) (hn : ts.length ≤ 1048576) :
    Calls Try.prog 5 #[.int .i64 m, v] w fun e w' => ∃ v', e = .returned (.tuple #[v', .bool (decide (IslP m ts))]) ∧ LLO w' w.heap.size w'.heap.size v' (isA m ts) ∧ Kept w w' := by
  obtain ⟨ao, cap, hsl⟩ := row_nil hv
  subst hsl
  have HV : Hid (PairAt w (.slice ao ts.length cap) ts) := hv
  clear hv
  have NO : Hid (¬ IslP m ts → decide (IslP m ts) = false ∧ isA m ts = []) := fun h => ⟨decide_eq_false h, isA_no h⟩
  have YES : Hid (∀ n : Nat, m = n → IslP n ts → decide (IslP m ts) = true ∧ isA m ts = isL (fstL (fst0 n) ts) n) := fun n e h => by subst e; exact ⟨decide_eq_true h, isA_yes h⟩
  generalize decide (IslP m ts) = R at *
  generalize isA m ts = RL at *
  by_cases h1 : 0 ≤ m ∧ m ≤ 40
  case neg =>
    have d1 : decide (0 ≤ m ∧ m ≤ 40) = false := decide_eq_false h1
    obtain ⟨hR, hL⟩ := NO.out fun h => h1 ⟨h.1, h.2.1⟩
    subst hR hL
    clear h1
    go_enter Try.func5, Try.ntmps5
    repeat (first | (go_at_call 13; refine (sIn10 _ _ _ _).mono ?_; rintro e w9 ⟨rfl, hw9⟩; rw [hw9]; clear hw9 w9; (first | rw [d1] | rw [d3] | rw [d4] | skip); dsimp only) | go_values | go_skip | go_guarded | go_step | go_upon)
    go_ret2
    exact ⟨_, rfl, nil_lists _ _ _, But.refl _ _ _⟩
  have d1 : decide (0 ≤ m ∧ m ≤ 40) = true := decide_eq_true h1
  by_cases h2 : 200 < ts.length
  · have d2 : decide ((200 : Int) < (ts.length : Int)) = true := decide_eq_true (by omega)
    obtain ⟨hR, hL⟩ := NO.out fun h => by have := h.2.2.1; omega
    subst hR hL
    clear h1 h2
    go_enter Try.func5, Try.ntmps5
    repeat (first | (go_at_call 13; refine (sIn10 _ _ _ _).mono ?_; rintro e w9 ⟨rfl, hw9⟩; rw [hw9]; clear hw9 w9; (first | rw [d1] | rw [d3] | rw [d4] | skip); dsimp only) | go_values | go_skip | go_guarded | go_step | go_upon)
    go_ret2
    exact ⟨_, rfl, nil_lists _ _ _, But.refl _ _ _⟩
  have d2 : decide ((200 : Int) < (ts.length : Int)) = false := decide_eq_false (by omega)
  obtain ⟨n, hmn⟩ : ∃ n : Nat, m = n := ⟨m.toNat, by omega⟩
  subst hmn
  obtain ⟨h10, h11⟩ := h1
  have hn40 : n ≤ 40 := by omega
  obtain ⟨ps, hps⟩ : ∃ ps, fst0 n = ps := ⟨_, rfl⟩
  have hpl : ps.length = n := by rw [← hps, fst0_len]
  have HG : Hid (∀ k, k < n → ps[k]? = some (k : Int)) := fun k hk => by rw [← hps]; exact fst0_get hk
  have HPS : Hid (fst0 n = ps) := hps
  clear hps
  obtain ⟨i0, hi, hz0, hz1, hz2⟩ := info_parts info3
  have hmk : (Instr.makeSlice 35 (.int .i64 (n : Int)) (.int .i64 (n : Int))).run Try.prog w = .ok (.slice (some ⟨w.heap.size, 0, none⟩) n n) (w.alloc (.cells (madeCells #[.int .i64 0] (n * 1)) 3)) := by
    have := run_make (P := Try.prog) w 35 3 i0 _ Try.underlying35 hi hz0 .i64 .i64 (n : Int) (n : Int) (by omega) (by omega) (by rw [hz2]; omega) (by omega)
    rw [this, hz1]
    simp [Value.cells]
  have hm := row_made w w.heap.size 3 #[.int .i64 0] 1 (by omega) numC num0 numC_len rfl n (Nat.le_refl _) (by unfold maxLen; omega)
  clear hi hz0 hz1 hz2
  go_enter Try.func5, Try.ntmps5
  repeat (first | (go_at_call 13; refine (sIn10 _ _ _ _).mono ?_; rintro e w9 ⟨rfl, hw9⟩; rw [hw9]; clear hw9 w9; (first | rw [d1] | rw [d3] | rw [d4] | skip); dsimp only) | go_values | go_skip | go_guarded | go_step | go_upon)
  clear hmk d1 d2
  go_loopw [29] (fun i wr => ∃ k : Nat, k ≤ n ∧ i = .int .i64 k ∧ NumO wr w.heap.size (w.heap.size + 1) (.slice (some ⟨w.heap.size, 0, none⟩) n n) (ps.take k ++ List.replicate (n - k) num0) ∧ Kept w wr) (fun i _ => n - (intOf i).toNat)
  case atStart => exact ⟨0, by omega, rfl, by simpa [NumO] using hm, (But.refl _ _ _).alloc _⟩
  case round =>
    obtain ⟨k, hk, rfl, ho, hkp⟩ := hrel
    clear hm
    by_cases hlt : k < n
    · have hp := HG.out k hlt
      have hlt' : k < ps.length := by omega
      have e9 : n - k = ps.length - k := by omega
      rw [e9] at ho
      obtain ⟨d0, dz⟩ := ho.cells (fill_get ps num0 hlt')
      have dz0 := dz k
      have d5 := ho.set (by rw [fill_len ps num0 (by omega)]; omega) (fill_get ps num0 hlt') (k : Int)
      rw [fill_set ps num0 hp] at d5
      have HS : Hid _ := d5
      have HK : Hid (Kept w wr) := hkp
      clear d5 dz ho hkp
      go_wp2
      refine ⟨⟨k + 1, hlt, by go_num, by rw [show n - (k + 1) = ps.length - (k + 1) by omega]; exact HS.out, HK.out.setNew (by simp) _⟩, by simp [intOf]; omega⟩
    · have hke : k = n := by omega
      rw [hke] at ho
      rw [Nat.sub_self, List.replicate_zero, List.append_nil, show ps.take n = ps by rw [← hpl, List.take_length]] at ho
      obtain ⟨b0, hb0⟩ : ∃ b0, w.heap.size = b0 := ⟨_, rfl⟩
      rw [hb0] at ho ⊢
      have HO : Hid (NumO wr b0 (b0 + 1) (.slice (some ⟨b0, 0, none⟩) n n) ps) := ho
      have HK : Hid (Kept w wr) := hkp
      rw [hke]
      clear ho hkp hlt hk hke k
      go_wp2
      go_loopw [39] (fun i wq => ∃ q : Nat, q ≤ ts.length ∧ i = .int .i64 q ∧ NumO wq b0 (b0 + 1) (.slice (some ⟨b0, 0, none⟩) n n) (fstL ps (ts.take q)) ∧ Hid (∀ t ∈ ts.take q, TieOk n t) ∧ Kept w wq) (fun i _ => ts.length - (intOf i).toNat)
      case atStart => exact ⟨0, by omega, rfl, HO.out, fun t h => by simp at h, HK.out⟩
      case round =>
        rename World => wq
        obtain ⟨q, hq, rfl, ho, HALL, hkp⟩ := hrel
        obtain ⟨of, hof⟩ : ∃ of, fstL ps (ts.take q) = of := ⟨_, rfl⟩
        rw [hof] at ho
        have hol : of.length = n := by rw [← hof, fstL_len]; exact hpl
        have HK2 : Hid (Kept w wq) := hkp
        have HO2 : Hid (NumO wq b0 (b0 + 1) (.slice (some ⟨b0, 0, none⟩) n n) of) := ho
        by_cases hlt : q < ts.length
        · obtain ⟨t, htq⟩ : ∃ t, ts[q]? = some t := ⟨_, List.getElem?_eq_getElem hlt⟩
          obtain ⟨b, o, cap1, e, c0, c1⟩ := pair_get (HV.out.kept hkp) htq
          cases e
          have NT : Hid (¬ TieOk n t → R = false ∧ RL = []) := fun h => NO.out fun h' => h (h'.2.2.2 t (List.mem_of_getElem? htq))
          have HM : Hid (fstL ps (ts.take (q + 1)) = mrg of t.1.toNat t.2.toNat) := by show _ = _; rw [take_snoc htq, fstL_snoc, hof]
          have HTS : Hid (TieOk n t → ∀ u ∈ ts.take (q + 1), TieOk n u) := fun h u hu => by
            rw [take_snoc htq, List.mem_append] at hu
            rcases hu with hu | hu
            · exact HALL.out u hu
            · simp at hu; subst hu; exact h
          obtain ⟨A, B⟩ := t
          dsimp only at c0 c1 HM
          have hgw : b < wq.heap.size := World.block_lt_of_cell? _ _ c0
          have hws : b0 < wq.heap.size := own_lt ho.1 (g := b0) rfl |>.2
          have z0 : (0 : Int) ≤ (q : Int) := by omega
          have z1 : (q : Int) < (ts.length : Int) := by omega
          by_cases h3 : 0 ≤ A ∧ A ≤ (n : Int) - 1
          case neg =>
            have d3 : decide (0 ≤ A ∧ A ≤ (n : Int) - 1) = false := decide_eq_false h3
            obtain ⟨hR, hL⟩ := NT.out fun h => by unfold TieOk at h; dsimp only at h; omega
            subst hR hL
            clear htq hof ho hkp h3
            repeat (first | (go_at_call 13; refine (sIn10 _ _ _ _).mono ?_; rintro e w9 ⟨rfl, hw9⟩; rw [hw9]; clear hw9 w9; (first | rw [d1] | rw [d3] | rw [d4] | skip); dsimp only) | go_values | go_skip | go_guarded | go_step | go_upon)
            go_ret2
            exact ⟨_, rfl, nil_lists _ _ _, HK2.out.trans (by (repeat (first | with_reducible exact But.refl _ _ _ | with_reducible apply But.drewN | with_reducible apply But.drew | with_reducible apply But.alloc)))⟩
          have d3 : decide (0 ≤ A ∧ A ≤ (n : Int) - 1) = true := decide_eq_true h3
          obtain ⟨h30, h31⟩ := h3
          by_cases h4 : A + 1 ≤ B ∧ B ≤ (n : Int) - 1
          case neg =>
            have d4 : decide (A + 1 ≤ B ∧ B ≤ (n : Int) - 1) = false := decide_eq_false h4
            obtain ⟨hR, hL⟩ := NT.out fun h => by unfold TieOk at h; dsimp only at h; omega
            subst hR hL
            clear htq hof ho hkp h4
            repeat (first | (go_at_call 13; refine (sIn10 _ _ _ _).mono ?_; rintro e w9 ⟨rfl, hw9⟩; rw [hw9]; clear hw9 w9; (first | rw [d1] | rw [d3] | rw [d4] | skip); dsimp only) | go_values | go_skip | go_guarded | go_step | go_upon)
            go_ret2
            exact ⟨_, rfl, nil_lists _ _ _, HK2.out.trans (by (repeat (first | with_reducible exact But.refl _ _ _ | with_reducible apply But.drewN | with_reducible apply But.drew | with_reducible apply But.alloc)))⟩
          have d4 : decide (A + 1 ≤ B ∧ B ≤ (n : Int) - 1) = true := decide_eq_true h4
          obtain ⟨h40, h41⟩ := h4
          have HALL2 : Hid (∀ u ∈ ts.take (q + 1), TieOk n u) := HTS.out ⟨by show 0 ≤ A; omega, by show A < B; omega, by show B < _; omega⟩
          obtain ⟨a, rfl⟩ : ∃ a : Nat, A = a := ⟨A.toNat, by omega⟩
          obtain ⟨c, rfl⟩ : ∃ c : Nat, B = c := ⟨B.toNat, by omega⟩
          rw [Int.toNat_natCast, Int.toNat_natCast] at HM
          obtain ⟨x, hx⟩ : ∃ x, of[a]? = some x := ⟨_, List.getElem?_eq_getElem (by omega)⟩
          obtain ⟨y, hy⟩ : ∃ y, of[c]? = some y := ⟨_, List.getElem?_eq_getElem (by omega)⟩
          have HF0 : Hid (mrg of a c = of.map fun v => if v = max x y then min x y else v) := by show _ = _; unfold mrg; rw [getD_of hx, getD_of hy]
          obtain ⟨r0, -⟩ := ho.cells hx
          obtain ⟨r1, -⟩ := ho.cells hy
          have u0 : (0 : Int) ≤ (a : Int) := by omega
          have u1 : (a : Int) < (n : Int) := by omega
          have u2 : (0 : Int) ≤ (c : Int) := by omega
          have u3 : (c : Int) < (n : Int) := by omega
          clear htq hof ho hkp hx hy HTS NT
          by_cases hxy : y < x
          · have d5 : decide (y < x) = true := decide_eq_true hxy
            have HFF : Hid (mrg of a c = of.map fun v => if v = x then y else v) := by show _ = _; rw [HF0.out, show max x y = x by omega, show min x y = y by omega]
            clear HF0
            repeat (first | (go_at_call 13; refine (sIn10 _ _ _ _).mono ?_; rintro e w9 ⟨rfl, hw9⟩; rw [hw9]; clear hw9 w9; (first | rw [d1] | rw [d3] | rw [d4] | skip); dsimp only) | go_values | go_skip | go_guarded | go_step | go_upon)
            obtain ⟨g, hg⟩ : ∃ g : Int → Int, (fun v => if v = x then y else v) = g := ⟨_, rfl⟩
            have HGE : Hid ((fun v => if v = x then y else v) = g) := hg
            have HF : Hid (mrg of a c = of.map g) := by show _ = _; rw [HFF.out, ← hg]
            have HO3 := HO2.out
            have H3 : Hid (NumO wq b0 (b0 + 1) (.slice (some ⟨b0, 0, none⟩) n n) ((of.take 0).map g ++ of.drop 0)) := by show NumO _ _ _ _ _; simpa using HO3
            clear HO3 hg c0 c1 r0 r1
            repeat (first | go_values | go_skip | go_guarded | go_step | go_upon)
            go_loopw [85] (fun i wn => ∃ j : Nat, j ≤ n ∧ i = .int .i64 j ∧ NumO wn b0 (b0 + 1) (.slice (some ⟨b0, 0, none⟩) n n) ((of.take j).map g ++ of.drop j) ∧ Kept w wn) (fun i _ => n - (intOf i).toNat)
            case atStart => exact ⟨0, by omega, rfl, H3.out.kept (by (repeat (first | with_reducible exact But.refl _ _ _ | with_reducible apply But.drewN | with_reducible apply But.drew | with_reducible apply But.alloc))), HK2.out.trans (by (repeat (first | with_reducible exact But.refl _ _ _ | with_reducible apply But.drewN | with_reducible apply But.drew | with_reducible apply But.alloc)))⟩
            case round =>
              rename World => wn
              obtain ⟨j, hj, rfl, hoj, hkn⟩ := hrel
              have HKN : Hid (Kept w wn) := hkn
              clear hkn H3
              by_cases hjl : j < n
              · obtain ⟨e, he⟩ : ∃ e, of[j]? = some e := ⟨_, List.getElem?_eq_getElem (by omega)⟩
                have hml : ((of.take j).map g).length = j := by rw [List.length_map, List.length_take]; omega
                have hmx : ((of.take j).map g ++ of.drop j)[j]? = some e := by
                  rw [List.getElem?_append_right (by omega), hml, Nat.sub_self, List.getElem?_drop]
                  simpa using he
                have hll : n = ((of.take j).map g ++ of.drop j).length := by rw [List.length_append, hml, List.length_drop]; omega
                have hsu : ∀ u, u = g e → ((of.take j).map g ++ of.drop j).set j u = (of.take (j + 1)).map g ++ of.drop (j + 1) := fun u hu => by
                  have hd : of.drop j = e :: of.drop (j + 1) := by
                    rw [List.drop_eq_getElem_cons (by omega)]
                    congr 1
                    have := List.getElem?_eq_getElem (l := of) (i := j) (by omega)
                    rw [he] at this
                    exact (Option.some.inj this).symm
                  rw [hd, List.set_append_right _ _ (by omega), hml, Nat.sub_self, List.set_cons_zero, take_snoc he, List.map_append, hu]
                  simp
                have hkeep : e = g e → (of.take j).map g ++ of.drop j = (of.take (j + 1)).map g ++ of.drop (j + 1) := fun hu => by
                  rw [← hsu e hu]
                  apply List.ext_getElem?
                  intro m
                  rw [List.getElem?_set]
                  split
                  · rename_i hjm; subst hjm; rw [hmx]; rw [if_pos (by rw [← hll]; exact hjl)]
                  · rfl
                obtain ⟨d0, dz⟩ := hoj.cells hmx
                have dz0 := dz j
                have HS := hoj.set hll hmx y
                have HS2 : Hid (g e = y → NumO (wn.setCell ⟨b0, j, none⟩ (.int .i64 y)) b0 (b0 + 1) (.slice (some ⟨b0, 0, none⟩) n n) ((of.take (j + 1)).map g ++ of.drop (j + 1))) := fun hu => by rw [← hsu _ hu.symm]; exact HS
                have HK3 : Hid (e = g e → NumO wn b0 (b0 + 1) (.slice (some ⟨b0, 0, none⟩) n n) ((of.take (j + 1)).map g ++ of.drop (j + 1))) := fun hu => by rw [← hkeep hu]; exact hoj
                have HEG : Hid (g e = if e = x then y else e) := by show _ = _; rw [← HGE.out]
                have z3 : (0 : Int) ≤ (j : Int) := by omega
                have z4 : (j : Int) < (n : Int) := by omega
                clear dz HS hoj hsu hkeep hmx hll hml he
                by_cases hem : e = x
                · have HN2 : Hid (NumO (wn.setCell ⟨b0, j, none⟩ (.int .i64 y)) b0 (b0 + 1) (.slice (some ⟨b0, 0, none⟩) n n) ((of.take (j + 1)).map g ++ of.drop (j + 1))) := HS2.out (by rw [HEG.out, if_pos hem])
                  have hd : decide (e = x) = true := decide_eq_true hem
                  clear HS2 HK3 HEG
                  repeat (first | go_values | go_skip | go_guarded | go_step | go_upon)
                  exact ⟨⟨j + 1, hjl, by go_num, HN2.out, HKN.out.setNew (by show w.heap.size ≤ b0; omega) _⟩, by simp [intOf]; omega⟩
                · have HN2 : Hid (NumO wn b0 (b0 + 1) (.slice (some ⟨b0, 0, none⟩) n n) ((of.take (j + 1)).map g ++ of.drop (j + 1))) := HK3.out (by rw [HEG.out, if_neg hem])
                  have hd : decide (e = x) = false := decide_eq_false hem
                  clear HS2 HK3 HEG
                  repeat (first | go_values | go_skip | go_guarded | go_step | go_upon)
                  exact ⟨⟨j + 1, hjl, by go_num, HN2.out, HKN.out⟩, by simp [intOf]; omega⟩
              · have hke : j = n := by omega
                subst hke
                have hfin : (of.take j).map g ++ of.drop j = mrg of a c := by rw [HF.out, ← hol, List.take_length, List.drop_length, List.append_nil]
                rw [hfin] at hoj
                have HJ : Hid (NumO wn b0 (b0 + 1) (.slice (some ⟨b0, 0, none⟩) j j) (mrg of a c)) := hoj
                clear hfin hoj
                repeat (first | go_values | go_skip | go_guarded | go_step | go_upon)
                exact ⟨⟨q + 1, hlt, by go_num, (by rw [HM.out]; exact HJ.out), HALL2.out, HKN.out⟩, by simp [intOf]; omega⟩
          · have d5 : decide (y < x) = false := decide_eq_false hxy
            have HFF : Hid (mrg of a c = of.map fun v => if v = y then x else v) := by show _ = _; rw [HF0.out, show max x y = y by omega, show min x y = x by omega]
            clear HF0
            repeat (first | (go_at_call 13; refine (sIn10 _ _ _ _).mono ?_; rintro e w9 ⟨rfl, hw9⟩; rw [hw9]; clear hw9 w9; (first | rw [d1] | rw [d3] | rw [d4] | skip); dsimp only) | go_values | go_skip | go_guarded | go_step | go_upon)
            obtain ⟨g, hg⟩ : ∃ g : Int → Int, (fun v => if v = y then x else v) = g := ⟨_, rfl⟩
            have HGE : Hid ((fun v => if v = y then x else v) = g) := hg
            have HF : Hid (mrg of a c = of.map g) := by show _ = _; rw [HFF.out, ← hg]
            have HO3 := HO2.out
            have H3 : Hid (NumO wq b0 (b0 + 1) (.slice (some ⟨b0, 0, none⟩) n n) ((of.take 0).map g ++ of.drop 0)) := by show NumO _ _ _ _ _; simpa using HO3
            clear HO3 hg c0 c1 r0 r1
            repeat (first | go_values | go_skip | go_guarded | go_step | go_upon)
            go_loopw [85] (fun i wn => ∃ j : Nat, j ≤ n ∧ i = .int .i64 j ∧ NumO wn b0 (b0 + 1) (.slice (some ⟨b0, 0, none⟩) n n) ((of.take j).map g ++ of.drop j) ∧ Kept w wn) (fun i _ => n - (intOf i).toNat)
            case atStart => exact ⟨0, by omega, rfl, H3.out.kept (by (repeat (first | with_reducible exact But.refl _ _ _ | with_reducible apply But.drewN | with_reducible apply But.drew | with_reducible apply But.alloc))), HK2.out.trans (by (repeat (first | with_reducible exact But.refl _ _ _ | with_reducible apply But.drewN | with_reducible apply But.drew | with_reducible apply But.alloc)))⟩
            case round =>
              rename World => wn
              obtain ⟨j, hj, rfl, hoj, hkn⟩ := hrel
              have HKN : Hid (Kept w wn) := hkn
              clear hkn H3
              by_cases hjl : j < n
              · obtain ⟨e, he⟩ : ∃ e, of[j]? = some e := ⟨_, List.getElem?_eq_getElem (by omega)⟩
                have hml : ((of.take j).map g).length = j := by rw [List.length_map, List.length_take]; omega
                have hmx : ((of.take j).map g ++ of.drop j)[j]? = some e := by
                  rw [List.getElem?_append_right (by omega), hml, Nat.sub_self, List.getElem?_drop]
                  simpa using he
                have hll : n = ((of.take j).map g ++ of.drop j).length := by rw [List.length_append, hml, List.length_drop]; omega
                have hsu : ∀ u, u = g e → ((of.take j).map g ++ of.drop j).set j u = (of.take (j + 1)).map g ++ of.drop (j + 1) := fun u hu => by
                  have hd : of.drop j = e :: of.drop (j + 1) := by
                    rw [List.drop_eq_getElem_cons (by omega)]
                    congr 1
                    have := List.getElem?_eq_getElem (l := of) (i := j) (by omega)
                    rw [he] at this
                    exact (Option.some.inj this).symm
                  rw [hd, List.set_append_right _ _ (by omega), hml, Nat.sub_self, List.set_cons_zero, take_snoc he, List.map_append, hu]
                  simp
                have hkeep : e = g e → (of.take j).map g ++ of.drop j = (of.take (j + 1)).map g ++ of.drop (j + 1) := fun hu => by
                  rw [← hsu e hu]
                  apply List.ext_getElem?
                  intro m
                  rw [List.getElem?_set]
                  split
                  · rename_i hjm; subst hjm; rw [hmx]; rw [if_pos (by rw [← hll]; exact hjl)]
                  · rfl
                obtain ⟨d0, dz⟩ := hoj.cells hmx
                have dz0 := dz j
                have HS := hoj.set hll hmx x
                have HS2 : Hid (g e = x → NumO (wn.setCell ⟨b0, j, none⟩ (.int .i64 x)) b0 (b0 + 1) (.slice (some ⟨b0, 0, none⟩) n n) ((of.take (j + 1)).map g ++ of.drop (j + 1))) := fun hu => by rw [← hsu _ hu.symm]; exact HS
                have HK3 : Hid (e = g e → NumO wn b0 (b0 + 1) (.slice (some ⟨b0, 0, none⟩) n n) ((of.take (j + 1)).map g ++ of.drop (j + 1))) := fun hu => by rw [← hkeep hu]; exact hoj
                have HEG : Hid (g e = if e = y then x else e) := by show _ = _; rw [← HGE.out]
                have z3 : (0 : Int) ≤ (j : Int) := by omega
                have z4 : (j : Int) < (n : Int) := by omega
                clear dz HS hoj hsu hkeep hmx hll hml he
                by_cases hem : e = y
                · have HN2 : Hid (NumO (wn.setCell ⟨b0, j, none⟩ (.int .i64 x)) b0 (b0 + 1) (.slice (some ⟨b0, 0, none⟩) n n) ((of.take (j + 1)).map g ++ of.drop (j + 1))) := HS2.out (by rw [HEG.out, if_pos hem])
                  have hd : decide (e = y) = true := decide_eq_true hem
                  clear HS2 HK3 HEG
                  repeat (first | go_values | go_skip | go_guarded | go_step | go_upon)
                  exact ⟨⟨j + 1, hjl, by go_num, HN2.out, HKN.out.setNew (by show w.heap.size ≤ b0; omega) _⟩, by simp [intOf]; omega⟩
                · have HN2 : Hid (NumO wn b0 (b0 + 1) (.slice (some ⟨b0, 0, none⟩) n n) ((of.take (j + 1)).map g ++ of.drop (j + 1))) := HK3.out (by rw [HEG.out, if_neg hem])
                  have hd : decide (e = y) = false := decide_eq_false hem
                  clear HS2 HK3 HEG
                  repeat (first | go_values | go_skip | go_guarded | go_step | go_upon)
                  exact ⟨⟨j + 1, hjl, by go_num, HN2.out, HKN.out⟩, by simp [intOf]; omega⟩
              · have hke : j = n := by omega
                subst hke
                have hfin : (of.take j).map g ++ of.drop j = mrg of a c := by rw [HF.out, ← hol, List.take_length, List.drop_length, List.append_nil]
                rw [hfin] at hoj
                have HJ : Hid (NumO wn b0 (b0 + 1) (.slice (some ⟨b0, 0, none⟩) j j) (mrg of a c)) := hoj
                clear hfin hoj
                repeat (first | go_values | go_skip | go_guarded | go_step | go_upon)
                exact ⟨⟨q + 1, hlt, by go_num, (by rw [HM.out]; exact HJ.out), HALL2.out, HKN.out⟩, by simp [intOf]; omega⟩
        · have hqe : q = ts.length := by omega
          have hA := HALL.out
          rw [hqe, List.take_length] at hA hof
          obtain ⟨hR, hL⟩ := YES.out n rfl ⟨by omega, by omega, by omega, hA⟩
          rw [HPS.out, hof] at hL
          subst hR hL
          rw [hqe]
          clear hA HALL ho hkp hof hqe
          repeat (first | go_values | go_skip | go_guarded | go_step | go_upon)
          obtain ⟨lo0, hlo0⟩ : ∃ lo0, wq.heap.size = lo0 := ⟨_, rfl⟩
          have hb1 : b0 + 1 ≤ lo0 := by have := own_lt HO2.out.1 (g := b0) rfl; omega
          go_loopw [13, 102] (fun s i wp => ∃ k : Nat, k ≤ n ∧ i = .int .i64 k ∧ LLO wp lo0 wp.heap.size s ((rtL of k).map (meL of n)) ∧ (lo0 ≤ wp.heap.size ∧ NumO wp b0 (b0 + 1) (.slice (some ⟨b0, 0, none⟩) n n) of) ∧ Kept w wp) (fun s i _ => n - (intOf i).toNat)
          case atStart => exact ⟨0, by omega, rfl, nil_lists _ _ _, ⟨by omega, HO2.out⟩, HK2.out⟩
          case round =>
            rename World => wp
            obtain ⟨k, hk, rfl, hll, ⟨hwp, hof⟩, hkp⟩ := hrel
            obtain ⟨L, hL⟩ : ∃ L, (rtL of k).map (meL of n) = L := ⟨_, rfl⟩
            rw [hL] at hll
            have HLL : Hid ((rtL of k).map (meL of n) = L) := hL
            have hLl : L.length ≤ 40 := by
              rw [← hL, List.length_map]
              have := List.length_filter_le (rootB of) (List.range k)
              rw [List.length_range] at this
              show (List.filter _ _).length ≤ 40
              omega
            obtain ⟨a6, c6, hf⟩ := hll.form
            subst hf
            have HLO : Hid (LLO wp lo0 wp.heap.size (.slice a6 L.length c6) L) := hll
            have HOF : Hid (NumO wp b0 (b0 + 1) (.slice (some ⟨b0, 0, none⟩) n n) of) := hof
            have HKP : Hid (Kept w wp) := hkp
            by_cases hlt : k < n
            · obtain ⟨e, he⟩ : ∃ e, of[k]? = some e := ⟨_, List.getElem?_eq_getElem (by omega)⟩
              obtain ⟨c0, -⟩ := hof.cells he
              have z0 : (0 : Int) ≤ (k : Int) := by omega
              have z1 : (k : Int) < (n : Int) := by omega
              have HE : Hid (of[k]? = some e) := he
              clear hL hll hof hkp he
              by_cases hek : e = (k : Int)
              · have hd : decide (e = (k : Int)) = true := decide_eq_true hek
                have HRT : Hid ((rtL of (k + 1)).map (meL of n) = L ++ [meL of n k]) := by
                  show _ = _
                  rw [rt_succ, show rootB of k = true by unfold rootB; rw [HE.out, hek]; simp, if_pos rfl, List.map_append, HLL.out]
                  rfl
                subst hek
                repeat (first | go_values | go_skip | go_guarded | go_step | go_upon)
                obtain ⟨mid, hmid⟩ : ∃ mid, wp.heap.size = mid := ⟨_, rfl⟩
                have HMD : Hid (wp.heap.size = mid) := hmid
                rw [hmid] at HLO hwp
                clear hmid
                go_loopw [15, 113] (fun l i wn => ∃ j : Nat, j ≤ n ∧ i = .int .i64 j ∧ NumO wn mid wn.heap.size l (meL of j k) ∧ (mid ≤ wn.heap.size ∧ NumO wn b0 (b0 + 1) (.slice (some ⟨b0, 0, none⟩) n n) of ∧ LLO wn lo0 mid (.slice a6 L.length c6) L) ∧ Kept w wn) (fun l i _ => n - (intOf i).toNat)
                case atStart => exact ⟨0, by omega, rfl, nil_num _ _ _, ⟨by have := HMD.out; omega, HOF.out, HLO.out⟩, HKP.out⟩
                case round =>
                  rename World => wn
                  obtain ⟨j, hj, rfl, hme, ⟨hwn, hofn, hlln⟩, hkn⟩ := hrel
                  obtain ⟨M, hM⟩ : ∃ M, meL of j k = M := ⟨_, rfl⟩
                  have hMl : M.length ≤ 40 := by
                    rw [← hM]
                    unfold meL
                    rw [List.length_map]
                    have := List.length_filter_le (fun i => of[i]? == some (k : Int)) (List.range j)
                    rw [List.length_range] at this
                    omega
                  rw [hM] at hme
                  obtain ⟨am, cm, hf⟩ := hme.form
                  subst hf
                  have HMJ : Hid (meL of j k = M) := hM
                  have HME : Hid (NumO wn mid wn.heap.size (.slice am M.length cm) M) := hme
                  have HON : Hid (NumO wn b0 (b0 + 1) (.slice (some ⟨b0, 0, none⟩) n n) of) := hofn
                  have HLN : Hid (LLO wn lo0 mid (.slice a6 L.length c6) L) := hlln
                  have HKN : Hid (Kept w wn) := hkn
                  by_cases hjl : j < n
                  · obtain ⟨e', he'⟩ : ∃ e, of[j]? = some e := ⟨_, List.getElem?_eq_getElem (by omega)⟩
                    obtain ⟨x0, -⟩ := hofn.cells he'
                    have HE' : Hid (of[j]? = some e') := he'
                    have z3 : (0 : Int) ≤ (j : Int) := by omega
                    have z4 : (j : Int) < (n : Int) := by omega
                    clear hM hme hofn hlln hkn he'
                    by_cases hek2 : e' = (k : Int)
                    · have hd2 : decide (e' = (k : Int)) = true := decide_eq_true hek2
                      have HNX : Hid (meL of (j + 1) k = M ++ [(j : Int)]) := by show _ = _; rw [me_succ, HMJ.out, HE'.out, hek2]; simp
                      repeat (first | (at_builtin; refine forgetL (fun w' => w' = _) rfl ?_) | go_values | go_skip | go_guarded | go_step | go_upon)
                      intro W7 hW7
                      rw [hW7]
                      clear hW7 W7
                      have L1 := Loc.new wn [.int .i64 (j : Int)] 3
                      have HI1 : NumO (wn.alloc (.cells #[.int .i64 (j : Int)] 3)) mid wn.heap.size (.slice am M.length cm) M := HME.out.kept ((But.refl _ _ _).alloc _)
                      refine app1_num rfl _ _ rfl (lo := mid) (ps := M) rfl HI1 (j : Int) rfl L1 (by omega) (by simp; omega) ?_
                      intro v7 w7 hO7 hB7 hown7
                      obtain ⟨a7, c7, hf7⟩ := hO7.form
                      subst hf7
                      have hBin := But.inner hB7 HI1
                      have B9 : Hid (But mid wn.heap.size wn w7) := ((But.refl _ _ _).alloc _).trans hBin
                      have O7 : Hid (NumO w7 mid w7.heap.size (.slice a7 (M ++ [(j : Int)]).length c7) (M ++ [(j : Int)])) := hO7
                      obtain ⟨Z, hZ⟩ : ∃ Z, M ++ [(j : Int)] = Z := ⟨_, rfl⟩
                      rw [hZ] at O7 HNX ⊢
                      clear hZ
                      clear hB7 hBin L1 HI1 hO7 hown7
                      repeat (first | go_values | go_skip | go_guarded | go_step | go_upon)
                      exact ⟨⟨j + 1, hjl, by go_num, by rw [HNX.out]; exact O7.out, ⟨by have := B9.out.size; omega, HON.out.but B9.out (.inl (by omega)), HLN.out.but B9.out (.inl (Nat.le_refl _))⟩, HKN.out.onto B9.out (by omega)⟩, by simp [intOf]; omega⟩
                    · have hd2 : decide (e' = (k : Int)) = false := decide_eq_false hek2
                      have HNX : Hid (meL of (j + 1) k = M) := by show _ = _; rw [me_succ, HMJ.out, HE'.out]; simp [hek2]
                      repeat (first | go_values | go_skip | go_guarded | go_step | go_upon)
                      exact ⟨⟨j + 1, hjl, by go_num, by rw [HNX.out]; exact HME.out, ⟨hwn, HON.out, HLN.out⟩, HKN.out⟩, by simp [intOf]; omega⟩
                  · have hjn : j = n := by omega
                    have HMN : Hid (meL of n k = M) := by show _ = _; rw [← hjn]; exact hM
                    clear hM hme hofn hlln hkn
                    repeat (first | (at_builtin; refine forgetL (fun w' => w' = _) rfl ?_) | go_values | go_skip | go_guarded | go_step | go_upon)
                    intro W7 hW7
                    rw [hW7]
                    clear hW7 W7
                    refine appw_lists rfl _ _ rfl (lo := lo0) (hi0 := mid) (mid := mid) (fs := L) (v := .slice a6 L.length c6) rfl (HLN.out.kept ((But.refl _ _ _).alloc _)) (Nat.le_refl _) rfl (.slice am M.length cm) M (Loc.new wn [.slice am M.length cm] 35) rfl ((HME.out.kept ((But.refl _ _ _).alloc _)).mono (Nat.le_refl _) (by simp)) hwp (by simp; omega) (by omega) ?_
                    intro v8 w8 hO8 hB8
                    obtain ⟨a8, c8, hf8⟩ := hO8.form
                    subst hf8
                    have O8 : Hid (LLO w8 lo0 w8.heap.size (.slice a8 (L ++ [M]).length c8) (L ++ [M])) := hO8
                    have HRT8 : Hid ((rtL of (k + 1)).map (meL of n) = L ++ [M]) := by show _ = _; rw [HRT.out, HMN.out]
                    obtain ⟨Z, hZ⟩ : ∃ Z, L ++ [M] = Z := ⟨_, rfl⟩
                    rw [hZ] at O8 HRT8 ⊢
                    clear hZ
                    have ON8 : Hid (NumO w8 b0 (b0 + 1) (.slice (some ⟨b0, 0, none⟩) n n) of) := (HON.out.kept ((But.refl _ _ _).alloc _)).but hB8 (.inl hb1)
                    have KN8 : Hid (Kept w w8) := (HKN.out.alloc _).onto hB8 (by omega)
                    have S8 : Hid (lo0 ≤ w8.heap.size) := by have := hB8.size; simp at this; show lo0 ≤ w8.heap.size; omega
                    clear hO8 hB8
                    repeat (first | go_values | go_skip | go_guarded | go_step | go_upon)
                    exact ⟨⟨k + 1, hlt, by go_num, by rw [HRT8.out]; exact O8.out, ⟨S8.out, ON8.out⟩, KN8.out⟩, by simp [intOf]; omega⟩
              · have hd : decide (e = (k : Int)) = false := decide_eq_false hek
                have HRT : Hid ((rtL of (k + 1)).map (meL of n) = L) := by
                  show _ = _
                  rw [rt_succ, show rootB of k = false by unfold rootB; rw [HE.out]; simp [hek]]
                  simpa using HLL.out
                repeat (first | go_values | go_skip | go_guarded | go_step | go_upon)
                exact ⟨⟨k + 1, hlt, by go_num, by rw [HRT.out]; exact HLO.out, ⟨hwp, HOF.out⟩, HKP.out⟩, by simp [intOf]; omega⟩
            · have hkn : k = n := by omega
              rw [hkn] at hL
              have HRES : Hid (isL of n = L) := hL
              clear hL hll hof hkp
              repeat (first | go_values | go_skip | go_guarded | go_step | go_upon)
              go_ret2
              exact ⟨_, rfl, by rw [HRES.out]; exact HLO.out.mono (by omega) (Nat.le_refl _), HKP.out⟩

end Go.Proofs.Ytcbenpnnjkgkdaa
