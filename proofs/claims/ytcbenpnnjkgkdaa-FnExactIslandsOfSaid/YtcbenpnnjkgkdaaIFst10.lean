/-
  firstsOf.
-/
import Derived.Test.YtcbenpnnjkgkdaaIGt10
import Derived.Test.YtcbenpnnjkgkdaaNum
import Derived.Test.YtcbenpnnjkgkdaaIslP10
import Derived.Deep.RegionHeld3
import Derived.BigQuiet
import Derived.Deep.Cut
import Derived.WalkLawsBesides
namespace Go.Proofs.Ytcbenpnnjkgkdaa
open Go.ChangeShapes Go.WideShapes Go.ChangeAt Go.RowKit

set_option maxRecDepth 100000
set_option linter.unusedVariables false
set_option linter.unusedSimpArgs false

set_option maxHeartbeats 4000000 in
theorem ifirsts (n : Nat) (ts : List PairD) (v : Value) (w : World) (hv : PairAt w v ts) (hn : n ≤ 40) (ht : TieP n ts) :
    Calls Try.prog 16 #[.int .i64 (n : Int), v] w fun e w' => ∃ v', e = .returned v' ∧ NumO w' w.heap.size w'.heap.size v' (fstL (fst0 n) ts) ∧ Kept w w' := by
  obtain ⟨ao, cap, hsl⟩ := row_nil hv
  subst hsl
  have HV : Hid (PairAt w (.slice ao ts.length cap) ts) := hv
  have HT : Hid (∀ t ∈ ts, TieOk n t) := ht.2
  have htl := ht.1
  clear hv ht
  obtain ⟨ps, hps⟩ : ∃ ps, fst0 n = ps := ⟨_, rfl⟩
  have hpl : ps.length = n := by rw [← hps, fst0_len]
  have HG : Hid (∀ k, k < n → ps[k]? = some (k : Int)) := fun k hk => by rw [← hps]; exact fst0_get hk
  rw [hps]
  clear hps
  obtain ⟨i0, hi, hz0, hz1, hz2⟩ := info_parts info3
  have hmk : (Instr.makeSlice 35 (.int .i64 (n : Int)) (.int .i64 (n : Int))).run Try.prog w = .ok (.slice (some ⟨w.heap.size, 0, none⟩) n n) (w.alloc (.cells (madeCells #[.int .i64 0] (n * 1)) 3)) := by
    have := run_make (P := Try.prog) w 35 3 i0 _ Try.underlying35 hi hz0 .i64 .i64 (n : Int) (n : Int) (by omega) (by omega) (by rw [hz2]; omega) (by omega)
    rw [this, hz1]
    simp [Value.cells]
  have hm := row_made w w.heap.size 3 #[.int .i64 0] 1 (by omega) numC num0 numC_len rfl n (Nat.le_refl _) (by unfold maxLen; omega)
  clear hi hz0 hz1 hz2
  go_enter Try.func16, Try.ntmps16
  go_wp2
  clear hmk
  go_loopw [17] (fun i wr => ∃ k : Nat, k ≤ n ∧ i = .int .i64 k ∧ NumO wr w.heap.size (w.heap.size + 1) (.slice (some ⟨w.heap.size, 0, none⟩) n n) (ps.take k ++ List.replicate (n - k) num0) ∧ Kept w wr) (fun i _ => n - (intOf i).toNat)
  case atStart => exact ⟨0, by omega, rfl, by simpa [NumO] using hm, (But.refl _ _ _).alloc _⟩
  case round =>
    obtain ⟨k, hk, rfl, ho, hkp⟩ := hrel
    clear hm
    by_cases hlt : k < n
    · have hp := HG.out k hlt
      have hlt' : k < ps.length := by omega
      have e9 : n - k = ps.length - k := by omega
      rw [e9] at ho
      obtain ⟨d0, dz⟩ := ho.cells (fill_get ps num0 hlt')
      have dz0 := dz k
      have d5 := ho.set (by rw [fill_len ps num0 (by omega)]; omega) (fill_get ps num0 hlt') (k : Int)
      rw [fill_set ps num0 hp] at d5
      have HS : Hid _ := d5
      have HK : Hid (Kept w wr) := hkp
      clear d5 dz ho hkp
      go_wp2
      refine ⟨⟨k + 1, hlt, by go_num, by rw [show n - (k + 1) = ps.length - (k + 1) by omega]; exact HS.out, HK.out.setNew (by simp) _⟩, by simp [intOf]; omega⟩
    · have hke : k = n := by omega
      subst hke
      rw [Nat.sub_self, List.replicate_zero, List.append_nil, show ps.take k = ps by rw [← hpl, List.take_length]] at ho
      have HO : Hid (NumO wr w.heap.size (w.heap.size + 1) (.slice (some ⟨w.heap.size, 0, none⟩) k k) ps) := ho
      have HK : Hid (Kept w wr) := hkp
      clear ho hkp hlt hk
      go_wp2
      go_loopw [27] (fun i wq => ∃ q : Nat, q ≤ ts.length ∧ i = .int .i64 q ∧ NumO wq w.heap.size (w.heap.size + 1) (.slice (some ⟨w.heap.size, 0, none⟩) k k) (fstL ps (ts.take q)) ∧ Kept w wq) (fun i _ => ts.length - (intOf i).toNat)
      case atStart => exact ⟨0, by omega, rfl, HO.out, HK.out⟩
      case round =>
        rename World => wq
        obtain ⟨q, hq, rfl, ho, hkp⟩ := hrel
        obtain ⟨of, hof⟩ : ∃ of, fstL ps (ts.take q) = of := ⟨_, rfl⟩
        rw [hof] at ho
        have hol : of.length = k := by rw [← hof, fstL_len]; exact hpl
        by_cases hlt : q < ts.length
        · obtain ⟨t, htq⟩ : ∃ t, ts[q]? = some t := ⟨_, List.getElem?_eq_getElem hlt⟩
          obtain ⟨b, o, cap1, e, c0, c1⟩ := pair_get (HV.out.kept hkp) htq
          cases e
          have hto := HT.out t (List.mem_of_getElem? htq)
          have HM : Hid (fstL ps (ts.take (q + 1)) = mrg of t.1.toNat t.2.toNat) := by show _ = _; rw [take_snoc htq, fstL_snoc, hof]
          obtain ⟨A, B⟩ := t
          obtain ⟨h1, h2, h3⟩ := hto
          dsimp only at c0 c1 h1 h2 h3 HM
          obtain ⟨a, rfl⟩ : ∃ a : Nat, A = a := ⟨A.toNat, by omega⟩
          obtain ⟨c, rfl⟩ : ∃ c : Nat, B = c := ⟨B.toNat, by omega⟩
          rw [Int.toNat_natCast, Int.toNat_natCast] at HM
          obtain ⟨x, hx⟩ : ∃ x, of[a]? = some x := ⟨_, List.getElem?_eq_getElem (by omega)⟩
          obtain ⟨y, hy⟩ : ∃ y, of[c]? = some y := ⟨_, List.getElem?_eq_getElem (by omega)⟩
          have HF : Hid (mrg of a c = of.map fun v => if v = max x y then min x y else v) := by show _ = _; unfold mrg; rw [getD_of hx, getD_of hy]
          have HO2 : Hid (NumO wq w.heap.size (w.heap.size + 1) (.slice (some ⟨w.heap.size, 0, none⟩) k k) of) := ho
          have HK2 : Hid (Kept w wq) := hkp
          have hgw : b < wq.heap.size := World.block_lt_of_cell? _ _ c0
          have hws : w.heap.size < wq.heap.size := own_lt ho.1 (g := w.heap.size) rfl |>.2
          obtain ⟨r0, -⟩ := ho.cells hx
          obtain ⟨r1, -⟩ := ho.cells hy
          have z0 : (0 : Int) ≤ (q : Int) := by omega
          have z1 : (q : Int) < (ts.length : Int) := by omega
          have u0 : (0 : Int) ≤ (a : Int) := by omega
          have u2 : (0 : Int) ≤ (c : Int) := by omega
          clear htq hof ho hkp hx hy
          repeat (first | go_values | go_skip | go_guarded | go_step | go_upon)
          go_quiet (fail)
          repeat (first | go_values | go_skip | go_guarded | go_step | go_upon)
          obtain ⟨g, hg⟩ : ∃ g : Int → Int, (fun v => if v = max x y then min x y else v) = g := ⟨_, rfl⟩
          rw [hg] at HF
          have HGE : Hid ((fun v => if v = max x y then min x y else v) = g) := hg
          have HO3 := HO2.out
          have H3 : Hid (NumO wq w.heap.size (w.heap.size + 1) (.slice (some ⟨w.heap.size, 0, none⟩) k k) ((of.take 0).map g ++ of.drop 0)) := by show NumO _ _ _ _ _; simpa using HO3
          clear HO3 hg c0 c1 r0 r1
          go_loopw [43] (fun i wn => ∃ j : Nat, j ≤ k ∧ i = .int .i64 j ∧ NumO wn w.heap.size (w.heap.size + 1) (.slice (some ⟨w.heap.size, 0, none⟩) k k) ((of.take j).map g ++ of.drop j) ∧ Kept w wn) (fun i _ => k - (intOf i).toNat)
          case atStart => exact ⟨0, by omega, rfl, H3.out.kept (by (repeat (first | with_reducible exact But.refl _ _ _ | with_reducible apply But.drewN | with_reducible apply But.drew | with_reducible apply But.alloc))), HK2.out.trans (by (repeat (first | with_reducible exact But.refl _ _ _ | with_reducible apply But.drewN | with_reducible apply But.drew | with_reducible apply But.alloc)))⟩
          case round =>
            rename World => wn
            obtain ⟨j, hj, rfl, hoj, hkn⟩ := hrel
            have HKN : Hid (Kept w wn) := hkn
            clear hkn H3
            by_cases hjl : j < k
            · obtain ⟨e, he⟩ : ∃ e, of[j]? = some e := ⟨_, List.getElem?_eq_getElem (by omega)⟩
              have hml : ((of.take j).map g).length = j := by rw [List.length_map, List.length_take]; omega
              have hmx : ((of.take j).map g ++ of.drop j)[j]? = some e := by
                rw [List.getElem?_append_right (by omega), hml, Nat.sub_self, List.getElem?_drop]
                simpa using he
              have hll : k = ((of.take j).map g ++ of.drop j).length := by rw [List.length_append, hml, List.length_drop]; omega
              have hsu : ∀ u, u = g e → ((of.take j).map g ++ of.drop j).set j u = (of.take (j + 1)).map g ++ of.drop (j + 1) := fun u hu => by
                have hd : of.drop j = e :: of.drop (j + 1) := by
                  rw [List.drop_eq_getElem_cons (by omega)]
                  congr 1
                  have := List.getElem?_eq_getElem (l := of) (i := j) (by omega)
                  rw [he] at this
                  exact (Option.some.inj this).symm
                rw [hd, List.set_append_right _ _ (by omega), hml, Nat.sub_self, List.set_cons_zero, take_snoc he, List.map_append, hu]
                simp
              have hkeep : e = g e → (of.take j).map g ++ of.drop j = (of.take (j + 1)).map g ++ of.drop (j + 1) := fun hu => by
                rw [← hsu e hu]
                apply List.ext_getElem?
                intro m
                rw [List.getElem?_set]
                split
                · rename_i hjm; subst hjm; rw [hmx]; rw [if_pos (by rw [← hll]; exact hjl)]
                · rfl
              obtain ⟨d0, dz⟩ := hoj.cells hmx
              have dz0 := dz j
              have HS := hoj.set hll hmx (min x y)
              have HS2 : Hid (g e = min x y → NumO (wn.setCell ⟨w.heap.size, j, none⟩ (.int .i64 (min x y))) w.heap.size (w.heap.size + 1) (.slice (some ⟨w.heap.size, 0, none⟩) k k) ((of.take (j + 1)).map g ++ of.drop (j + 1))) := fun hu => by rw [← hsu _ hu.symm]; exact HS
              have HK3 : Hid (e = g e → NumO wn w.heap.size (w.heap.size + 1) (.slice (some ⟨w.heap.size, 0, none⟩) k k) ((of.take (j + 1)).map g ++ of.drop (j + 1))) := fun hu => by rw [← hkeep hu]; exact hoj
              have HEG : Hid (g e = if e = max x y then min x y else e) := by show _ = _; rw [← HGE.out]
              have z3 : (0 : Int) ≤ (j : Int) := by omega
              have z4 : (j : Int) < (k : Int) := by omega
              clear dz HS hoj hsu hkeep hmx hll hml he
              have hmn : (if y < x then y else x) = min x y := by split <;> omega
              by_cases hem : e = max x y
              · have hge : g e = min x y := by rw [HEG.out, if_pos hem]
                have HN := HS2.out hge
                rw [← hmn] at HN
                have HN2 : Hid (NumO (wn.setCell ⟨w.heap.size, j, none⟩ (.int .i64 (if y < x then y else x))) w.heap.size (w.heap.size + 1) (.slice (some ⟨w.heap.size, 0, none⟩) k k) ((of.take (j + 1)).map g ++ of.drop (j + 1))) := HN
                have hd : decide (e = max x y) = true := decide_eq_true hem
                clear HN hge hmn HS2 HK3 HEG
                repeat (first | go_values | go_skip | go_guarded | go_step | go_upon)
                exact ⟨⟨j + 1, hjl, by go_num, HN2.out, HKN.out.setNew (by simp) _⟩, by simp [intOf]; omega⟩
              · have HN2 : Hid (NumO wn w.heap.size (w.heap.size + 1) (.slice (some ⟨w.heap.size, 0, none⟩) k k) ((of.take (j + 1)).map g ++ of.drop (j + 1))) := HK3.out (by rw [HEG.out, if_neg hem])
                have hd : decide (e = max x y) = false := decide_eq_false hem
                clear hmn HS2 HK3 HEG
                repeat (first | go_values | go_skip | go_guarded | go_step | go_upon)
                exact ⟨⟨j + 1, hjl, by go_num, HN2.out, HKN.out⟩, by simp [intOf]; omega⟩
            · have hke : j = k := by omega
              subst hke
              have hfin : (of.take j).map g ++ of.drop j = mrg of a c := by rw [HF.out, ← hol, List.take_length, List.drop_length, List.append_nil]
              rw [hfin] at hoj
              have HJ : Hid (NumO wn w.heap.size (w.heap.size + 1) (.slice (some ⟨w.heap.size, 0, none⟩) j j) (mrg of a c)) := hoj
              clear hfin hoj
              repeat (first | go_values | go_skip | go_guarded | go_step | go_upon)
              exact ⟨⟨q + 1, hlt, by go_num, by rw [HM.out]; exact HJ.out, HKN.out⟩, by simp [intOf]; omega⟩
        · have hqe : q = ts.length := by omega
          subst hqe
          rw [List.take_length] at hof
          go_wp2
          go_ret
          exact ⟨_, rfl, by rw [hof]; exact RowO.low ho, hkp⟩

end Go.Proofs.Ytcbenpnnjkgkdaa
