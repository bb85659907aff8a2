/-
  IslandsOf of the program.
-/
import Derived.Test.YtcbenpnnjkgkdaaAppR10
import Derived.Deep.RegionLaw
import Derived.Deep.Cut
namespace Go.Proofs.Ytcbenpnnjkgkdaa
open Go.ChangeShapes Go.WideShapes Go.ChangeAt Go.RowKit

set_option maxRecDepth 100000
set_option linter.unusedVariables false
set_option linter.unusedSimpArgs false

theorem le_of_first {x n : Nat} (h : x ≤ n) : x ≤ n := h
set_option maxHeartbeats 8000000 in
theorem iis_good (n : Nat) (ts : List PairD) (v : Value) (w : World) (hv : PairAt w v ts) (hn40 : n ≤ 40) (ht : TieP n ts) :
    Calls Try.prog 7 #[.int .i64 (n : Int), v] w fun e w' => ∃ v', e = .returned (.tuple #[v', .bool true]) ∧ LLO w' w.heap.size w'.heap.size v' (isL (fstL (fst0 n) ts) n) ∧ Kept w w' := by
  obtain ⟨ao, cap, hsl⟩ := row_nil hv
  subst hsl
  have HV : Hid (PairAt w (.slice ao ts.length cap) ts) := hv
  have AG : Hid (Calls Try.prog 15 #[.int .i64 (n : Int), .slice ao ts.length cap] w fun e w' => e = .returned (.bool (decide (TieP n ts))) ∧ Kept w w') := igt n ts _ w hv (by have := ht.1; omega)
  have AF : Hid (∀ W, Kept w W → Calls Try.prog 16 #[.int .i64 (n : Int), .slice ao ts.length cap] W fun e w' => ∃ v', e = .returned v' ∧ NumO w' W.heap.size w'.heap.size v' (fstL (fst0 n) ts) ∧ Kept W w') := fun W k => ifirsts n ts _ W (hv.kept k) hn40 ht
  have hfk : FOk (fstL (fst0 n) ts) := fok_fst ts _ (fok0 n) (fst0_len n) (fun t h => by have := ht.2 t h; unfold TieOk at this; omega)
  have hfl : (fstL (fst0 n) ts).length = n := by rw [fstL_len, fst0_len]
  rw [decide_eq_true ht] at AG
  have HFK : Hid (FOk (fstL (fst0 n) ts)) := hfk
  clear hv ht hfk
  generalize fstL (fst0 n) ts = of at *
  have d0 : decide ((n : Int) < 0) = false := decide_eq_false (by omega)
  have d1 : decide ((40 : Int) < (n : Int)) = false := decide_eq_false (by omega)
  go_enter Try.func7, Try.ntmps7
  repeat (first | go_values | go_skip | go_guarded | go_step | go_upon)
  go_at_call 15
  refine AG.out.mono ?_
  rintro e w1 ⟨rfl, k1⟩
  have HK1 : Hid (Kept w w1) := k1
  dsimp only
  obtain ⟨i0, hi, hz0, hz1, hz2⟩ := info_parts info3
  have hmk : (Instr.makeSlice 35 (.int .i64 (n : Int)) (.int .i64 (n : Int))).run Try.prog w1 = .ok (.slice (some ⟨w1.heap.size, 0, none⟩) n n) (w1.alloc (.cells (madeCells #[.int .i64 0] (n * 1)) 3)) := by
    have := run_make (P := Try.prog) w1 35 3 i0 _ Try.underlying35 hi hz0 .i64 .i64 (n : Int) (n : Int) (by omega) (by omega) (by rw [hz2]; omega) (by omega)
    rw [this, hz1]
    simp [Value.cells]
  have hm := row_made w1 w1.heap.size 3 #[.int .i64 0] 1 (by omega) numC num0 numC_len rfl n (Nat.le_refl _) (by unfold maxLen; omega)
  have hM : NumO (w1.alloc (.cells (madeCells #[.int .i64 0] n) 3)) w1.heap.size (w1.heap.size + 1) (.slice (some ⟨w1.heap.size, 0, none⟩) n n) (List.replicate n num0) := by simpa [NumO] using hm
  have HM : Hid (NumO (w1.alloc (.cells (madeCells #[.int .i64 0] n) 3)) w1.heap.size (w1.heap.size + 1) (.slice (some ⟨w1.heap.size, 0, none⟩) n n) (List.replicate n num0)) := hM
  clear hi hz0 hz1 hz2 k1 d0 d1 hm hM AG
  repeat (first | go_values | go_skip | go_guarded | go_step | go_upon)
  go_at_call 16
  refine (AF.out _ (HK1.out.alloc _)).mono ?_
  rintro e w3 ⟨vF, rfl, oF, k3⟩
  obtain ⟨aF, cF, hfF⟩ := oF.form
  rw [hfl] at hfF
  subst hfF
  obtain ⟨bp, hbp⟩ : ∃ bp, w1.heap.size = bp := ⟨_, rfl⟩
  obtain ⟨lo0, hlo0⟩ : ∃ lo0, w3.heap.size = lo0 := ⟨_, rfl⟩
  have HPL0 : Hid (NumO w3 bp (bp + 1) (.slice (some ⟨bp, 0, none⟩) n n) (List.replicate n num0)) := by show NumO _ _ _ _ _; have := HM.out.kept k3; rwa [hbp] at this
  have hw0 : w.heap.size ≤ bp := by rw [← hbp]; exact HK1.out.size
  have hs3 := k3.size
  simp only [World.size_alloc] at hs3 oF
  have HVF0 : Hid (NumO w3 (bp + 1) lo0 (.slice aF n cF) of) := by show NumO _ _ _ _ _; rw [← hbp, ← hlo0]; exact oF
  have hlo : bp + 1 ≤ lo0 := by omega
  have HK3 : Hid (Kept w w3) := (HK1.out.alloc _).trans k3
  rw [hbp]
  clear oF k3 HM hmk AF hs3 HK1
  dsimp only
  repeat (first | go_values | go_skip | go_guarded | go_step | go_upon)
  go_loopw [6, 29] (fun s i wr => ∃ (k : Nat) (P : List Int), k ≤ n ∧ i = .int .i64 k ∧ LLO wr lo0 wr.heap.size s (isL of k) ∧ NumO wr bp (bp + 1) (.slice (some ⟨bp, 0, none⟩) n n) P ∧ (P.length = n ∧ lo0 ≤ wr.heap.size ∧ Hid (∀ r : Nat, r < k → of[r]? = some (r : Int) → P[r]? = some ((rtL of r).length : Int))) ∧ NumO wr (bp + 1) lo0 (.slice aF n cF) of ∧ Kept w wr) (fun s i _ => n - (intOf i).toNat)
  case atStart => exact ⟨0, _, by omega, rfl, nil_lists _ _ _, HPL0.out, ⟨by simp, by omega, fun r hr => by omega⟩, HVF0.out, HK3.out⟩
  case round =>
    obtain ⟨k, P, hk, rfl, hll, hpl, ⟨hpn, hws, HPI⟩, hvf, hkw⟩ := hrel
    obtain ⟨a6, c6, hf⟩ := hll.form
    subst hf
    by_cases hlt : k < n
    · obtain ⟨r, hr, hrk, hrr⟩ := HFK.out k (by omega)
      have HVF : Hid (NumO wr (bp + 1) lo0 (.slice aF n cF) of) := hvf
      obtain ⟨bF, oF, capF, eF, cf0⟩ := num_get hvf.at hr
      rw [hfl] at eF
      cases eF
      have z0 : (0 : Int) ≤ (k : Int) := by omega
      have z1 : (k : Int) < (n : Int) := by omega
      have u0 : (0 : Int) ≤ (r : Int) := by omega
      have u1 : (r : Int) < (n : Int) := by omega
      have HKW0 : Hid (Kept w wr) := hkw
      have HWS : Hid (lo0 ≤ wr.heap.size) := hws
      have hilen : (isL of k).length ≤ 40 := by
        have h1 : (rtL of k).length ≤ k := by have := List.length_filter_le (rootB of) (List.range k); rw [List.length_range] at this; exact this
        show ((rtL of k).map _).length ≤ 40
        rw [List.length_map]
        omega
      by_cases hroot : r = k
      · have hroot2 := hroot.symm
        subst hroot2
        have his := is_root HFK.out (by omega) hr
        obtain ⟨len, hlen⟩ : ∃ len, (isL of k).length = len := ⟨_, rfl⟩
        have hidx : (rtL of k).length = len := by rw [← hlen]; unfold isL; rw [List.length_map]
        obtain ⟨x, hx⟩ : ∃ x, P[k]? = some x := ⟨_, List.getElem?_eq_getElem (by omega)⟩
        obtain ⟨d9, dz⟩ := hpl.cells hx
        have dz0 := dz k
        have deq : decide ((k : Int) = (k : Int)) = true := decide_eq_true rfl
        have HP2 : Hid (NumO (wr.setCell ⟨bp, k, none⟩ (.int .i64 (len : Int))) bp (bp + 1) (.slice (some ⟨bp, 0, none⟩) n n) (P.set k (len : Int))) := hpl.set hpn.symm hx _
        have HL0 : Hid (LLO wr lo0 wr.heap.size (.slice a6 len c6) (isL of k)) := by show LLO _ _ _ _ _; rw [← hlen]; exact hll
        have HPN : Hid (∀ r' : Nat, r' < k + 1 → of[r']? = some (r' : Int) → (P.set k (len : Int))[r']? = some ((rtL of r').length : Int)) := fun r' h1 h2 => by
          rcases Nat.lt_or_ge r' k with h3 | h3
          · rw [List.getElem?_set_ne (by omega)]
            exact HPI.out r' h3 h2
          · have : r' = k := by omega
            subst this
            rw [List.getElem?_set_self (by omega), hidx]
        have HQ : Hid ((P.set k (len : Int))[k]? = some ((len : Nat) : Int)) := List.getElem?_set_self (by omega)
        have HIS : Hid (isL of (k + 1) = isL of k ++ [[(k : Int)]] ∧ (isL of k).length = len) := ⟨his, hlen⟩
        rw [hlen] at hilen ⊢
        clear hll hvf hkw hpl HPI hr hrr his hidx dz hx hlen
        repeat (first | (at_builtin; refine forgetL (fun w' => w' = _) rfl ?_) | go_values | go_skip | go_guarded | go_step | go_upon)
        intro W7 hW7
        rw [hW7]
        clear hW7 W7
        have BS : But bp (bp + 1) wr (wr.setCell ⟨bp, k, none⟩ (.int .i64 (len : Int))) := (But.refl _ _ _).setCell (by simp) (by simp) _
        have HLn := Loc.new (wr.setCell ⟨bp, k, none⟩ (.int .i64 (len : Int))) [.slice none 0 0] 35
        rw [show (wr.setCell ⟨bp, k, none⟩ (.int .i64 (len : Int))).heap.size = wr.heap.size by simp] at HLn
        refine appw_lists rfl _ _ rfl (lo := lo0) (hi0 := wr.heap.size) (mid := wr.heap.size) (fs := isL of k) (v := .slice a6 len c6) rfl ((HL0.out.but BS (.inr hlo)).kept ((But.refl _ _ _).alloc _)) (Nat.le_refl _) rfl (.slice none 0 0) [] HLn rfl (nil_num _ _ _) hws (by simp) (by rw [HIS.out.2]; omega) ?_
        intro v5 w5 hO5 hB5
        obtain ⟨rs, hns, hrs⟩ := hO5
        have hrl : rs.length = len + 1 := by have := congrArg List.length hrs; rw [List.length_map, List.length_append, HIS.out.2] at this; exact this
        have hq1 : (rs.map Prod.snd)[len]? = some [] := by rw [hrs, List.getElem?_append_right (by rw [HIS.out.2]; exact Nat.le_refl _), HIS.out.2, Nat.sub_self]; rfl
        rw [List.getElem?_map] at hq1
        obtain ⟨pq, hpq, hp2⟩ := Option.map_eq_some_iff.1 hq1
        obtain ⟨g6, cap6, hfm, _⟩ : ∃ g cap', v5 = .slice (some ⟨g, 0, none⟩) rs.length cap' ∧ True := by
          rcases hns.row.1.2 with ⟨hf, hz⟩ | ⟨g, c2, cur, hf, _⟩
          · omega
          · exact ⟨g, c2, hf, trivial⟩
        subst hfm
        have HNX : Hid ((rs.map Prod.snd).set len (pq.2 ++ [(k : Int)]) = isL of (k + 1)) := by
          show _ = _
          rw [hp2, hrs, HIS.out.1, List.set_append_right _ _ (by rw [HIS.out.2]; exact Nat.le_refl _), HIS.out.2, Nat.sub_self]
          rfl
        have HL : Hid (NumsO w5 lo0 w5.heap.size (.slice (some ⟨g6, 0, none⟩) rs.length cap6) rs) := hns
        have HRS : Hid (rs[len]? = some pq) := hpq
        have HPl : Hid (NumO w5 bp (bp + 1) (.slice (some ⟨bp, 0, none⟩) n n) (P.set k (len : Int))) := (HP2.out.kept ((But.refl _ _ _).alloc _)).but hB5 (.inl hlo)
        have HVF5 : Hid (NumO w5 (bp + 1) lo0 _ of) := ((HVF.out.but BS (.inr (Nat.le_refl _))).kept ((But.refl _ _ _).alloc _)).but hB5 (.inl (Nat.le_refl _))
        have HKW : Hid (Kept w w5) := ((HKW0.out.onto BS hw0).alloc _).onto hB5 (by omega)
        have HPL : Hid (pq.2.length ≤ 1000) := by show _ ≤ _; rw [hp2]; simp
        have HWS5 : Hid (lo0 ≤ w5.heap.size) := by have h1 := hB5.size; have h2 := HWS.out; show lo0 ≤ w5.heap.size; simp at h1; omega
        clear hns hrs hpq hp2 hq1 hrl hB5 BS HLn HVF HKW0 HL0 HP2 HIS d9 dz0 cf0
        obtain ⟨ci, fi⟩ := HL.out.cells HRS.out
        have fi0 := fi len
        obtain ⟨cp, -⟩ := HPl.out.cells HQ.out
        obtain ⟨pv, pl⟩ := pq
        dsimp only at ci
        have HI : Hid (NumO w5 lo0 w5.heap.size pv pl) := HL.out.inn len _ HRS.out
        obtain ⟨a3, p3, hs3⟩ := HI.out.form
        subst hs3
        have hgb := own_lt HL.out.row.1 (g := g6) rfl
        have hql : len < rs.length := (List.getElem?_eq_some_iff.1 HRS.out).1
        have y0 : (0 : Int) ≤ (len : Int) := by omega
        have y1 : (len : Int) < (rs.length : Int) := by omega
        clear fi
        repeat (first | (at_builtin; refine forgetL (fun w' => w' = _) rfl ?_) | go_values | go_skip | go_guarded | go_step | go_upon)
        intro W7 hW7
        rw [hW7]
        clear hW7 W7
        have L1 := Loc.new w5 [.int .i64 (k : Int)] 3
        have HI1 : NumO (w5.alloc (.cells #[.int .i64 (k : Int)] 3)) lo0 w5.heap.size (.slice a3 pl.length p3) pl := HI.out.kept ((But.refl _ _ _).alloc _)
        refine app1_num rfl _ _ rfl (lo := lo0) (ps := pl) rfl HI1 (k : Int) rfl L1 (by have : pl.length ≤ 1000 := HPL.out; omega) (by simp; omega) ?_
        intro v7 w7 hO7 hB7 hown7
        obtain ⟨a7, c7, hf7⟩ := hO7.form
        subst hf7
        have HRS2 := NumsO.reset (HL.out.kept ((But.refl _ _ w5).alloc (.cells #[.int .i64 (k : Int)] 3))) rfl (by simp) HRS.out hB7 hO7 hown7
        have hBin := But.inner hB7 HI1
        have hrow := RowO.apart (HL.out.kept ((But.refl _ _ w5).alloc (.cells #[.int .i64 (k : Int)] 3))).row hB7 (ap_types (HL.out.kept ((But.refl _ _ w5).alloc (.cells #[.int .i64 (k : Int)] 3))).row HI1 (by decide))
        obtain ⟨hc9, hf9⟩ := own_get 1 numsC numsC_len (by omega) hrow HRS.out
        have c27 : w7.cell? ⟨g6, len, none⟩ = some (.slice a3 pl.length p3) := by have := hc9 0 _ rfl; simpa using this
        have f27 : w7.frozen? ⟨g6, len, none⟩ = false := hf9 _
        have HR7 : Hid (NumsO (w7.setCell ⟨g6, len, none⟩ (.slice a7 (pl ++ [(k : Int)]).length c7)) lo0 w7.heap.size (.slice (some ⟨g6, 0, none⟩) rs.length cap6) (rs.set len (.slice a7 (pl ++ [(k : Int)]).length c7, pl ++ [(k : Int)]))) := HRS2
        have B9 : But lo0 w5.heap.size w5 (w7.setCell ⟨g6, len, none⟩ (.slice a7 (pl ++ [(k : Int)]).length c7)) := (((But.refl _ _ w5).alloc _).trans hBin).setCell (show lo0 ≤ g6 from hgb.1) (show g6 < w5.heap.size from hgb.2) _
        have HB9 : Hid (But lo0 w5.heap.size w5 (w7.setCell ⟨g6, len, none⟩ (.slice a7 (pl ++ [(k : Int)]).length c7))) := B9
        clear HRS2 hBin hB7 hO7 hown7 L1 HI1 hc9 hf9 hrow ci cp B9
        repeat (first | go_values | go_skip | go_guarded | go_step | go_upon)
        refine ⟨⟨k + 1, P.set k (len : Int), hlt, by go_num, ⟨_, (by simpa [World.setCell] using HR7.out), ?_⟩, by simpa using HPl.out.but HB9.out (.inl (by omega)), ⟨by rw [List.length_set]; exact hpn, by have h1 := HB9.out.size; have h2 := HWS5.out; simp at h1 h2 ⊢; omega, HPN.out⟩, by simpa using HVF5.out.but HB9.out (.inl (by omega)), by simpa using HKW.out.onto HB9.out (by omega)⟩, by simp [intOf]; omega⟩
        rw [List.map_set]
        exact HNX.out
      · have hrlt : r < k := by omega
        obtain ⟨hm1, hm2⟩ := is_more hr hrlt hrr
        have dne : ((k : Int) == (r : Int)) = false := by rw [beq_eq_false_iff_ne]; omega
        have dne2 : decide ((k : Int) = (r : Int)) = false := decide_eq_false (by omega)
        obtain ⟨rs, hns, hrs⟩ := hll
        have hrl : (isL of k).length = rs.length := by rw [← hrs, List.length_map]
        rw [hrl] at hns ⊢
        obtain ⟨q, hq⟩ : ∃ q, (rtL of r).length = q := ⟨_, rfl⟩
        rw [hq] at hm1 hm2
        have hPr := HPI.out r hrlt hrr
        rw [hq] at hPr
        rw [← hrs, List.getElem?_map] at hm1
        obtain ⟨pq, hpq, hp2⟩ := Option.map_eq_some_iff.1 hm1
        obtain ⟨g6, cap6, hfm, _⟩ : ∃ g cap', Value.slice a6 rs.length c6 = .slice (some ⟨g, 0, none⟩) rs.length cap' ∧ True := by
          rcases hns.row.1.2 with ⟨hf, hz⟩ | ⟨g, c2, cur, hf, _⟩
          · have h9 := (List.getElem?_eq_some_iff.1 hpq).1; injection hf with _ h2 _; omega
          · exact ⟨g, c2, hf, trivial⟩
        cases hfm
        have HNX : Hid ((rs.map Prod.snd).set q (pq.2 ++ [(k : Int)]) = isL of (k + 1)) := by show _ = _; rw [hp2, hrs]; exact hm2.symm
        have HL : Hid (NumsO wr lo0 wr.heap.size (.slice (some ⟨g6, 0, none⟩) rs.length c6) rs) := hns
        have HRS : Hid (rs[q]? = some pq) := hpq
        have HPl : Hid (NumO wr bp (bp + 1) (.slice (some ⟨bp, 0, none⟩) n n) P) := hpl
        have HQ : Hid (P[r]? = some (q : Int)) := hPr
        have HKW : Hid (Kept w wr) := hkw
        have HPL : Hid (pq.2.length ≤ 1000) := by
          show _ ≤ _
          rw [hp2]
          unfold meL
          rw [List.length_map]
          have := List.length_filter_le (fun j => of[j]? == some (r : Int)) (List.range k)
          rw [List.length_range] at this
          omega
        have HPN : Hid (∀ r' : Nat, r' < k + 1 → of[r']? = some (r' : Int) → P[r']? = some ((rtL of r').length : Int)) := fun r' h1 h2 => HPI.out r' (by
          rcases Nat.lt_or_ge r' k with h3 | h3
          · exact h3
          · have : r' = k := by omega
            subst this
            rw [hr] at h2
            have := Option.some.inj h2
            omega) h2
        clear hvf hkw hns hrs hpq hp2 hm1 hm2 hPr hpl HPI hrl hq hr hrr HKW0 hilen
        obtain ⟨ci, fi⟩ := HL.out.cells HRS.out
        have fi0 := fi q
        obtain ⟨cp, -⟩ := HPl.out.cells HQ.out
        obtain ⟨pv, pl⟩ := pq
        dsimp only at ci
        have HI : Hid (NumO wr lo0 wr.heap.size pv pl) := HL.out.inn q _ HRS.out
        obtain ⟨a3, p3, hs3⟩ := HI.out.form
        subst hs3
        have hgb := own_lt HL.out.row.1 (g := g6) rfl
        have hql : q < rs.length := (List.getElem?_eq_some_iff.1 HRS.out).1
        have y0 : (0 : Int) ≤ (q : Int) := by omega
        have y1 : (q : Int) < (rs.length : Int) := by omega
        clear fi
        repeat (first | (at_builtin; refine forgetL (fun w' => w' = _) rfl ?_) | go_values | go_skip | go_guarded | go_step | go_upon)
        intro W7 hW7
        rw [hW7]
        clear hW7 W7
        have L1 := Loc.new wr [.int .i64 (k : Int)] 3
        have HI1 : NumO (wr.alloc (.cells #[.int .i64 (k : Int)] 3)) lo0 wr.heap.size (.slice a3 pl.length p3) pl := HI.out.kept ((But.refl _ _ _).alloc _)
        refine app1_num rfl _ _ rfl (lo := lo0) (ps := pl) rfl HI1 (k : Int) rfl L1 (by have : pl.length ≤ 1000 := HPL.out; omega) (by simp; omega) ?_
        intro v7 w7 hO7 hB7 hown7
        obtain ⟨a7, c7, hf7⟩ := hO7.form
        subst hf7
        have HRS2 := NumsO.reset (HL.out.kept ((But.refl _ _ wr).alloc (.cells #[.int .i64 (k : Int)] 3))) rfl (by simp) HRS.out hB7 hO7 hown7
        have hBin := But.inner hB7 HI1
        have hrow := RowO.apart (HL.out.kept ((But.refl _ _ wr).alloc (.cells #[.int .i64 (k : Int)] 3))).row hB7 (ap_types (HL.out.kept ((But.refl _ _ wr).alloc (.cells #[.int .i64 (k : Int)] 3))).row HI1 (by decide))
        obtain ⟨hc9, hf9⟩ := own_get 1 numsC numsC_len (by omega) hrow HRS.out
        have c27 : w7.cell? ⟨g6, q, none⟩ = some (.slice a3 pl.length p3) := by have := hc9 0 _ rfl; simpa using this
        have f27 : w7.frozen? ⟨g6, q, none⟩ = false := hf9 _
        have HR7 : Hid (NumsO (w7.setCell ⟨g6, q, none⟩ (.slice a7 (pl ++ [(k : Int)]).length c7)) lo0 w7.heap.size (.slice (some ⟨g6, 0, none⟩) rs.length c6) (rs.set q (.slice a7 (pl ++ [(k : Int)]).length c7, pl ++ [(k : Int)]))) := HRS2
        have B9 : But lo0 wr.heap.size wr (w7.setCell ⟨g6, q, none⟩ (.slice a7 (pl ++ [(k : Int)]).length c7)) := (((But.refl _ _ wr).alloc _).trans hBin).setCell (show lo0 ≤ g6 from hgb.1) (show g6 < wr.heap.size from hgb.2) _
        have HB9 : Hid (But lo0 wr.heap.size wr (w7.setCell ⟨g6, q, none⟩ (.slice a7 (pl ++ [(k : Int)]).length c7))) := B9
        clear HRS2 hBin hB7 hO7 hown7 L1 HI1 hc9 hf9 hrow ci cp B9
        repeat (first | go_values | go_skip | go_guarded | go_step | go_upon)
        refine ⟨⟨k + 1, P, hlt, by go_num, ⟨_, (by simpa [World.setCell] using HR7.out), ?_⟩, by simpa using HPl.out.but HB9.out (.inl (by omega)), ⟨hpn, by have h1 := HB9.out.size; have h2 := HWS.out; simp at h1 h2 ⊢; omega, HPN.out⟩, by simpa using HVF.out.but HB9.out (.inl (by omega)), by simpa using HKW.out.onto HB9.out (by omega)⟩, by simp [intOf]; omega⟩
        rw [List.map_set]
        exact HNX.out
    · have hke : k = n := by omega
      rw [hke] at hll
      have HLL : Hid (LLO wr lo0 wr.heap.size (.slice a6 (isL of n).length c6) (isL of n)) := hll
      have HKW : Hid (Kept w wr) := hkw
      rw [hke]
      clear hll hkw hpl hvf HPI
      repeat (first | go_values | go_skip | go_guarded | go_step | go_upon)
      go_ret2
      exact ⟨_, rfl, HLL.out.mono (by omega) (Nat.le_refl _), HKW.out⟩

end Go.Proofs.Ytcbenpnnjkgkdaa
