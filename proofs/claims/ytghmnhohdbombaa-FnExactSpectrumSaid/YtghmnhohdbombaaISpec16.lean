/-
  The spectrum: the program.
-/
import Derived.Test.YtghmnhohdbombaaISum16
import Derived.Test.YtghmnhohdbombaaReal16
namespace Go.Proofs.Ytghmnhohdbombaa
open Go.ChangeShapes Go.WideShapes Go.ChangeAt Go.RowKit Ieee
set_option maxRecDepth 100000
set_option linter.unusedVariables false

theorem info_tn : (Try.prog.info? 55).map (fun i => (i.zero, i.size, i.bytes)) = some (some (.agg #[.float .f64 0, .float .f64 0]), 2, 16) := by kernel_rfl
def SpAns (R : List TnD × Bool) (w : World) (e : Ending) (w' : World) : Prop := ∃ v', e = .returned (.tuple #[v', .bool R.2]) ∧ TnO w' w.heap.size w'.heap.size v' R.1 ∧ Kept w w'
theorem TnO.nil {w : World} {lo hi : Nat} : TnO w lo hi (.slice none 0 0) [] := ⟨⟨rfl, .inl ⟨rfl, rfl⟩⟩, fun g hg => by simp [Value.ownBlock] at hg⟩
theorem fillt_get (q : List TnD) (n k : Nat) (h : q.length = k) (hk : k < n) : (q ++ List.replicate (n - k) tn0)[k]? = some tn0 := by
  rw [List.getElem?_append_right (by omega), List.getElem?_replicate, if_pos (by omega)]
theorem fillt_set (q : List TnD) (n k : Nat) (y : TnD) (h : q.length = k) (hk : k < n) : (q ++ List.replicate (n - k) tn0).set k y = (q ++ [y]) ++ List.replicate (n - (k + 1)) tn0 := by
  rw [List.set_append_right _ _ (by omega), h, Nat.sub_self, show n - k = (n - (k + 1)) + 1 by omega, List.replicate_succ, List.set_cons_zero, List.append_assoc]
  rfl
theorem fillt_len (q : List TnD) (n k : Nat) (h : q.length = k) (hk : k ≤ n) : (q ++ List.replicate (n - k) tn0).length = n := by simp; omega
theorem mk_tn (W : World) : (Instr.makeSlice 45 (.int .i64 8) (.int .i64 8)).run Try.prog W = .ok (.slice (some ⟨W.heap.size, 0, none⟩) 8 8) (W.alloc (.cells (madeCells #[.float .f64 0, .float .f64 0] (8 * 2)) 55)) := by
  obtain ⟨i0, hi, hz0, hz1, hz2⟩ := info_parts info_tn
  have := run_make (P := Try.prog) W 45 55 i0 _ Try.underlying45 hi hz0 .i64 .i64 8 8 (by omega) (by omega) (by rw [hz2]; omega) (by omega)
  rw [this, hz1]
  rfl
theorem made_tn (W : World) : TnO (W.alloc (.cells (madeCells #[.float .f64 0, .float .f64 0] (8 * 2)) 55)) W.heap.size (W.heap.size + 1) (.slice (some ⟨W.heap.size, 0, none⟩) 8 8) (List.replicate 8 tn0) := by
  have hm := row_made W W.heap.size 55 #[.float .f64 0, .float .f64 0] 2 (by omega) tnC tn0 tnC_len rfl 8 (Nat.le_refl _) (by unfold maxLen; omega)
  simpa [TnO] using hm

set_option maxHeartbeats 16000000 in
theorem ispec (xs : List Nat) (R : List TnD × Bool) (hR : SpecRes xs R) (v : Value) (w : World) (hv : FltAt w v xs) (hx : ∀ p ∈ xs, p < 18446744073709551616) (hn : xs.length ≤ 1048576) :
    Calls Try.prog 23 #[v] w (SpAns R w) := by
  have HRES : Hid (SpecRes xs R) := hR
  clear hR
  obtain ⟨ao, cap, hsl⟩ := row_nil hv
  subst hsl
  have HV : Hid (FltAt w (.slice ao xs.length cap) xs) := hv
  clear hv
  by_cases h8 : xs.length ≠ 8
  · have d8 : ((xs.length : Int) != 8) = true := by simp; omega
    have HNO : Hid (¬SpecP xs) := fun h => h8 h.1
    go_enter Try.func23, Try.ntmps23
    repeat (first | go_values | go_skip | go_guarded | go_step | go_upon)
    go_returns
    rw [HRES.out.2 (HNO.out)]
    exact ⟨.slice none 0 0, rfl, TnO.nil, But.refl _ _ _⟩
  have h8 : xs.length = 8 := Decidable.not_not.1 h8
  have HV8 := HV.out
  rw [h8] at HV8 ⊢
  have HV : Hid (FltAt w (.slice ao 8 cap) xs) := HV8
  have H8 : Hid (xs.length = 8) := h8
  clear HV8 h8
  go_enter Try.func23, Try.ntmps23
  repeat (first | go_values | go_skip | go_guarded | go_step | go_upon)
  go_at_call 46
  refine (igoodR xs _ _ HV.out hx hn).mono ?_
  rintro e u1 ⟨rfl, k1⟩
  have HK1 : Hid (Kept w u1) := k1
  clear k1
  cases hgr : goodR xs with
  | false =>
    have HNO : Hid (¬SpecP xs) := fun h => by have := h.2.1; rw [hgr] at this; cases this
    clear hgr
    dsimp only
    repeat (first | go_values | go_skip | go_guarded | go_step | go_upon)
    go_returns
    rw [HRES.out.2 (HNO.out)]
    exact ⟨.slice none 0 0, rfl, TnO.nil, HK1.out⟩
  | true =>
    have HGR : Hid (goodR xs = true) := hgr
    clear hgr
    dsimp only
    obtain ⟨W4, hW4⟩ : ∃ W, W = u1.alloc (.cells (madeCells #[.float .f64 0, .float .f64 0] (8 * 2)) 55) := ⟨_, rfl⟩
    have hmk := mk_tn u1
    have hm := made_tn u1
    have k4 : Kept u1 W4 := by rw [hW4]; exact (But.refl _ _ _).alloc _
    have s4 : W4.heap.size = u1.heap.size + 1 := by rw [hW4]; simp
    rw [← hW4] at hmk hm
    have HRow : Hid (TnO W4 u1.heap.size (u1.heap.size + 1) (.slice (some ⟨u1.heap.size, 0, none⟩) 8 8) (List.replicate 8 tn0)) := hm
    have HK4 : Hid (Kept w W4) := HK1.out.trans k4
    have s1 := HK1.out.size
    obtain ⟨B, hB⟩ : ∃ B, u1.heap.size = B := ⟨_, rfl⟩
    rw [hB] at hmk HRow s4 s1
    clear hm k4 hW4
    repeat (first | go_values | go_skip | go_guarded | go_step | go_upon)
    clear hmk
    go_loopw [19] (fun i wr => ∃ (k : Nat), k ≤ 8 ∧ i = .int .i64 k ∧ Hid (TnO wr B (B + 1) (.slice (some ⟨B, 0, none⟩) 8 8) (specL xs k ++ List.replicate (8 - k) tn0)) ∧ Hid (∀ j, j < k → (specK xs j).2.2 = true) ∧ Hid (Kept w wr) ∧ B < wr.heap.size) (fun i _ => 8 - (intOf i).toNat)
    case atStart => exact ⟨0, by omega, rfl, HRow, (fun j hj => by omega : ∀ j, j < 0 → (specK xs j).2.2 = true), HK4, by omega⟩
    case round =>
      obtain ⟨k, hk, rfl, HRow, HO, HKr, hBr⟩ := hrel
      by_cases hlt : k < 8
      · have d1 : decide ((k : Int) < 8) = true := by simp; omega
        have x1 : (0 : Int) ≤ (k : Int) := by omega
        have x2 : (k : Int) < 8 := by omega
        have HNO : Hid ((specK xs k).2.2 = false → ¬SpecP xs) := fun h hp => by
          have := hp.2.2 k hlt
          rw [h] at this
          cases this
        repeat (first | go_values | go_skip | go_guarded | go_step | go_upon)
        go_at_call 56
        refine (isum xs k _ _ (HV.out.kept HKr.out) (by omega) (by rw [H8.out]; omega)).mono ?_
        rintro e u6 ⟨re, im, rfl, hre, him, lre, lim, k6⟩
        have hsk : turnM re im = specK xs k := turnM_of hre him
        have HRow : Hid (TnO u6 B (B + 1) (.slice (some ⟨B, 0, none⟩) 8 8) (specL xs k ++ List.replicate (8 - k) tn0)) := HRow.out.kept k6
        have HKr : Hid (Kept w u6) := HKr.out.trans k6
        have s6 := k6.size
        clear hre him k6
        dsimp only
        repeat (first | go_values | go_skip | go_guarded | go_step | go_upon)
        go_at_call 55
        refine (turnOf re im lre lim _).mono ?_
        rintro e u7 ⟨rfl, hu7⟩
        rw [hsk] at hu7 ⊢
        have k7 : Kept u6 u7 := by rw [hu7]; exact (But.refl _ _ _).alloc _
        have HRow : Hid (TnO u7 B (B + 1) (.slice (some ⟨B, 0, none⟩) 8 8) (specL xs k ++ List.replicate (8 - k) tn0)) := HRow.out.kept k7
        have HKr : Hid (Kept w u7) := HKr.out.trans k7
        have s7 := k7.size
        clear hu7 hsk k7
        obtain ⟨⟨a9, b9, ok9⟩, hq⟩ : ∃ q, specK xs k = q := ⟨_, rfl⟩
        have HQ : Hid (specK xs k = (a9, b9, ok9)) := hq
        rw [hq]
        clear hq
        cases ok9 with
        | false =>
          have HNO2 : Hid (¬SpecP xs) := HNO.out (by rw [HQ.out])
          dsimp only
          repeat (first | go_values | go_skip | go_guarded | go_step | go_upon)
          go_returns
          rw [HRES.out.2 (HNO2.out)]
          exact ⟨.slice none 0 0, rfl, TnO.nil, by (repeat (first | with_reducible exact HKr.out | with_reducible apply But.drewN | with_reducible apply But.drew | with_reducible apply But.alloc | (with_reducible refine But.setNew ?_ (by simp; try omega) _)))⟩
        | true =>
          obtain ⟨d0, d1', dz⟩ := (HRow.out.kept ((But.refl _ _ _).alloc (.cells #[.float .f64 a9, .float .f64 b9] 55))).cells (fillt_get _ 8 k (specL_len xs k) hlt)
          have dz0 := dz (k * 2)
          have dz1 := dz (k * 2 + 1)
          obtain ⟨e1, d9⟩ := (HRow.out.kept ((But.refl _ _ _).alloc (.cells #[.float .f64 a9, .float .f64 b9] 55))).store (fillt_len _ 8 k (specL_len xs k) (by omega)).symm (fillt_get _ 8 k (specL_len xs k) hlt) (a9, b9)
          rw [fillt_set _ 8 k (a9, b9) (specL_len xs k) hlt] at d9
          have HD9 : Hid _ := d9
          clear d9 dz
          dsimp only
          repeat (first | go_values | go_skip | go_guarded | go_step | go_upon)
          refine ⟨⟨k + 1, hlt, by go_num, ?_, ?_, ((HKr.out.alloc _).setNew (by simp; omega) _).setNew (by simp; omega) _, by simp; omega⟩, by simp [intOf]; omega⟩
          · show TnO _ B (B + 1) _ (specL xs (k + 1) ++ _)
            rw [specL_succ, HQ.out]
            exact HD9.out
          · show ∀ j, j < k + 1 → (specK xs j).2.2 = true
            intro j hj
            by_cases e : j = k
            · subst e; rw [HQ.out]
            · exact HO.out j (by omega)
      · have hke : k = 8 := by omega
        subst hke
        have HP : Hid (SpecP xs) := ⟨H8.out, HGR.out, HO.out⟩
        repeat (first | go_values | go_skip | go_guarded | go_step | go_upon)
        go_returns
        rw [HRES.out.1 HP.out]
        exact ⟨_, rfl, by
          have h := HRow.out
          simp only [Nat.sub_self, List.replicate_zero, List.append_nil] at h
          exact (h.mono (by omega) (Nat.le_refl _)).low, HKr.out⟩

end Go.Proofs.Ytghmnhohdbombaa
