/-
  What MeanOfPresent answers, in the program and in its specification: the same at every row of floats, up to which NaN.
-/
import Derived.Test.YthbhoppmdcfgeaaCopy
namespace Go.Proofs.Ythbhoppmdcfgeaa
open Go.ChangeShapes Go.WideShapes Go.ChangeAt Go.RowKit Ieee

def there (xs : List Nat) : List Nat := xs.filter fun x => !nanB x
theorem there_snoc (xs : List Nat) (x : Nat) : there (xs ++ [x]) = if nanB x then there xs else there xs ++ [x] := by
  simp only [there, List.filter_append]
  cases h : nanB x <;> simp [h]
theorem there_len (xs : List Nat) (k : Nat) : (there (xs.take k)).length ≤ xs.length := by
  have h1 : (there (xs.take k)).length ≤ (xs.take k).length := List.length_filter_le _ _
  have h2 : (xs.take k).length ≤ xs.length := by rw [List.length_take]; omega
  omega
theorem there_step (xs : List Nat) (k : Nat) (h : k < xs.length) : there (xs.take (k + 1)) = if nanB (xs.getD k 0) then there (xs.take k) else there (xs.take k) ++ [xs.getD k 0] := by
  rw [take_succ' xs k h, there_snoc]

def meanQ (ys : List Nat) : Option Nat := (opN .quo (some (sumM ys).1) (nrm (floatOfInt .f64 (ys.length : Int)))).map plain
def meanM (xs : List Nat) : Option Nat × Nat × Bool :=
  if xs.length ≤ 64 && (sumM (there xs)).2 && !(there xs).isEmpty then (meanQ (there xs), (there xs).length, true) else (some 0, 0, false)
def MeanAns (xs : List Nat) (e : Ending) : Prop := ∃ r, e = .returned (.tuple #[.float .f64 r, .int .i64 (meanM xs).2.1, .bool (meanM xs).2.2]) ∧ nrm r = (meanM xs).1

theorem nrm_plain (x : Nat) : nrm (plain x) = (nrm x).map plain := by
  unfold nrm
  cases hn : nanB x
  · have : nanB (plain x) = false := by
      unfold plain
      cases hz : zeroB x
      · exact hn
      · rfl
    simp [this]
  · have hz : zeroB x = false := by simp [nanB, zeroB] at *; omega
    have e : plain x = x := by simp [plain, hz]
    rw [e, hn]; rfl

/-- A row that the call owns, of floats. -/
def Own (B : Nat) (wr : World) (v : Value) (ys : List Nat) : Prop := wr.ownsRow B 25 1 v ys.length (ys.map (Value.float .f64))

theorem own_form {B : Nat} {wr : World} {v : Value} {ys : List Nat} (h : Own B wr v ys) : ∃ ao cap, v = .slice ao ys.length cap ∧ FRow wr ao ys := by
  rcases h.2 with ⟨rfl, h0⟩ | ⟨g, cap, cur, rfl, _⟩
  · refine ⟨none, 0, by rw [h0], fun i hi => by omega⟩
  · refine ⟨some ⟨g, 0, none⟩, cap, rfl, fun i hi => ⟨g, 0, rfl, ?_⟩⟩
    have := World.ownsRow.cellAt h i (by omega)
    rw [Nat.zero_add, this, List.getElem?_map, List.getD_eq_getElem?_getD, List.getElem?_eq_getElem hi]
    rfl
theorem wide_iff (xs : List Nat) : Wide xs ↔ ∀ x ∈ xs, x < 18446744073709551616 := by
  constructor
  · intro h x hx
    obtain ⟨i, hi, rfl⟩ := List.getElem_of_mem hx
    have := h i hi
    rwa [List.getD_eq_getElem?_getD, List.getElem?_eq_getElem hi] at this
  · intro h i hi
    rw [List.getD_eq_getElem?_getD, List.getElem?_eq_getElem hi]
    exact h _ (List.getElem_mem hi)
theorem wide_there {xs : List Nat} (h : Wide xs) : Wide (there xs) :=
  (wide_iff _).2 fun x hx => (wide_iff xs).1 h x (List.mem_filter.1 hx).1
theorem news_cell (w : World) (x : Nat) : ∀ (j : Nat) (u : Value), [Value.float .f64 x][j]? = some u → (w.alloc (.cells #[.float .f64 x] 25)).cell? ((⟨w.heap.size, 0, none⟩ : Addr).add j) = some u := by
  intro j u hj
  match j, hj with
  | 0, hj => simp at hj; subst hj; simp [Addr.add]
theorem news_one (x : Nat) : ∀ u, u ∈ [Value.float .f64 x] → u.oneCell' = true := by
  intro u hu; simp at hu; subst hu; rfl
theorem own_step {B : Nat} {w wr w1 : World} {v v' : Value} {ys : List Nat} {x : Nat} (hB : B = w.heap.size) (hk : Kept w wr) (ho : Own B wr v ys)
    (h1 : w1.ownsRow B 25 1 v' (ys.length + 1) (ys.map (Value.float .f64) ++ [.float .f64 x])) (hg : (wr.alloc (.cells #[.float .f64 x] 25)).grownBy w1 v.ownBlock) :
    Own B w1 v' (ys ++ [x]) ∧ Kept w w1 := by
  subst hB
  refine ⟨by unfold Own; simpa using h1, ?_⟩
  refine Kept.grownBy (hk.trans (Kept.of ((Grown.refl wr).alloc _ _))) hg ?_
  intro k hk'
  exact (World.ownsRow.lt ho k hk').1
theorem sum_nrm (ys : List Nat) : nrm (sumM ys).1 = some (sumM ys).1 := by
  unfold sumM
  split
  · rename_i h
    simp only [Bool.and_eq_true] at h
    have h3 := h.2
    cases ha : accO ys with
    | none => rw [ha] at h3; cases h3
    | some r =>
      rw [ha] at h3
      have hr : fin r = true := h3
      show nrm (plain r) = some (plain r)
      rw [nrm_plain, nrm_fin hr]; rfl
  · rfl
theorem sum_zero (ys : List Nat) (h : (sumM ys).2 = false) : sumM ys = (0, false) := by
  unfold sumM at *
  split <;> simp_all

set_option maxHeartbeats 2000000 in
theorem specMean (ao : Option Addr) (cap : Nat) (xs : List Nat) (w : World) (hw : FRow w ao xs) (hx : Wide xs) (hl : xs.length ≤ 1048576) :
    Calls Try.prog 26 #[.slice ao xs.length cap] w fun e w' => MeanAns xs e ∧ Kept w w' := by
  obtain ⟨i0, hi, hz0, hz1, hz2⟩ := info_parts info25
  by_cases h64 : xs.length ≤ 64
  · go_enter Try.func26, Try.ntmps26
    go_wp2
    
    go_loopw [5, 15] (fun v i wr => ∃ k : Nat, k ≤ xs.length ∧ i = .int .i64 k ∧ Own w.heap.size wr v (there (xs.take k)) ∧ (there (xs.take k)).all good = true ∧ Kept w wr) (fun _ i _ => xs.length - (intOf i).toNat)
    case atStart => exact ⟨0, by omega, rfl, World.ownsRow_nil _ _ _ _, rfl, Kept.refl w⟩
    case round =>
      obtain ⟨k, hk, rfl, hown, hall, hkp⟩ := hrel
      by_cases hkl : k < xs.length
      · obtain ⟨ab, off, rfl, hc⟩ := hw k hkl
        have hc' := hkp.cell hc
        have hxk := hx k hkl
        have hst := there_step xs k hkl
        have hln := there_len xs k
        have hmem : xs.getD k 0 ∈ xs := by
          rw [List.getD_eq_getElem?_getD, List.getElem?_eq_getElem hkl]; exact List.getElem_mem hkl
        generalize hxv : xs.getD k 0 = x at *
        generalize hys : there (xs.take k) = ys at *
        clear hxv hys hc
        cases hn : nanB x
        · have HST : Hid (there (xs.take (k + 1)) = ys ++ [x]) := by rw [hst, hn]; rfl
          clear hst
          cases hg : good x
          · have hbad : (there xs).all good = false := by
              rw [List.all_eq_false]
              exact ⟨x, List.mem_filter.2 ⟨hmem, by simp [hn]⟩, by simp [hg]⟩
            have hs0 : (sumM (there xs)).2 = false := by simp [sumM, hbad]
            go_wp2_with (first
              | (go_at_call 51; refine (isNaN x _).mono ?_; rw [hn]; rintro e w' ⟨rfl, rfl⟩)
              | (go_at_call 21; refine (specGood x hxk _).mono ?_; rw [hg]; rintro e w' ⟨rfl, rfl⟩))
            go_returns
            exact ⟨⟨0, by simp [meanM, hs0], by simp [meanM, hs0, nrm, nanB]⟩, hkp⟩
          · skip
            go_wp2_with (first
              | (go_at_call 51; refine (isNaN x _).mono ?_; rw [hn]; rintro e w' ⟨rfl, rfl⟩)
              | (go_at_call 21; refine (specGood x hxk _).mono ?_; rw [hg]; rintro e w' ⟨rfl, rfl⟩)
              | (at_builtin; refine wpList_append_own _ rfl _ _ 23 rfl w.heap.size 25 i0 (.float .f64 0) 1 8 Try.underlying23 hi hz0 hz1 hz2 rfl (by decide) _ _ _ rfl (World.ownsRow.alloc hown _) ⟨_, 0, none⟩ 1 1 [.float .f64 x] rfl rfl (news_cell _ x) (news_one x) (by unfold maxLen; omega) (by omega) (by have := hkp.2; simp; omega) ?_; intro v' w1 hown' hgrow _))
            have R := own_step rfl hkp hown hown' hgrow
            clear hown' hgrow
            have hst' : there (xs.take (k + 1)) = ys ++ [x] := HST
            refine ⟨⟨k + 1, hkl, by go_num, by rw [hst']; exact R.1, by rw [hst', List.all_append, hall]; simp [hg], R.2⟩, by simp [intOf]; omega⟩
        · have hst' : there (xs.take (k + 1)) = ys := by rw [hst, hn]; rfl
          clear hst
          have HST : Hid (there (xs.take (k + 1)) = ys) := hst'
          clear hst'
          go_wp2_with (go_at_call 51; refine (isNaN x _).mono ?_; rw [hn]; rintro e w' ⟨rfl, rfl⟩)
          have hst' : there (xs.take (k + 1)) = ys := HST
          refine ⟨⟨k + 1, hkl, by go_num, by rw [hst']; exact hown, by rw [hst']; exact hall, hkp⟩, by simp [intOf]; omega⟩
      · have hke : k = xs.length := by omega
        subst hke
        rw [List.take_length] at hown hall
        have hwy := wide_there hx
        have hly : (there xs).length ≤ xs.length := List.length_filter_le _ _
        obtain ⟨ao', cap', rfl, hfr⟩ := own_form hown
        clear hown
        have hu3 := Try.underlying3
        have hu25 := Try.underlying25
        go_wp2_with fail
        go_at_call 15; refine (specSum ao' cap' (there xs) _ hfr hwy (by omega)).mono ?_; rintro e w1 ⟨rfl, n1, rfl⟩
        cases hs : (sumM (there xs)).2
        · go_wp2
          go_returns
          exact ⟨⟨0, by simp [meanM, hs], by simp [meanM, hs, nrm, nanB]⟩, hkp.drewN n1⟩
        · by_cases hz : (there xs).length = 0
          · have hemp : (there xs).isEmpty = true := by simpa using hz
            go_wp2
            go_returns
            exact ⟨⟨0, by simp [meanM, hemp], by simp [meanM, hemp, nrm, nanB]⟩, hkp.drewN n1⟩
          · have hemp : (there xs).isEmpty = false := by simpa using hz
            have hzI : ((there xs).length : Int) ≠ 0 := by omega
            go_wp2_with (first | (go_at_call 42; refine (l2Plain _ _).mono ?_; rintro e w' ⟨rfl, rfl⟩))
            go_returns
            refine ⟨⟨plain (fop .quo ((tok wr).adv n1) (sumM (there xs)).1 (floatOfInt .f64 ((there xs).length : Int))), ?_, ?_⟩, hkp.drewN _⟩
            · simp [meanM, h64, hs, hemp]
            · rw [nrm_plain, nrm_fop, sum_nrm]
              simp [meanM, h64, hs, hemp, meanQ]
  · go_enter Try.func26, Try.ntmps26
    go_wp2
    go_returns
    exact ⟨⟨0, by simp [meanM, h64], by simp [meanM, h64, nrm, nanB]⟩, Kept.refl w⟩
set_option maxHeartbeats 2000000 in
theorem implMean (ao : Option Addr) (cap : Nat) (xs : List Nat) (w : World) (hw : FRow w ao xs) (hx : Wide xs) (hl : xs.length ≤ 1048576) :
    Calls Try.prog 27 #[.slice ao xs.length cap] w fun e w' => MeanAns xs e ∧ Kept w w' := by
  obtain ⟨i0, hi, hz0, hz1, hz2⟩ := info_parts info25
  have hmk : (Instr.makeSlice 23 (.int .i64 0) (.int .i64 (xs.length : Int))).run Try.prog w = .ok (.slice (some ⟨w.heap.size, 0, none⟩) 0 xs.length) (w.alloc (.cells (madeCells #[.float .f64 0] xs.length) 25)) := by
    have := run_make (P := Try.prog) w 23 25 i0 (.float .f64 0) Try.underlying23 hi hz0 .i64 .i64 0 (xs.length : Int) (by omega) (by omega) (by rw [hz2]; omega) (by omega)
    rw [this, hz1]
    simp [Value.cells]
  by_cases h64 : xs.length ≤ 64
  · go_enter Try.func27, Try.ntmps27
    go_wp2
    clear hmk
    go_loopw [5, 18] (fun v i wr => ∃ k : Nat, k ≤ xs.length ∧ i = .int .i64 k ∧ Own w.heap.size wr v (there (xs.take k)) ∧ Kept w wr) (fun _ i _ => xs.length - (intOf i).toNat)
    case atStart => exact ⟨0, by omega, rfl, World.ownsRow_made w _ xs.length (Nat.le_refl _) (by unfold maxLen; omega) (by rw [size_madeCells]; omega), Kept.of ((Grown.refl w).alloc _ _)⟩
    case round =>
      obtain ⟨k, hk, rfl, hown, hkp⟩ := hrel
      by_cases hkl : k < xs.length
      · obtain ⟨ab, off, rfl, hc⟩ := hw k hkl
        have hc' := hkp.cell hc
        have hxk := hx k hkl
        have hst := there_step xs k hkl
        have hln := there_len xs k
        have hmem : xs.getD k 0 ∈ xs := by
          rw [List.getD_eq_getElem?_getD, List.getElem?_eq_getElem hkl]; exact List.getElem_mem hkl
        generalize hxv : xs.getD k 0 = x at *
        generalize hys : there (xs.take k) = ys at *
        clear hxv hys hc
        cases hn : nanB x
        · have HST : Hid (there (xs.take (k + 1)) = ys ++ [x]) := by rw [hst, hn]; rfl
          clear hst
          go_wp2_with (first
            | (go_at_call 51; refine (isNaN x _).mono ?_; rw [hn]; rintro e w' ⟨rfl, rfl⟩)
            | (at_builtin; refine wpList_append_own _ rfl _ _ 23 rfl w.heap.size 25 i0 (.float .f64 0) 1 8 Try.underlying23 hi hz0 hz1 hz2 rfl (by decide) _ _ _ rfl (World.ownsRow.alloc hown _) ⟨_, 0, none⟩ 1 1 [.float .f64 x] rfl rfl (news_cell _ x) (news_one x) (by unfold maxLen; omega) (by omega) (by have := hkp.2; simp; omega) ?_; intro v' w1 hown' hgrow _))
          have R := own_step rfl hkp hown hown' hgrow
          clear hown' hgrow
          have hst' : there (xs.take (k + 1)) = ys ++ [x] := HST
          refine ⟨⟨k + 1, hkl, by go_num, by rw [hst']; exact R.1, R.2⟩, by simp [intOf]; omega⟩
        · have hst' : there (xs.take (k + 1)) = ys := by rw [hst, hn]; rfl
          clear hst
          have HST : Hid (there (xs.take (k + 1)) = ys) := hst'
          clear hst'
          go_wp2_with (go_at_call 51; refine (isNaN x _).mono ?_; rw [hn]; rintro e w' ⟨rfl, rfl⟩)
          have hst' : there (xs.take (k + 1)) = ys := HST
          refine ⟨⟨k + 1, hkl, by go_num, by rw [hst']; exact hown, hkp⟩, by simp [intOf]; omega⟩
      · have hke : k = xs.length := by omega
        subst hke
        rw [List.take_length] at hown
        have hwy := wide_there hx
        have hly : (there xs).length ≤ xs.length := List.length_filter_le _ _
        obtain ⟨ao', cap', rfl, hfr⟩ := own_form hown
        clear hown
        have hu3 := Try.underlying3
        have hu25 := Try.underlying25
        go_wp2_with fail
        go_at_call 14; refine (implSum ao' cap' (there xs) _ hfr hwy (by omega)).mono ?_; rintro e w1 ⟨rfl, n1, rfl⟩
        cases hs : (sumM (there xs)).2
        · go_wp2
          go_returns
          exact ⟨⟨0, by simp [meanM, hs], by simp [meanM, hs, nrm, nanB]⟩, hkp.drewN n1⟩
        · by_cases hz : (there xs).length = 0
          · have hemp : (there xs).isEmpty = true := by simpa using hz
            go_wp2
            go_returns
            exact ⟨⟨0, by simp [meanM, hemp], by simp [meanM, hemp, nrm, nanB]⟩, hkp.drewN n1⟩
          · have hemp : (there xs).isEmpty = false := by simpa using hz
            have hzI : ((there xs).length : Int) ≠ 0 := by omega
            go_wp2_with (first | (go_at_call 55; refine (plainNought _ _).mono ?_; rintro e w' ⟨rfl, rfl⟩))
            go_returns
            refine ⟨⟨plain (fop .quo ((tok wr).adv n1) (sumM (there xs)).1 (floatOfInt .f64 ((there xs).length : Int))), ?_, ?_⟩, hkp.drewN _⟩
            · simp [meanM, h64, hs, hemp]
            · rw [nrm_plain, nrm_fop, sum_nrm]
              simp [meanM, h64, hs, hemp, meanQ]
  · go_enter Try.func27, Try.ntmps27
    go_wp2
    go_returns
    exact ⟨⟨0, by simp [meanM, h64], by simp [meanM, h64, nrm, nanB]⟩, Kept.refl w⟩
end Go.Proofs.Ythbhoppmdcfgeaa
