/-
  Sparks that are over struck from a list.
-/
import Derived.Test.YtpeiblodefaajaaDoorLeafI12
namespace Go.Proofs.YtpeiblodefaajaaDoor
open Go.ChangeShapes Go.WideShapes Go.ChangeAt Go.RowKit

set_option maxRecDepth 100000
set_option linter.unusedVariables false
theorem cell_lt {w : World} {b o : Nat} {x : Value} (h : w.cell? ⟨b, o, none⟩ = some x) : b < w.heap.size := World.block_lt_of_cell? _ _ h
set_option maxHeartbeats 4000000 in
theorem indexFunc (l : List SparkD) (g cap : Nat) (w : World) (hv : SparkAt w (.slice (some ⟨g, 0, none⟩) l.length cap) l) (hn : l.length ≤ 1048576) :
    Calls Tryd.prog 82 #[.slice (some ⟨g, 0, none⟩) l.length cap, .func (.func 68) #[] #[]] w fun e w' => (∃ j, e = .returned (.int .i64 j) ∧ (j = -1 ∧ (∀ x ∈ l, overB x = false) ∨ ∃ k x, j = ((k : Nat) : Int) ∧ l[k]? = some x ∧ overB x = true ∧ ∀ y ∈ l.take k, overB y = false)) ∧ Kept w w' := by
  have HV : Hid (SparkAt w (.slice (some ⟨g, 0, none⟩) l.length cap) l) := hv
  clear hv
  go_enter Tryd.func82, Tryd.ntmps82
  repeat (first | go_values | go_skip | go_guarded | go_step | go_upon)
  go_loopw [8] (fun i wr => ∃ k : Nat, k ≤ l.length ∧ i = .int .i64 k ∧ Hid (∀ y ∈ l.take k, overB y = false) ∧ Kept w wr) (fun i _ => l.length - (intOf i).toNat)
  case atStart => exact ⟨0, by omega, rfl, (by simp : ∀ y ∈ l.take 0, overB y = false), But.refl _ _ _⟩
  case round =>
    obtain ⟨k, hk, rfl, HB, hkp⟩ := hrel
    have HK : Hid (Kept w wr) := hkp
    by_cases hlt : k < l.length
    · obtain ⟨x, hx⟩ : ∃ x, l[k]? = some x := ⟨_, List.getElem?_eq_getElem hlt⟩
      obtain ⟨b, o, cap', e, c0, c1, c2, c3, c4⟩ := spark_get (HV.out.kept hkp) hx
      cases e
      simp only [Nat.zero_add] at c0 c1 c2 c3 c4
      have HX : Hid (l[k]? = some x) := hx
      clear hx hkp
      cases hpx : overB x
      · repeat (first | (go_at_call 68; refine (iover x _).mono ?_; rw [hpx]; rintro e w1 ⟨rfl, k1⟩; dsimp only) | go_values | go_skip | go_guarded | go_step | go_upon)
        refine ⟨⟨k + 1, hlt, by go_num, ?_, HK.out.trans k1⟩, by simp [intOf]; omega⟩
        show ∀ y ∈ l.take (k + 1), overB y = false
        intro y hy
        rw [take_snoc HX.out] at hy
        rcases List.mem_append.1 hy with h | h
        · exact HB.out y h
        · rw [List.mem_singleton.1 h]; exact hpx
      · repeat (first | (go_at_call 68; refine (iover x _).mono ?_; rw [hpx]; rintro e w1 ⟨rfl, k1⟩; dsimp only) | go_values | go_skip | go_guarded | go_step | go_upon)
        go_ret
        exact ⟨⟨_, rfl, .inr ⟨k, x, rfl, HX.out, hpx, HB.out⟩⟩, HK.out.trans k1⟩
    · have hke : k = l.length := by omega
      subst hke
      have hb := HB.out
      rw [List.take_length] at hb
      have HB2 : Hid (∀ y ∈ l, overB y = false) := hb
      clear hb HB
      repeat (first | go_values | go_skip | go_guarded | go_step | go_upon)
      go_ret
      exact ⟨⟨_, rfl, .inl ⟨rfl, HB2.out⟩⟩, hkp⟩
set_option maxHeartbeats 8000000 in
theorem deleteFunc (l : List SparkD) (g cap lo hi : Nat) (w : World) (hv : SparkO w lo hi (.slice (some ⟨g, 0, none⟩) l.length cap) l) (hn : l.length ≤ 1048576) :
    Calls Tryd.prog 67 #[.slice (some ⟨g, 0, none⟩) l.length cap, .func (.func 68) #[] #[]] w fun e w' => e = .returned (.slice (some ⟨g, 0, none⟩) (l.filter fun x => !overB x).length cap) ∧ SparkO w' lo hi (.slice (some ⟨g, 0, none⟩) (l.filter fun x => !overB x).length cap) (l.filter fun x => !overB x) ∧ But g (g + 1) w w' := by
  have HV : Hid (SparkO w lo hi (.slice (some ⟨g, 0, none⟩) l.length cap) l) := hv
  clear hv
  go_enter Tryd.func67, Tryd.ntmps67
  repeat (first | go_values | go_skip | go_guarded | go_step | go_upon)
  go_at_call 82
  refine (indexFunc l g cap w HV.out.at hn).mono ?_
  rintro e w1 ⟨⟨j, rfl, hj⟩, k1⟩
  rcases hj with ⟨rfl, hall⟩ | ⟨k, x, rfl, hx, hpx, hbe⟩
  · have he : l.filter (fun x => !overB x) = l := List.filter_eq_self.2 fun x hx => by rw [hall x hx]; rfl
    have HE : Hid (l.filter (fun x => !overB x) = l) := he
    have HK : Hid (Kept w w1) := k1
    clear hall k1 he
    dsimp only
    repeat (first | go_values | go_skip | go_guarded | go_step | go_upon)
    go_ret
    rw [HE.out]
    exact ⟨rfl, HV.out.kept HK.out, But.of HK.out⟩
  · have hkl : k < l.length := (List.getElem?_eq_some_iff.1 hx).1
    have hk1 : ((k : Int) == -1) = false := by simp
    have e1 := IntWalk.i64_in (n := (k : Int) + 1) (by omega)
    have hf0 : (l.take (k + 1)).filter (fun x => !overB x) = l.take k := by
      rw [take_snoc hx, List.filter_append, List.filter_eq_self.2 fun y hy => by rw [hbe y hy]; rfl]
      simp [hpx]
    have HF0 : Hid ((l.take (k + 1)).filter (fun x => !overB x) = l.take k) := hf0
    have HK : Hid (Kept w w1) := k1
    clear hbe hf0 k1 hx
    dsimp only
    repeat (first | go_values | go_skip | go_guarded | go_step | go_upon)
    have hcap : l.length ≤ cap := by
      obtain ⟨cur, _, _, h, _⟩ := spark_block HV.out
      exact h
    go_loopw [5, 6] (fun vi vj wr => ∃ (i j : Nat) (R' : List SparkD), vi = .int .i64 i ∧ vj = .int .i64 j ∧ i < j ∧ j ≤ l.length ∧ R'.length = l.length ∧ Hid (R'.take i = (l.take j).filter (fun x => !overB x) ∧ R'.drop j = l.drop j) ∧ SparkO wr lo hi (.slice (some ⟨g, 0, none⟩) l.length cap) R' ∧ But g (g + 1) w wr) (fun _ vj _ => l.length - (intOf vj).toNat)
    case atStart => exact ⟨k, k + 1, l, rfl, by simp, by omega, by omega, rfl, (⟨HF0.out.symm, rfl⟩ : l.take k = (l.take (k + 1)).filter (fun x => !overB x) ∧ l.drop (k + 1) = l.drop (k + 1)), HV.out.kept HK.out, But.of HK.out⟩
    case round =>
      clear HK HF0
      obtain ⟨i, j, R', rfl, rfl, hij, hjn, hR, HT, ho, hbt⟩ := hrel
      have HTA : Hid (R'.take i = (l.take j).filter (fun x => !overB x)) := HT.out.1
      have HDR : Hid (R'.drop j = l.drop j) := HT.out.2
      have HB : Hid (But g (g + 1) w wr) := hbt
      have HRL : Hid (R'.length = l.length) := hR
      obtain ⟨yi, hyi⟩ : ∃ y, R'[i]? = some y := ⟨_, List.getElem?_eq_getElem (by omega)⟩
      have HO : Hid (SparkO wr lo hi (.slice (some ⟨g, 0, none⟩) l.length cap) R') := ho
      have HYI : Hid (R'[i]? = some yi) := hyi
      clear hbt hyi HT hR
      by_cases hlt : j < l.length
      · obtain ⟨x, hx⟩ : ∃ x, l[j]? = some x := ⟨_, List.getElem?_eq_getElem hlt⟩
        have hx2 : R'[j]? = some x := by
          have := congrArg (fun q => q[0]?) HDR.out
          simp at this
          rw [this, hx]
        obtain ⟨c0, c1, c2, c3, c4, _⟩ := ho.cells hx2
        have HX : Hid (l[j]? = some x) := hx
        have HDR2 : Hid (R'.drop (j + 1) = l.drop (j + 1)) := by
          show R'.drop (j + 1) = l.drop (j + 1)
          rw [← List.drop_drop, ← List.drop_drop, HDR.out]
        clear hx hx2 ho
        cases hpx : overB x
        · have HFI : Hid ((l.take (j + 1)).filter (fun x => !overB x) = (l.take j).filter (fun x => !overB x) ++ [x]) := by
            show (l.take (j + 1)).filter (fun x => !overB x) = (l.take j).filter (fun x => !overB x) ++ [x]
            rw [take_snoc HX.out, List.filter_append]
            simp [hpx]
          repeat (first
            | (go_at_call 68; refine (iover x _).mono ?_; rw [hpx]; rintro e w2 ⟨rfl, k2⟩
               have Lv := (Loc.new wr [.int .i64 x.1, .int .i64 x.2.1, .int .i64 x.2.2.1, .int .i64 x.2.2.2.1, .int .i64 x.2.2.2.2] 66).kept k2
               have v0 := Lv.cell 0 rfl
               have v1 := Lv.cell 1 rfl
               have v2 := Lv.cell 2 rfl
               have v3 := Lv.cell 3 rfl
               have v4 := Lv.cell 4 rfl
               have HK2 : Hid (Kept wr w2) := ((But.refl _ _ wr).alloc _).trans k2
               have ho2 := HO.out.kept HK2.out
               obtain ⟨d0, d1, d2, d3, d4, dz⟩ := ho2.cells HYI.out
               have z0 := dz (i * 5)
               have z1 := dz (i * 5 + 1)
               have z2 := dz (i * 5 + 2)
               have z3 := dz (i * 5 + 3)
               have z4 := dz (i * 5 + 4)
               obtain ⟨q1, q2, q3, q4, hst⟩ := ho2.store HRL.out.symm HYI.out x
               have HST : Hid (SparkO _ lo hi (.slice (some ⟨g, 0, none⟩) l.length cap) (R'.set i x)) := hst
               clear hst dz ho2 k2 Lv c0 c1 c2 c3 c4
               dsimp only)
            | go_values | go_skip | go_guarded | go_step | go_upon)
          have hRl := HRL.out
          refine ⟨⟨i + 1, j + 1, R'.set i x, by go_num, by go_num, by omega, by omega, by simpa using hRl, ?_, HST.out, ?_⟩, by simp [intOf]; omega⟩
          · show (R'.set i x).take (i + 1) = (l.take (j + 1)).filter (fun x => !overB x) ∧ (R'.set i x).drop (j + 1) = l.drop (j + 1)
            refine ⟨?_, ?_⟩
            · rw [HFI.out, ← HTA.out, take_snoc (show (R'.set i x)[i]? = some x from List.getElem?_set_self (by omega)), List.take_set_of_le (Nat.le_refl _)]
            · rw [← HDR2.out, List.drop_set_of_lt (by omega)]
          · exact (((((HB.out.transK HK2.out).setCell (Nat.le_refl _) (Nat.lt_succ_self _) _).setCell (Nat.le_refl _) (Nat.lt_succ_self _) _).setCell (Nat.le_refl _) (Nat.lt_succ_self _) _).setCell (Nat.le_refl _) (Nat.lt_succ_self _) _).setCell (Nat.le_refl _) (Nat.lt_succ_self _) _
        · have HFI : Hid ((l.take (j + 1)).filter (fun x => !overB x) = (l.take j).filter (fun x => !overB x)) := by
            show (l.take (j + 1)).filter (fun x => !overB x) = (l.take j).filter (fun x => !overB x)
            rw [take_snoc HX.out, List.filter_append]
            simp [hpx]
          repeat (first | (go_at_call 68; refine (iover x _).mono ?_; rw [hpx]; rintro e w2 ⟨rfl, k2⟩; dsimp only) | go_values | go_skip | go_guarded | go_step | go_upon)
          have K2 : Kept wr w2 := ((But.refl _ _ wr).alloc _).trans k2
          exact ⟨⟨i, j + 1, R', rfl, by go_num, by omega, by omega, HRL.out, (⟨by rw [HFI.out]; exact HTA.out, HDR2.out⟩ : R'.take i = (l.take (j + 1)).filter (fun x => !overB x) ∧ R'.drop (j + 1) = l.drop (j + 1)), HO.out.kept K2, HB.out.transK K2⟩, by simp [intOf]; omega⟩
      · have hje : j = l.length := by omega
        subst hje
        obtain ⟨cur, hg, hcs, -, -, -, -, hmx⟩ := spark_block HO.out
        obtain ⟨Z, hZ, hcl⟩ := run_clear_rows (P := Tryd.prog) wr 25 66 0 _ Tryd.underlying25 zero_spark g (i * 5) (l.length - i) (cap - i) cur hg (by intro v hv; simp [Value.cells] at hv; subst hv; rfl) (by decide) (by omega) (by rw [hcs]; simp [Value.cells]; omega)
        have hZ2 : Z.length = (l.length - i) * 5 := hZ
        have hcut := spark_cut (Z := Z) HO.out HRL.out.symm (show i ≤ l.length by omega) hg (by rw [hcs, hZ2]; omega)
        obtain ⟨W3, hW3⟩ : ∃ W, W = wr.setRow g (cur.toList.take (i * 5) ++ Z ++ cur.toList.drop (i * 5 + Z.length)).toArray := ⟨_, rfl⟩
        have hB3 : But g (g + 1) wr W3 := by rw [hW3]; exact setRow_but _ _ _
        rw [← hW3] at hcl hcut
        have hff : (l.filter fun x => !overB x) = R'.take i := by rw [HTA.out, List.take_length]
        have hfl : (l.filter fun x => !overB x).length = i := by have := HRL.out; rw [hff, List.length_take]; omega
        have HEND : Hid (SparkO W3 lo hi (.slice (some ⟨g, 0, none⟩) (l.filter fun x => !overB x).length cap) (l.filter fun x => !overB x)) := by
          show SparkO _ _ _ _ _
          rw [hfl, hff]
          exact hcut
        have HFL : Hid ((l.filter fun x => !overB x).length = i) := hfl
        have HB3 : Hid (But g (g + 1) w W3) := HB.out.trans hB3
        clear hcut hff hfl hB3 hW3 hZ hZ2 hg hcs hmx ho
        repeat (first | go_values | go_skip | go_guarded | go_step | go_upon)
        refine bodyPost_ret (v := .slice (some ⟨g, 0, none⟩) i cap) (by simp [results, Tryd.results67, go_sem]) rfl ?_
        exact ⟨by rw [HFL.out], HEND.out, HB3.out⟩

end Go.Proofs.YtpeiblodefaajaaDoor
