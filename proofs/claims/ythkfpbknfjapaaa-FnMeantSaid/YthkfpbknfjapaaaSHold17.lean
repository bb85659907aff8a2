/-
  Which binds are on, in the specification.
-/
import Derived.Test.YthkfpbknfjapaaaMeaP17
import Derived.Test.YthkfpbknfjapaaaAll17
import Derived.Test.YthkfpbknfjapaaaFlag17
import Derived.Test.YthkfpbknfjapaaaBinds
namespace Go.Proofs.Ythkfpbknfjapaaa
open Go.ChangeShapes Go.WideShapes Go.ChangeAt Go.RowKit

set_option maxRecDepth 100000
set_option linter.unusedVariables false

/-- The flags of the first k, the others not yet looked at. -/
def flK (f : BindD → Bool) (l : List BindD) (k : Nat) : List Bool := (l.map f).take k ++ List.replicate (l.length - k) false
theorem flK_len (f : BindD → Bool) {l : List BindD} {k : Nat} (hk : k ≤ l.length) : (flK f l k).length = l.length := by unfold flK; simp; omega
theorem flK_at (f : BindD → Bool) {l : List BindD} {k : Nat} (hk : k < l.length) : (flK f l k)[k]? = some false := by
  unfold flK
  rw [List.getElem?_append_right (by simp; omega)]
  rw [List.length_take, List.length_map, Nat.min_eq_left (by omega), Nat.sub_self, List.getElem?_replicate, if_pos (by omega)]
theorem flK_set (f : BindD → Bool) {l : List BindD} {k : Nat} {d : BindD} (hd : l[k]? = some d) : (flK f l k).set k (f d) = flK f l (k + 1) := by
  have hk := (List.getElem?_eq_some_iff.1 hd).1
  unfold flK
  rw [show l.length - k = (l.length - (k + 1)) + 1 by omega, List.replicate_succ, List.set_append_right _ _ (by simp; omega)]
  have e : (List.take k (List.map f l)).length = k := by simp; omega
  rw [e, Nat.sub_self, List.set_cons_zero]
  have h2 : (l.map f)[k]? = some (f d) := by simp [hd]
  rw [take_snoc h2]
  simp
theorem flK_all (f : BindD → Bool) (l : List BindD) : flK f l l.length = l.map f := by
  unfold flK
  rw [Nat.sub_self, List.replicate_zero, List.append_nil, List.take_of_length_le (by simp)]
theorem any_snoc {α : Type} {p : α → Bool} {l : List α} {k : Nat} {d : α} (hd : l[k]? = some d) : (l.take (k + 1)).any p = ((l.take k).any p || p d) := by rw [take_snoc hd]; simp

set_option maxHeartbeats 8000000 in
theorem sholds (l : List BindD) (h : List Int) (ao : Option Addr) (cap : Nat) (v2 : Value) (w : World) (hv : BindsAt w (.slice ao l.length cap) l) (hv2 : NumAt w v2 h) (hl : l.length ≤ 20) (hc : ∀ d ∈ l, d.2.length ≤ 4) (hn : h.length ≤ 1048576) :
    Calls Try.prog 53 #[.slice ao l.length cap, v2] w fun e w' => ∃ v', e = .returned v' ∧ FlagO w' w.heap.size w'.heap.size v' (l.map (onB l h)) ∧ Kept w w' := by
  obtain ⟨a2, p2, hsl⟩ := row_nil hv2
  subst hsl
  obtain ⟨i0, hi, hz0, hz1, hz2⟩ := info_parts info_flag
  have hmk : ∀ W : World, (Instr.makeSlice 79 (.int .i64 (l.length : Int)) (.int .i64 (l.length : Int))).run Try.prog W = .ok (.slice (some ⟨W.heap.size, 0, none⟩) l.length l.length) (W.alloc (.cells (madeCells #[.bool false] (l.length * 1)) 4)) := fun W => by
    have := run_make (P := Try.prog) W 79 4 i0 _ Try.underlying79 hi hz0 .i64 .i64 (l.length : Int) (l.length : Int) (by omega) (by omega) (by rw [hz2]; omega) (by omega)
    rw [this, hz1]
    simp [Value.cells]
  have hm := fun (W : World) => row_made W W.heap.size 4 #[.bool false] 1 (by omega) flagC flag0 flagC_len rfl l.length (Nat.le_refl _) (by unfold maxLen; omega)
  have HM : Hid (FlagO (w.alloc (.cells (madeCells #[.bool false] (l.length * 1)) 4)) w.heap.size (w.heap.size + 1) (.slice (some ⟨w.heap.size, 0, none⟩) l.length l.length) (flK (onB l h) l 0)) := by
    have h := hm w
    show FlagO _ _ _ _ _
    unfold FlagO flK
    simp only [List.take_zero, List.nil_append, Nat.sub_zero, List.length_replicate]
    exact h
  have K1 : Kept w (w.alloc (.cells (madeCells #[.bool false] (l.length * 1)) 4)) := (But.refl _ _ w).alloc _
  have s1 : (w.alloc (.cells (madeCells #[.bool false] (l.length * 1)) 4)).heap.size = w.heap.size + 1 := by simp
  simp only [Nat.mul_one] at hmk HM K1 s1
  have HC : Hid (∀ d ∈ l, d.2.length ≤ 4) := hc
  clear hi hz0 hz1 hz2 hm hc i0
  go_enter Try.func53, Try.ntmps53
  repeat (first | go_values | go_skip | go_guarded | go_step | go_upon)
  clear hmk
  generalize w.alloc (.cells (madeCells #[.bool false] l.length) 4) = w1 at *
  obtain ⟨F, hF⟩ : ∃ F, w.heap.size = F := ⟨_, rfl⟩
  rw [hF] at s1 HM ⊢
  have HF : Hid (w.heap.size = F) := hF
  clear hF
  go_loopw [15] (fun i wr => ∃ (k : Nat), k ≤ l.length ∧ i = .int .i64 k ∧ FlagO wr F (F + 1) (.slice (some ⟨F, 0, none⟩) l.length l.length) (flK (onB l h) l k) ∧ F < wr.heap.size ∧ Kept w wr) (fun i _ => l.length - (intOf i).toNat)
  case atStart => exact ⟨0, by omega, rfl, HM.out, by omega, K1⟩
  case round =>
    obtain ⟨k, hk, rfl, fo, hFl, hkp⟩ := hrel
    by_cases hlt : k < l.length
    · obtain ⟨d, hd⟩ : ∃ p, l[k]? = some p := ⟨_, List.getElem?_eq_getElem hlt⟩
      obtain ⟨b, o, cap', s, ee, c0, c1, hka⟩ := (hv.kept hkp).get hd
      cases ee
      have hsz := HC.out d (List.mem_of_getElem? hd)
      have HSET : Hid ((flK (onB l h) l k).set k (onB l h d) = flK (onB l h) l (k + 1)) := flK_set (onB l h) hd
      have hAt := flK_at (onB l h) hlt
      have hAl := flK_len (onB l h) hk
      obtain ⟨A, hA⟩ : ∃ A, flK (onB l h) l k = A := ⟨_, rfl⟩
      rw [hA] at fo HSET hAt hAl
      clear hA
      obtain ⟨nm, ch⟩ := d
      dsimp only at c0 c1 hka hsz
      obtain ⟨ah, ph, hsl⟩ := row_nil hka
      subst hsl
      have hbl : b < wr.heap.size := World.block_lt_of_cell? _ _ c0
      have HKA : Hid (NumAt wr (.slice ah ch.length ph) ch) := hka
      have CH : Hid (∀ s, w.cell? ⟨b, o + k * 2 + 1, none⟩ = some s → s = .slice ah ch.length ph) := fun s hs => by
        have := Kept.cell hkp hs
        rw [c1] at this
        cases this
        rfl
      have HH : Hid (NumAt wr (.slice a2 h.length p2) h) := hv2.kept hkp
      have HKP : Hid (Kept w wr) := hkp
      have HFO : Hid (FlagO wr F (F + 1) (.slice (some ⟨F, 0, none⟩) l.length l.length) A) := fo
      have Lb := Loc.new wr [.string nm, .slice ah ch.length ph] 85
      have HLB : Hid (Loc (wr.alloc (.cells #[.string nm, .slice ah ch.length ph] 85)) wr.heap.size [.string nm, .slice ah ch.length ph]) := Lb
      have HD : Hid (l[k]? = some (nm, ch)) := hd
      have HAT : Hid (A[k]? = some false) := hAt
      have HAL : Hid (A.length = l.length) := hAl
      have hk1 : (0 : Int) ≤ (k : Int) := by omega
      have hk2 : (k : Int) < (l.length : Int) := by omega
      clear hd hka hkp fo Lb hAt hAl
      obtain ⟨q, hq⟩ : ∃ q, allK ch h = q := ⟨_, rfl⟩
      repeat (first | (go_at_call 93; refine (sall ch h _ _ _ (HKA.out.kept ((But.refl _ _ wr).alloc _)) (HH.out.kept ((But.refl _ _ wr).alloc _)) (by omega) hn).mono ?_; rintro e w4 ⟨rfl, k4⟩; rw [hq]; obtain ⟨f0, f1⟩ := FlagO.cells (FlagO.kept HFO.out (((But.refl _ _ wr).alloc (.cells #[.string nm, .slice ah ch.length ph] 85)).trans k4)) HAT.out; dsimp only) | go_values | go_skip | go_guarded | go_step | go_upon)
      have k14 : Kept wr w4 := ((But.refl _ _ wr).alloc _).trans k4
      have HL4 : Hid (Loc w4 wr.heap.size [.string nm, .slice ah ch.length ph]) := HLB.out.kept k4
      have FO4 := FlagO.set (FlagO.kept HFO.out k14) HAL.out.symm HAT.out q
      have B4 : But F (F + 1) w4 (w4.setCell ⟨F, k, none⟩ (.bool q)) := But.setCell (p := ⟨F, k, none⟩) (But.refl F (F + 1) w4) (Nat.le_refl F) (Nat.lt_succ_self F) _
      have HL5 := HL4.out.but B4 (.inr (by omega))
      have K5 : Kept wr (w4.setCell ⟨F, k, none⟩ (.bool q)) ∨ True := .inr trivial
      have s4 := k14.size
      have s5 := B4.size
      have KW5 : Kept w (w4.setCell ⟨F, k, none⟩ (.bool q)) := But.onto (HKP.out.trans k14) B4 (by rw [HF.out]; exact Nat.le_refl _)
      clear K5 f0 f1 c0 c1 HLB HFO k4 HL4 hbl B4
      generalize w4.setCell ⟨F, k, none⟩ (.bool q) = w5 at *
      rename_i w5
      obtain ⟨B, hB⟩ : ∃ B, wr.heap.size = B := ⟨_, rfl⟩
      rw [hB] at HL5 ⊢
      have hBF : F < B := by omega
      have hB5 := HL5.lt
      have HB : Hid (wr.heap.size = B) := hB
      have FO5 : FlagO w5 F (F + 1) (.slice (some ⟨F, 0, none⟩) l.length l.length) (A.set k (q && !((l.take 0).any fun o => decide (ch.length < o.2.length) && allK o.2 h && allK ch o.2))) := by simpa using FO4
      clear FO4 hB k14 s4 s5
      go_loopw [29] (fun i wz => ∃ (j : Nat), j ≤ l.length ∧ i = .int .i64 j ∧ FlagO wz F (F + 1) (.slice (some ⟨F, 0, none⟩) l.length l.length) (A.set k (q && !((l.take j).any fun o => decide (ch.length < o.2.length) && allK o.2 h && allK ch o.2))) ∧ Loc wz B [.string nm, .slice ah ch.length ph] ∧ Kept w wz) (fun i _ => l.length - (intOf i).toNat)
      case atStart => exact ⟨0, by omega, rfl, FO5, HL5, KW5⟩
      case round =>
        rename World => wz
        obtain ⟨j, hj, rfl, fz, lz, kz⟩ := hrel
        by_cases hltj : j < l.length
        · obtain ⟨d2, hd2⟩ : ∃ p, l[j]? = some p := ⟨_, List.getElem?_eq_getElem hltj⟩
          obtain ⟨b2, o2, cap2, s2, ee, c0, c1, hka⟩ := (hv.kept kz).get hd2
          cases ee
          have hsz2 := HC.out d2 (List.mem_of_getElem? hd2)
          have HANY : Hid ((l.take (j + 1)).any (fun o => decide (ch.length < o.2.length) && allK o.2 h && allK ch o.2) = ((l.take j).any (fun o => decide (ch.length < o.2.length) && allK o.2 h && allK ch o.2) || (decide (ch.length < d2.2.length) && allK d2.2 h && allK ch d2.2))) := any_snoc hd2
          obtain ⟨y, hy⟩ : ∃ y, (l.take j).any (fun o => decide (ch.length < o.2.length) && allK o.2 h && allK ch o.2) = y := ⟨_, rfl⟩
          rw [hy] at fz HANY
          obtain ⟨nm2, c2⟩ := d2
          dsimp only at c0 c1 hka hsz2 HANY
          obtain ⟨ah2, ph2, hsl⟩ := row_nil hka
          subst hsl
          have hkc : NumAt wz (.slice ah ch.length ph) ch := by
            obtain ⟨b', o', cap'', s', ee, x0, x1, hka'⟩ := (hv.kept kz).get HD.out
            cases ee
            have hh := CH.out
            obtain ⟨b'', o'', cap3, s'', ee, y0, y1, hka''⟩ := hv.get HD.out
            cases ee
            have z1 := Kept.cell kz y1
            rw [x1] at z1
            cases z1
            rw [hh _ y1] at hka'
            exact hka'
          have HKC : Hid (NumAt wz (.slice ah ch.length ph) ch) := hkc
          have HK2 : Hid (NumAt wz (.slice ah2 c2.length ph2) c2) := hka
          have HHZ : Hid (NumAt wz (.slice a2 h.length p2) h) := hv2.kept kz
          have HKZ : Hid (Kept w wz) := kz
          have HFZ : Hid (FlagO wz F (F + 1) (.slice (some ⟨F, 0, none⟩) l.length l.length) (A.set k (q && !y))) := fz
          have HLZ : Hid (Loc wz B [.string nm, .slice ah ch.length ph]) := lz
          have lzc := lz.cell 1 rfl
          have hbz := lz.lt
          have hAs : (A.set k (q && !y))[k]? = some (q && !y) := by rw [List.getElem?_set_self (by have := HAL.out; omega)]
          have HAS : Hid ((A.set k (q && !y))[k]? = some (q && !y)) := hAs
          clear hkc hka kz fz lz hd2 hy hAs
          have NEXT : Hid (∀ (u : World) (z : Bool), z = (decide (ch.length < c2.length) && allK c2 h && allK ch c2) → z = false → Kept (wz.alloc (.cells #[.string nm2, .slice ah2 c2.length ph2] 85)) u → FlagO u F (F + 1) (.slice (some ⟨F, 0, none⟩) l.length l.length) (A.set k (q && !((l.take (j + 1)).any fun o => decide (ch.length < o.2.length) && allK o.2 h && allK ch o.2))) ∧ Loc u B [.string nm, .slice ah ch.length ph] ∧ Kept w u) := fun u z hz hz0 ku => by
            have k' : Kept wz u := ((But.refl _ _ wz).alloc _).trans ku
            rw [HANY.out, ← hz, hz0, Bool.or_false]
            exact ⟨FlagO.kept HFZ.out k', HLZ.out.kept k', HKZ.out.trans k'⟩
          by_cases hlen : ch.length < c2.length
          · have dl : decide ((ch.length : Int) < (c2.length : Int)) = true := by simp; omega
            cases q2 : allK c2 h with
            | false =>
              repeat (first | (go_at_call 93; refine (sall c2 h _ _ _ (HK2.out.kept ((But.refl _ _ wz).alloc _)) (HHZ.out.kept ((But.refl _ _ wz).alloc _)) (by omega) hn).mono ?_; rintro e w7 ⟨rfl, k7⟩; rw [q2]; dsimp only) | go_values | go_skip | go_guarded | go_step | go_upon)
              obtain ⟨n1, n2, n3⟩ := NEXT.out w7 false (by rw [q2]; simp) rfl k7
              exact ⟨⟨j + 1, hltj, by go_num, n1, n2, n3⟩, by simp [intOf]; omega⟩
            | true =>
              cases q3 : allK ch c2 with
              | false =>
                repeat (first | go_values | go_skip | go_guarded | go_step | go_upon)
                go_at_call 93
                refine (sall c2 h _ _ _ (HK2.out.kept ((But.refl _ _ wz).alloc _)) (HHZ.out.kept ((But.refl _ _ wz).alloc _)) (by omega) hn).mono ?_
                rintro e w7 ⟨rfl, k7⟩
                rw [q2]
                have m7 := (HLZ.out.kept (((But.refl _ _ wz).alloc (.cells #[.string nm2, .slice ah2 c2.length ph2] 85)).trans k7)).cell 1 rfl
                have l7 := ((Loc.new wz [.string nm2, .slice ah2 c2.length ph2] 85).kept k7).cell 1 rfl
                dsimp only
                repeat (first | go_values | go_skip | go_guarded | go_step | go_upon)
                go_at_call 93
                refine (sall ch c2 _ _ _ (HKC.out.kept (((But.refl _ _ wz).alloc _).trans k7)) (HK2.out.kept (((But.refl _ _ wz).alloc _).trans k7)) (by omega) (by omega)).mono ?_
                rintro e w8 ⟨rfl, k8⟩
                rw [q3]
                dsimp only
                repeat (first | go_values | go_skip | go_guarded | go_step | go_upon)
                obtain ⟨n1, n2, n3⟩ := NEXT.out w8 false (by rw [q3]; simp) rfl (k7.trans k8)
                exact ⟨⟨j + 1, hltj, by go_num, n1, n2, n3⟩, by simp [intOf]; omega⟩
              | true =>
                repeat (first | go_values | go_skip | go_guarded | go_step | go_upon)
                go_at_call 93
                refine (sall c2 h _ _ _ (HK2.out.kept ((But.refl _ _ wz).alloc _)) (HHZ.out.kept ((But.refl _ _ wz).alloc _)) (by omega) hn).mono ?_
                rintro e w7 ⟨rfl, k7⟩
                rw [q2]
                have m7 := (HLZ.out.kept (((But.refl _ _ wz).alloc (.cells #[.string nm2, .slice ah2 c2.length ph2] 85)).trans k7)).cell 1 rfl
                have l7 := ((Loc.new wz [.string nm2, .slice ah2 c2.length ph2] 85).kept k7).cell 1 rfl
                dsimp only
                repeat (first | go_values | go_skip | go_guarded | go_step | go_upon)
                go_at_call 93
                refine (sall ch c2 _ _ _ (HKC.out.kept (((But.refl _ _ wz).alloc _).trans k7)) (HK2.out.kept (((But.refl _ _ wz).alloc _).trans k7)) (by omega) (by omega)).mono ?_
                rintro e w8 ⟨rfl, k8⟩
                rw [q3]
                obtain ⟨f0, f1⟩ := FlagO.cells (FlagO.kept HFZ.out (((But.refl _ _ wz).alloc (.cells #[.string nm2, .slice ah2 c2.length ph2] 85)).trans (k7.trans k8))) HAS.out
                dsimp only
                repeat (first | go_values | go_skip | go_guarded | go_step | go_upon)
                have k' : Kept wz w8 := ((But.refl _ _ wz).alloc (.cells #[.string nm2, .slice ah2 c2.length ph2] 85)).trans (k7.trans k8)
                have F8 := FlagO.set (FlagO.kept HFZ.out k') (by simp [HAL.out]) HAS.out false
                have B8 : But F (F + 1) w8 (w8.setCell ⟨F, k, none⟩ (.bool false)) := But.setCell (p := ⟨F, k, none⟩) (But.refl F (F + 1) w8) (Nat.le_refl F) (Nat.lt_succ_self F) _
                refine ⟨⟨j + 1, hltj, by go_num, ?_, (HLZ.out.kept k').but B8 (.inr (by omega)), But.onto (HKZ.out.trans k') B8 (by rw [HF.out]; exact Nat.le_refl _)⟩, by simp [intOf]; omega⟩
                have e : (l.take (j + 1)).any (fun o => decide (ch.length < o.2.length) && allK o.2 h && allK ch o.2) = true := by rw [HANY.out, q2, q3, decide_eq_true hlen]; simp
                rw [e]
                rw [List.set_set] at F8
                simpa using F8
          · have dl : decide ((ch.length : Int) < (c2.length : Int)) = false := by simp; omega
            repeat (first | go_values | go_skip | go_guarded | go_step | go_upon)
            obtain ⟨n1, n2, n3⟩ := NEXT.out _ false (by rw [decide_eq_false hlen]; simp) rfl (But.refl _ _ _)
            exact ⟨⟨j + 1, hltj, by go_num, n1, n2, n3⟩, by simp [intOf]; omega⟩
        · have hje : j = l.length := by omega
          subst hje
          have HFZ : Hid (FlagO wz F (F + 1) (.slice (some ⟨F, 0, none⟩) l.length l.length) (A.set k (q && !((l.take l.length).any fun o => decide (ch.length < o.2.length) && allK o.2 h && allK ch o.2)))) := fz
          have HKZ : Hid (Kept w wz) := kz
          have hbz := lz.lt
          clear fz kz lz
          repeat (first | go_values | go_skip | go_guarded | go_step | go_upon)
          refine ⟨⟨k + 1, hlt, by go_num, ?_, by omega, HKZ.out⟩, by simp [intOf]; omega⟩
          rw [← HSET.out, onB_any, hq]
          exact HFZ.out
    · have hke : k = l.length := by omega
      subst hke
      rw [flK_all] at fo
      have HFO : Hid (FlagO wr F (F + 1) (.slice (some ⟨F, 0, none⟩) l.length l.length) (l.map (onB l h))) := fo
      have HKP : Hid (Kept w wr) := hkp
      clear fo hkp
      repeat (first | go_values | go_skip | go_guarded | go_step | go_upon)
      go_ret
      exact ⟨_, rfl, HFO.out.mono (by rw [HF.out]; exact Nat.le_refl _) (by omega), HKP.out⟩

end Go.Proofs.Ythkfpbknfjapaaa
