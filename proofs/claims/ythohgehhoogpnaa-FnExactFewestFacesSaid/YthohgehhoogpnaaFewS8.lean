/-
  The way of the fewest faces, in the specification.
-/
import Derived.Test.YthohgehhoogpnaaWin8
import Derived.Deep.LoopGhost
import Derived.BigRegion
namespace Go.Proofs.Ythohgehhoogpnaa
open Go.ChangeShapes Go.WideShapes Go.ChangeAt Go.RowKit

set_option maxRecDepth 100000
set_option linter.unusedVariables false
/-- A table of how far faces are, m for those that are not reached. -/
def val (m : Int) : Option Nat → Int
  | some d => (d : Int)
  | none => m
def tabM (m : Int) (far : Nat → Option Nat) (k : Nat) : List NumD := (List.range k).map fun i => val m (far i)
theorem tabM_len (m : Int) (far : Nat → Option Nat) (k : Nat) : (tabM m far k).length = k := by simp [tabM]
theorem tabM_get (m : Int) (far : Nat → Option Nat) {k i : Nat} (h : i < k) : (tabM m far k)[i]? = some (val m (far i)) := by simp [tabM, h]
theorem tabM_set (m : Int) (far : Nat → Option Nat) (k i d : Nat) : (tabM m far k).set i (d : Int) = tabM m (upd far i d) k := by
  apply List.ext_getElem?
  intro j
  rw [List.getElem?_set]
  unfold tabM upd
  by_cases h : i = j
  · subst h
    by_cases hl : i < k
    · simp [hl, val]
    · simp [hl]
  · rw [if_neg h, List.getElem?_map, List.getElem?_map]
    by_cases hl : j < k
    · rw [List.getElem?_range hl]
      simp [show ¬ j = i from fun e => h e.symm]
    · rw [List.getElem?_eq_none (by simp; omega)]
      rfl
def fewOk (g : GroundD) (x y : Int) : Prop := GoodG g ∧ (0 ≤ x ∧ x < (g.2.length : Int)) ∧ (0 ≤ y ∧ y < (g.2.length : Int)) ∧ ∃ d, farT g y.toNat x.toNat = some d
open Classical in
noncomputable def fewR (g : GroundD) (x y : Int) : List NumD × Bool := if fewOk g x y then (pathM g y.toNat ((farT g y.toNat x.toNat).getD 0) x.toNat, true) else ([], false)
theorem fewR_no {g : GroundD} {x y : Int} (h : ¬ fewOk g x y) : fewR g x y = ([], false) := if_neg h
theorem fewR_yes {g : GroundD} {x y d : Nat} (hg : GoodG g) (hx : x < g.2.length) (hy : y < g.2.length) (hd : farT g y x = some d) : fewR g (x : Int) (y : Int) = (pathM g y d x, true) := by
  have h : fewOk g (x : Int) (y : Int) := ⟨hg, ⟨by omega, by omega⟩, ⟨by omega, by omega⟩, d, by simpa using hd⟩
  unfold fewR
  rw [if_pos h]
  simp [hd]
def FewO (g : GroundD) (x y : Int) (u : World) (e : Ending) (u' : World) : Prop := (∃ v', e = .returned (.tuple #[v', .bool (fewR g x y).2]) ∧ NumO u' u.heap.size u'.heap.size v' (fewR g x y).1) ∧ Kept u u'
theorem fewO_no {g : GroundD} {x y : Int} {u u' : World} (h : ¬ fewOk g x y) (k : Kept u u') : FewO g x y u (.returned (.tuple #[.slice none 0 0, .bool false])) u' :=
  ⟨⟨_, by rw [fewR_no h], by rw [fewR_no h]; exact num_nil _ _ _⟩, k⟩

theorem wpList_slice1 {P : Program} {ops : Array Oper} {rest : List Oper} {o : Oper} {a : Act} {w : World} {Q : Exit → Act → World → Prop} {v : Value} (hgd : o.guard = none) (t : TypeId) (s l : Operand) (hu : P.underlying t = some (.slice (P.elem t))) (ho : o.op = .slice t s (some l) none none)
    (hr : (Instr.slice t (a.eval s) (some (a.eval l)) none none).run P w = .ok v w) (hk : wpList P ops Q rest (a.put o.dst v) w) : wpList P ops Q (o :: rest) a w :=
  wpList_plain hgd fun _ hK => by
    unfold Oper.wp execOp
    simp only [ho, Option.map_some, Option.map_none, run_sliceAt_slice _ _ _ _ _ _ hu, hr, Sem.run_bind, Sem.run_pure, Result.andThen_ok]
    exact hK _ _ hk

set_option maxHeartbeats 8000000 in
theorem sfew (g : GroundD) (v : Value) (lo hi : Nat) (w : World) (ho : GroundO w lo hi v g) (hm : g.1.length ≤ 1048576) (hn : g.2.length ≤ 1048576) (hl : ∀ f ∈ g.2, f.length ≤ 1048576) (x y : Int) :
    Calls Try.prog 29 #[v, .int .i64 x, .int .i64 y] w (FewO g x y w) := by
  obtain ⟨ap, cp, af, cf, hfm⟩ := ho.at.form
  subst hfm
  have HG : Hid (∀ (u : World), Kept w u → Calls Try.prog 17 #[.agg #[.slice ap g.1.length cp, .slice af g.2.length cf]] u fun e u' => Says (GoodG g) e ∧ Kept u u') := fun u k => sgood g _ lo hi u (ho.kept k) hm hn hl
  obtain ⟨hP, hF⟩ := ho.at.parts
  have HF : Hid (LLAt w (.slice af g.2.length cf) g.2) := hF
  clear ho hP hF
  go_enter Try.func29, Try.ntmps29
  repeat (first | go_values | go_skip | go_guarded | go_step | go_upon)
  refine (HG.out _ (by exact ((But.refl _ _ w).alloc _))).mono ?_
  rintro e w1 ⟨hs, k1⟩
  have KA : Kept w w1 := ((But.refl _ _ w).alloc _).trans k1
  have La := (Loc.new w [.slice ap g.1.length cp, .slice af g.2.length cf] 26).kept k1
  have a1 := La.cell 1 rfl
  by_cases hg : GoodG g
  · have he := says_true hg hs
    subst he
    have HGG : Hid (GoodG g) := hg
    have hg20 := hg.2.2.1
    clear hg hs k1
    dsimp only
    repeat (first | go_values | go_skip | go_guarded | go_step | go_upon)
    go_at_call 62
    refine (sInG _ _ _ _).mono ?_
    by_cases hx : 0 ≤ x ∧ x < (g.2.length : Int)
    · have hd : decide (0 ≤ x ∧ x ≤ (g.2.length : Int) - 1) = true := decide_eq_true (by omega)
      rw [hd]
      rintro e w2 ⟨rfl, rfl⟩
      clear hd
      dsimp only
      repeat (first | go_values | go_skip | go_guarded | go_step | go_upon)
      go_at_call 62
      refine (sInG _ _ _ _).mono ?_
      by_cases hy : 0 ≤ y ∧ y < (g.2.length : Int)
      · have hd : decide (0 ≤ y ∧ y ≤ (g.2.length : Int) - 1) = true := decide_eq_true (by omega)
        rw [hd]
        rintro e w2 ⟨rfl, rfl⟩
        clear hd
        obtain ⟨X, hX⟩ : ∃ X : Nat, x = (X : Int) := ⟨x.toNat, by omega⟩
        obtain ⟨Y, hY⟩ : ∃ Y : Nat, y = (Y : Int) := ⟨y.toNat, by omega⟩
        subst hX hY
        have hXl : X < g.2.length := by omega
        have hYl : Y < g.2.length := by omega
        obtain ⟨i0, hi0, hz0, hz1, hz2⟩ := info_parts info3
        have hmk : ∀ W : World, (Instr.makeSlice 27 (.int .i64 (g.2.length : Int)) (.int .i64 (g.2.length : Int))).run Try.prog W = .ok (.slice (some ⟨W.heap.size, 0, none⟩) g.2.length g.2.length) (W.alloc (.cells (madeCells #[.int .i64 0] g.2.length) 3)) := fun W => by
          have := run_make (P := Try.prog) W 27 3 i0 _ Try.underlying27 hi0 hz0 .i64 .i64 (g.2.length : Int) (g.2.length : Int) (by omega) (by omega) (by rw [hz2]; omega) (by omega)
          rw [this, hz1]
          simp [Value.cells]
        clear hx hy
        dsimp only
        repeat (first | go_values | go_skip | go_guarded | go_step | go_upon)
        clear a1 hmk
        obtain ⟨F, hF⟩ : ∃ F, F = w2.heap.size := ⟨_, rfl⟩
        obtain ⟨W0, hW0⟩ : ∃ W, W = w2.alloc (.cells (madeCells #[.int .i64 0] g.2.length) 3) := ⟨_, rfl⟩
        have hm0 : NumO W0 F (F + 1) (.slice (some ⟨F, 0, none⟩) g.2.length g.2.length) (List.replicate g.2.length num0) := by
          have := row_made w2 w2.heap.size 3 #[.int .i64 0] 1 (by omega) numC num0 numC_len rfl g.2.length (Nat.le_refl _) (by unfold maxLen; omega)
          rw [hW0, hF]
          simpa [NumO] using this
        have K0 : Kept w2 W0 := by rw [hW0]; exact (But.refl _ _ _).alloc _
        have hs0 : W0.heap.size = F + 1 := by rw [hW0, hF]; simp
        rw [← hW0, ← hF]
        have HFS : Hid (F = w2.heap.size) := hF
        clear hW0 hF
        have La0 := La.kept K0
        have HNEG : Hid ((List.replicate g.2.length (-1 : Int)).length = g.2.length) := by show _ = _; simp
        obtain ⟨N, hN⟩ : ∃ N : List NumD, N = List.replicate g.2.length (-1 : Int) := ⟨_, rfl⟩
        have hNl : N.length = g.2.length := by rw [hN]; simp
        have HN : Hid (N = List.replicate g.2.length (-1 : Int)) := hN
        have HNL : Hid (N.length = g.2.length) := hNl
        clear hN hNl HNEG
        go_loopw [45] (fun i wr => ∃ k : Nat, k ≤ g.2.length ∧ i = .int .i64 k ∧ NumO wr F (F + 1) (.slice (some ⟨F, 0, none⟩) g.2.length g.2.length) (N.take k ++ List.replicate (N.length - k) num0) ∧ But F (F + 1) W0 wr ∧ wr.heap.size = F + 1) (fun i _ => g.2.length - (intOf i).toNat)
        case atStart =>
          refine ⟨0, by omega, rfl, ?_, But.refl _ _ _, hs0⟩
          rw [HNL.out]
          simpa using hm0
        case round =>
          obtain ⟨k, hk, rfl, hf, hkp, hsz⟩ := hrel
          have HKP : Hid (But F (F + 1) W0 wr) := hkp
          have HF1 : Hid (NumO wr F (F + 1) (.slice (some ⟨F, 0, none⟩) g.2.length g.2.length) (N.take k ++ List.replicate (N.length - k) num0)) := hf
          by_cases hlt : k < g.2.length
          · have hkN : k < N.length := by rw [HNL.out]; exact hlt
            obtain ⟨d0, dz⟩ := hf.cells (fill_get N num0 hkN)
            have dz0 := dz k
            have HS : Hid (NumO (wr.setCell ⟨F, k, none⟩ (.int .i64 (-1))) F (F + 1) (.slice (some ⟨F, 0, none⟩) g.2.length g.2.length) (N.take (k + 1) ++ List.replicate (N.length - (k + 1)) num0)) := by
              have h9 := hf.set (by rw [fill_len N num0 (by omega), HNL.out]) (fill_get N num0 hkN) (-1)
              have hNk : N[k]? = some (-1) := by rw [HN.out]; simp [hlt]
              rw [fill_set N num0 hNk] at h9
              exact h9
            clear hf hkp dz
            repeat (first | go_values | go_skip | go_guarded | go_step | go_upon)
            refine ⟨⟨k + 1, hlt, by go_num, HS.out, HKP.out.setCell (p := ⟨F, k, none⟩) (Nat.le_refl _) (Nat.lt_succ_self _) _, by simpa [World.setCell] using hsz⟩, by simp [intOf]; omega⟩
          · have hke : k = g.2.length := by omega
            subst hke
            have HF2 : Hid (NumO wr F (F + 1) (.slice (some ⟨F, 0, none⟩) g.2.length g.2.length) (tabM (-1) (fun _ => none) g.2.length)) := by
              have h9 := HF1.out
              rw [← HNL.out, List.take_length, Nat.sub_self, List.replicate_zero, List.append_nil, HNL.out, HN.out] at h9
              have e : List.replicate g.2.length (-1 : Int) = tabM (-1) (fun _ => none) g.2.length := by
                apply List.ext_getElem?
                intro j
                by_cases hj : j < g.2.length
                · rw [tabM_get _ _ hj]; simp [hj, val]
                · rw [List.getElem?_eq_none (by simp; omega), List.getElem?_eq_none (by rw [tabM_len]; omega)]
              rw [e] at h9
              exact h9
            have HF3 : Hid (NumO (wr.setCell ⟨F, Y, none⟩ (.int .i64 ((0 : Nat) : Int))) F (F + 1) (.slice (some ⟨F, 0, none⟩) g.2.length g.2.length) (tabM (-1) (upd (fun _ => none) Y 0) g.2.length)) := by
              have h9 := HF2.out.set (by rw [tabM_len]) (tabM_get (-1) (fun _ => none) hYl) ((0 : Nat) : Int)
              rw [tabM_set] at h9
              exact h9
            obtain ⟨d0, dz⟩ := HF2.out.cells (tabM_get (-1) (fun _ => none) hYl)
            have dz0 := dz Y
            have HB3 : Hid (Kept w2 (wr.setCell ⟨F, Y, none⟩ (.int .i64 ((0 : Nat) : Int)))) := K0.onto (HKP.out.setCell (p := ⟨F, Y, none⟩) (Nat.le_refl _) (Nat.lt_succ_self _) _) (by rw [HFS.out]; exact Nat.le_refl _)
            clear hf hkp dz HF1 HF2
            repeat (first | go_values | go_skip | go_guarded | go_step | go_upon)
            clear d0 dz0
            obtain ⟨W1, hW1⟩ : ∃ W, W = (wr.setCell ⟨F, Y, none⟩ (.int .i64 0)).alloc (.cells #[.int .i64 (Y : Int)] 3) := ⟨_, rfl⟩
            have hsF : (wr.setCell ⟨F, Y, none⟩ (.int .i64 0)).heap.size = F + 1 := by simpa [World.setCell] using hsz
            have HFA : Hid (NumO W1 F (F + 1) (.slice (some ⟨F, 0, none⟩) g.2.length g.2.length) (tabM (-1) (upd (fun _ => none) Y 0) g.2.length)) := by
              have h9 : NumO W1 F (F + 1) (.slice (some ⟨F, 0, none⟩) g.2.length g.2.length) (tabM (-1) (upd (fun _ => none) Y 0) g.2.length) := by rw [hW1]; exact HF3.out.kept ((But.refl _ _ _).alloc _)
              exact h9
            have HWA : Hid (WinO W1 (F + 1) (F + 1) 0 1 [Y]) := by
              have h9 := WinO.one (wr.setCell ⟨F, Y, none⟩ (.int .i64 0)) (F + 1) Y (by rw [hsF]; exact Nat.le_refl _)
              rw [← hW1, hsF] at h9
              exact h9
            have HKA : Hid (Kept w2 W1) := by
              have h9 : Kept w2 W1 := by rw [hW1]; exact But.alloc HB3.out _
              exact h9
            rw [← hW1]
            try rw [hsz]
            clear hW1 HF3 HB3 HKP hsF hsz
            go_loopg [10] (g.2.length) (fun gk td wr => ∃ (r : List Nat) (k : Nat) (far : Nat → Option Nat) (B o c : Nat), gk + k = g.2.length ∧ td = .slice (some ⟨B, o, none⟩) (r.drop k).length c ∧ Bfs g Y far r k ∧ NumO wr F (F + 1) (.slice (some ⟨F, 0, none⟩) g.2.length g.2.length) (tabM (-1) far g.2.length) ∧ WinO wr (F + 1) B o c (r.drop k) ∧ Kept w2 wr)
            case atStart => exact ⟨[Y], 0, _, F + 1, 0, 1, by omega, rfl, bfs_start hYl, HFA.out, HWA.out, HKA.out⟩
            case round =>
              obtain ⟨r, k, far, B, o, c, hgk, rfl, hB, hfO, hwn, hkp⟩ := hrel
              have HB : Hid (Bfs g Y far r k) := hB
              have HFO : Hid (NumO wr F (F + 1) (.slice (some ⟨F, 0, none⟩) g.2.length g.2.length) (tabM (-1) far g.2.length)) := hfO
              have HKP : Hid (Kept w2 wr) := hkp
              by_cases hlt : k < r.length
              · obtain ⟨x, hx⟩ : ∃ x, r[k]? = some x := ⟨_, List.getElem?_eq_getElem hlt⟩
                obtain ⟨d, hd, hdk, hxl⟩ := hB.get hx
                obtain ⟨Q, hQ⟩ : ∃ Q, r.drop k = x :: Q ∧ r.drop (k + 1) = Q := ⟨r.drop (k + 1), by rw [List.drop_eq_getElem_cons hlt]; rw [List.getElem?_eq_getElem hlt] at hx; cases hx; rfl, rfl⟩
                rw [hQ.1] at hwn ⊢
                have HWT : Hid (WinO wr (F + 1) B (if c = 1 then o else o + 1) (c - 1) Q) := hwn.tail
                have hc1 : 1 ≤ c := by have := hwn.len; simp at this; omega
                have c0 : wr.cell? ⟨B, o, none⟩ = some (.int .i64 (x : Int)) := by simpa using hwn.cel 0 x rfl
                have hBl := hwn.lt
                obtain ⟨O, hO⟩ : ∃ O, (if c = 1 then o else o + 1) = O := ⟨_, rfl⟩
                rw [hO] at HWT
                have hsl : ∀ W, (Instr.slice 27 (.slice (some ⟨B, o, none⟩) (Q.length + 1) c) (some (.int .i64 1)) none none).run Try.prog W = .ok (.slice (some ⟨B, O, none⟩) Q.length (c - 1)) W := fun W => by
                  rw [run_slice_l W 27 _ _ _ Try.underlying27 .i64 1 (by omega) (by omega)]
                  rw [← hO]
                  simp [sizeOf, typeInfo, sliced, show Try.prog.elem 27 = 3 from by kernel_rfl, hi0, hz1, Addr.add]
                  by_cases h9 : c = 1
                  · simp [h9]
                  · simp [h9]
                have HQ : Hid (r.drop (k + 1) = Q) := hQ.2
                have HX : Hid (r[k]? = some x ∧ far x = some d) := ⟨hx, hd⟩
                have LaR := La.kept hkp
                have a0 := LaR.cell 0 rfl
                have a1 := LaR.cell 1 rfl
                have HSB : Hid (Calls Try.prog 63 #[.agg #[.slice ap g.1.length cp, .slice af g.2.length cf], .int .i64 (x : Int)] wr fun e w' => (∃ v', e = .returned v' ∧ NumO w' wr.heap.size w'.heap.size v' (besM g x g.2.length)) ∧ Kept wr w') := sbeside g _ _ wr ((HF.out.kept KA).kept hkp) hg20 x hxl hl
                clear hwn hx hd hB hfO hQ hkp hO
                repeat (first
                  | (refine wpList_slice1 rfl 27 _ _ Try.underlying27 rfl (hsl _) ?_; clear hsl)
                  | go_values | go_skip | go_guarded | go_step | go_upon)
                refine HSB.out.mono ?_
                rintro e w3 ⟨⟨bv, rfl, hbo⟩, k3⟩
                obtain ⟨ba, bc, hbf⟩ := hbo.form
                subst hbf
                have HBO : Hid (NumO w3 wr.heap.size w3.heap.size (.slice ba (besM g x g.2.length).length bc) (besM g x g.2.length)) := hbo
                have HK3 : Hid (Kept wr w3) := k3
                have HFW : Hid (F < wr.heap.size) := cell_ltG (HFO.out.cells (tabM_get (-1) far hYl)).1
                have hrl := HB.out.len
                obtain ⟨lo3, hlo3⟩ : ∃ l, l = wr.heap.size := ⟨_, rfl⟩
                obtain ⟨hi3, hhi3⟩ : ∃ l, l = w3.heap.size := ⟨_, rfl⟩
                rw [← hlo3, ← hhi3] at HBO
                have HL3 : Hid (lo3 = wr.heap.size ∧ hi3 = w3.heap.size) := ⟨hlo3, hhi3⟩
                have hbl := besM_len g x g.2.length
                clear hbo k3 a0 a1 c0 HSB hlo3 hhi3
                dsimp only
                repeat (first | go_values | go_skip | go_guarded | go_step | go_upon)
                go_loopw [10, 69] (fun td i wz => ∃ (m : Nat) (r' : List Nat) (far' : Nat → Option Nat) (B' o' c' : Nat), m ≤ (besM g x g.2.length).length ∧ i = .int .i64 m ∧ td = .slice (some ⟨B', o', none⟩) (r'.drop (k + 1)).length c' ∧ Bfs g Y far' r' k ∧ r'[k]? = some x ∧ far' x = some d ∧ (∀ (j z : Nat), j < m → (besM g x g.2.length)[j]? = some (z : Int) → ∃ e, far' z = some e) ∧ NumO wz F (F + 1) (.slice (some ⟨F, 0, none⟩) g.2.length g.2.length) (tabM (-1) far' g.2.length) ∧ WinO wz (F + 1) B' o' c' (r'.drop (k + 1)) ∧ NumO wz lo3 hi3 (.slice ba (besM g x g.2.length).length bc) (besM g x g.2.length) ∧ (B' < lo3 ∨ hi3 ≤ B') ∧ hi3 ≤ wz.heap.size ∧ Kept w2 wz) (fun td i _ => (besM g x g.2.length).length - (intOf i).toNat)
                case atStart =>
                  refine ⟨0, r, far, B, O, c - 1, by omega, rfl, by rw [HQ.out], HB.out, HX.out.1, HX.out.2, fun j z hj => by omega, HFO.out.kept HK3.out, ?_, HBO.out, .inl (by rw [HL3.out.1]; exact hBl), by rw [HL3.out.2]; exact Nat.le_refl _, HKP.out.trans HK3.out⟩
                  rw [HQ.out]
                  exact HWT.out.kept HK3.out
                case round =>
                  rename World => W4
                  obtain ⟨m, r', far', B', o', c', hm', rfl, rfl, hB4, hx4, hd4, hvis, hf4, hw4, hb4, hap, hh3, hk4⟩ := hrel
                  have HB4 : Hid (Bfs g Y far' r' k) := hB4
                  have HX4 : Hid (r'[k]? = some x ∧ far' x = some d) := ⟨hx4, hd4⟩
                  have HVIS : Hid (∀ (j z : Nat), j < m → (besM g x g.2.length)[j]? = some (z : Int) → ∃ e, far' z = some e) := hvis
                  have HF4 : Hid (NumO W4 F (F + 1) (.slice (some ⟨F, 0, none⟩) g.2.length g.2.length) (tabM (-1) far' g.2.length)) := hf4
                  have HWN : Hid (WinO W4 (F + 1) B' o' c' (r'.drop (k + 1))) := hw4
                  have HBB : Hid (NumO W4 lo3 hi3 (.slice ba (besM g x g.2.length).length bc) (besM g x g.2.length)) := hb4
                  have HAP : Hid (B' < lo3 ∨ hi3 ≤ B') := hap
                  have HK4 : Hid (Kept w2 W4) := hk4
                  obtain ⟨q', hq'⟩ : ∃ q', r'.drop (k + 1) = q' := ⟨_, rfl⟩
                  have HQ4 : Hid (r'.drop (k + 1) = q') := hq'
                  have hql : q'.length ≤ 20 := by rw [← hq', List.length_drop]; have := hB4.len; omega
                  rw [hq'] at HWN ⊢
                  clear hq'
                  by_cases hmt : m < (besM g x g.2.length).length
                  · obtain ⟨z, hz⟩ : ∃ z : Int, (besM g x g.2.length)[m]? = some z := ⟨_, List.getElem?_eq_getElem hmt⟩
                    obtain ⟨y, hy, hadj⟩ := bes_get hz
                    subst hy
                    obtain ⟨b6, o6, cap6, e, c6⟩ := num_get hb4.at hz
                    cases e
                    have hyl := hadj.1
                    obtain ⟨d0, dz⟩ := hf4.cells (tabM_get (-1) far' hyl)
                    have dz0 := dz y
                    obtain ⟨d1, _⟩ := hf4.cells (tabM_get (-1) far' hxl)
                    have HZ : Hid ((besM g x g.2.length)[m]? = some (y : Int) ∧ Adj g x y) := ⟨hz, hadj⟩
                    clear hB4 hx4 hvis hf4 hw4 hb4 hap hk4 hz hadj dz
                    have hy1 : (y : Int) < (g.2.length : Int) := by omega
                    have hx1 : (x : Int) < (g.2.length : Int) := by omega
                    cases hfy : far' y with
                    | none =>
                      have HFY : Hid (far' y = none) := hfy
                      rw [hfy] at d0
                      rw [hd4] at d1
                      change W4.cell? ⟨F, y, none⟩ = some (.int .i64 (-1)) at d0
                      change W4.cell? ⟨F, x, none⟩ = some (.int .i64 (d : Int)) at d1
                      clear hfy hd4
                      have hFB : F + 1 ≤ B' := HWN.out.low
                      have hw4l : F + 1 ≤ W4.heap.size := by have := HWN.out.lt; omega
                      have HW5a : Hid (WinO (W4.setCell ⟨F, y, none⟩ (.int .i64 ((d : Int) + 1))) (F + 1) B' o' c' q') := HWN.out.but ((But.refl F (F + 1) W4).setCell (p := ⟨F, y, none⟩) (Nat.le_refl _) (Nat.lt_succ_self _) _) (by omega)
                      have HXC : Hid (((W4.setCell ⟨F, y, none⟩ (.int .i64 ((d : Int) + 1))).alloc (.cells #[.int .i64 (y : Int)] 3)).cell? ⟨W4.heap.size, 0, none⟩ = some (.int .i64 (y : Int))) := by
                        have h9 := (Loc.new (W4.setCell ⟨F, y, none⟩ (.int .i64 ((d : Int) + 1))) [.int .i64 (y : Int)] 3).cell 0 rfl
                        rw [show (W4.setCell ⟨F, y, none⟩ (.int .i64 ((d : Int) + 1))).heap.size = W4.heap.size by simp [World.setCell]] at h9
                        exact h9
                      have HF5 : Hid (NumO (W4.setCell ⟨F, y, none⟩ (.int .i64 ((d : Int) + 1))) F (F + 1) (.slice (some ⟨F, 0, none⟩) g.2.length g.2.length) (tabM (-1) (upd far' y (d + 1)) g.2.length)) := by
                        have h9 := HF4.out.set (by rw [tabM_len]) (tabM_get (-1) far' hyl) ((d + 1 : Nat) : Int)
                        rw [tabM_set] at h9
                        exact h9
                      repeat (first
                        | (at_builtin
                           refine wpList_append_win rfl _ _ rfl (F + 1) B' o' c' y W4.heap.size q' rfl (HW5a.out.kept ((But.refl _ _ _).alloc _)) (by simp [World.setCell]; omega) rfl HXC.out (by omega) ?_
                           intro B5 o5 c5 w5 hwin hbut hB5
                           have HW5 : Hid (WinO w5 (F + 1) B5 o5 c5 (q' ++ [y])) := hwin
                           have HB5 : Hid (But B' (B' + 1) (W4.setCell ⟨F, y, none⟩ (.int .i64 ((d : Int) + 1))) w5 ∧ (B5 = B' ∨ W4.heap.size + 1 ≤ B5)) := ⟨But.trans (But.of ((But.refl _ _ _).alloc _)) hbut, by simpa [World.setCell] using hB5⟩
                           clear hwin hbut hB5)
                        | go_values | go_skip | go_guarded | go_step | go_upon)
                      have hF3 : F < lo3 := by have := HFW.out; rw [HL3.out.1]; exact this
                      have hkl : k < r'.length := (List.getElem?_eq_some_iff.1 HX4.out.1).1
                      have hdr : (r' ++ [y]).drop (k + 1) = q' ++ [y] := by rw [List.drop_append_of_le_length (by omega), HQ4.out]
                      have hxy : x ≠ y := fun e => by have h1 := HX4.out.2; rw [e, HFY.out] at h1; cases h1
                      have hst : But F (F + 1) W4 (W4.setCell ⟨F, y, none⟩ (.int .i64 ((d : Int) + 1))) := (But.refl F (F + 1) W4).setCell (p := ⟨F, y, none⟩) (Nat.le_refl _) (Nat.lt_succ_self _) _
                      have hsz5 : W4.heap.size ≤ w5.heap.size := by have := HB5.out.1.size; simpa [World.setCell] using this
                      refine ⟨⟨m + 1, r' ++ [y], upd far' y (d + 1), B5, o5, c5, hmt, by go_num, by rw [hdr]; simp, HB4.out.add HX4.out.1 HX4.out.2 HZ.out.2 HFY.out, by rw [List.getElem?_append_left hkl]; exact HX4.out.1, by rw [upd_other hxy]; exact HX4.out.2, fun j z hj hz => ?_, HF5.out.but HB5.out.1 (by omega), by rw [hdr]; exact HW5.out, (HBB.out.but hst (by omega)).but HB5.out.1 (by have := HAP.out; omega), ?_, by omega, ?_⟩, by simp [intOf]; omega⟩
                      · by_cases hzy : z = y
                        · exact ⟨d + 1, by rw [hzy, upd_same]⟩
                        · rw [upd_other hzy]
                          rcases Nat.lt_succ_iff_lt_or_eq.1 hj with hj | rfl
                          · exact HVIS.out j z hj hz
                          · rw [HZ.out.1] at hz
                            injection hz with hz
                            exact absurd (by omega) hzy
                      · rcases HB5.out.2 with h1 | h1
                        · rw [h1]; exact HAP.out
                        · exact .inr (by omega)
                      · exact (HK4.out.onto hst (by have := HFS.out; omega)).onto HB5.out.1 (by have := HFS.out; omega)
                    | some e =>
                      have HFY : Hid (far' y = some e) := hfy
                      rw [hfy] at d0
                      change W4.cell? ⟨F, y, none⟩ = some (.int .i64 (e : Int)) at d0
                      have de : decide ((e : Int) < 0) = false := by simp
                      clear hfy hd4 d1
                      repeat (first | go_values | go_skip | go_guarded | go_step | go_upon)
                      refine ⟨⟨m + 1, r', far', B', o', c', hmt, by go_num, by rw [HQ4.out], HB4.out, HX4.out.1, HX4.out.2, fun j z hj hz => ?_, HF4.out, by rw [HQ4.out]; exact HWN.out, HBB.out, HAP.out, hh3, HK4.out⟩, by simp [intOf]; omega⟩
                      rcases Nat.lt_succ_iff_lt_or_eq.1 hj with hj | rfl
                      · exact HVIS.out j z hj hz
                      · rw [HZ.out.1] at hz
                        injection hz with hz
                        have : y = z := by omega
                        subst this
                        exact ⟨e, HFY.out⟩
                  · have hme : m = (besM g x g.2.length).length := by omega
                    clear hB4 hx4 hvis hf4 hw4 hb4 hap hk4
                    repeat (first | go_values | go_skip | go_guarded | go_step | go_upon)
                    go_roundg (g.2.length - (k + 1))
                    case measure => omega
                    case rel =>
                      refine ⟨r', k + 1, far', B', o', c', by omega, by rw [HQ4.out], HB4.out.next HX4.out.1 HX4.out.2 (fun y hy => ?_), HF4.out, by rw [HQ4.out]; exact HWN.out, HK4.out⟩
                      obtain ⟨i, hi⟩ := bes_has hy
                      exact HVIS.out i y (by rw [hme]; exact (List.getElem?_eq_some_iff.1 hi).1) hi
              · have hdr : r.drop k = [] := List.drop_eq_nil_of_le (by omega)
                rw [hdr]
                have HFIN : Hid (Fin8 g Y far) := hB.done' (by omega)
                have HEQ : Hid (∀ z, z < g.2.length → far z = farT g Y z) := fun z hz => farT_eq HFIN.out hz
                have HFT : Hid (Fin8 g Y (farT g Y)) := farT_is HFIN.out
                obtain ⟨d0, _⟩ := hfO.cells (tabM_get (-1) far hXl)
                rw [HEQ.out X hXl] at d0
                have LaR := La.kept hkp
                have hFw : F + 1 ≤ wr.heap.size := by have := cell_ltG d0; omega
                have x1' : (X : Int) < (g.2.length : Int) := by omega
                clear hB hfO hwn hkp hdr hlt
                cases hfx : farT g Y X with
                | none =>
                  rw [hfx] at d0
                  change wr.cell? ⟨F, X, none⟩ = some (.int .i64 (-1)) at d0
                  have HNO : Hid (¬ fewOk g (X : Int) (Y : Int)) := fun h => by
                    obtain ⟨e, he⟩ := h.2.2.2
                    simp only [Int.toNat_natCast] at he
                    rw [hfx] at he
                    cases he
                  clear hfx
                  repeat (first | go_values | go_skip | go_guarded | go_step | go_upon)
                  refine bodyPost_ret (v := .tuple #[.slice none 0 0, .bool false]) (by simp [results, Try.results29, go_sem]) rfl ?_
                  exact fewO_no HNO.out (KA.trans HKP.out)
                | some D =>
                  rw [hfx] at d0
                  change wr.cell? ⟨F, X, none⟩ = some (.int .i64 (D : Int)) at d0
                  have HFX : Hid (farT g Y X = some D) := hfx
                  have dD : decide ((D : Int) < 0) = false := by simp
                  clear hfx
                  repeat (first | go_values | go_skip | go_guarded | go_step | go_upon)
                  clear d0 dD
                  obtain ⟨W2, hW2⟩ : ∃ W, W = wr.alloc (.cells #[.int .i64 (X : Int)] 3) := ⟨_, rfl⟩
                  have kW2 : Kept wr W2 := by rw [hW2]; exact (But.refl _ _ _).alloc _
                  have HO2 : Hid (W2.ownsRow (F + 1) 3 1 (.slice (some ⟨wr.heap.size, 0, none⟩) 1 1) 1 ([(X : Int)].flatMap numC)) := by
                    have h9 : W2.ownsRow (F + 1) 3 1 (.slice (some ⟨wr.heap.size, 0, none⟩) 1 1) 1 ([(X : Int)].flatMap numC) := by
                      rw [hW2]
                      exact ⟨rfl, .inr ⟨wr.heap.size, 1, _, rfl, hFw, heap_alloc_new wr _, Nat.le_refl _, by unfold maxLen; omega, rfl, rfl⟩⟩
                    exact h9
                  have HFO2 : Hid (NumO W2 F (F + 1) (.slice (some ⟨F, 0, none⟩) g.2.length g.2.length) (tabM (-1) far g.2.length)) := HFO.out.kept kW2
                  have HKP2 : Hid (Kept w2 W2) := HKP.out.trans kW2
                  rw [← hW2]
                  clear hW2 kW2 LaR
                  go_loopg [14, 15] D (fun gk ov av wr => ∃ (x : Nat) (l : List NumD) (ao : Option Addr) (c : Nat), av = .int .i64 (x : Int) ∧ x < g.2.length ∧ farT g Y x = some gk ∧ l ++ (pathM g Y gk x).tail = pathM g Y D X ∧ ov = .slice ao l.length c ∧ wr.ownsRow (F + 1) 3 1 (.slice ao l.length c) l.length (l.flatMap numC) ∧ NumO wr F (F + 1) (.slice (some ⟨F, 0, none⟩) g.2.length g.2.length) (tabM (-1) far g.2.length) ∧ Kept w2 wr)
                  case atStart =>
                    refine ⟨X, [(X : Int)], _, 1, rfl, hXl, HFX.out, ?_, rfl, HO2.out, HFO2.out, HKP2.out⟩
                    obtain ⟨tl, htl⟩ := pathM_head g Y D X
                    rw [htl]
                    rfl
                  case round =>
                    obtain ⟨x, l, ao, c7, rfl, hxl, hgx, hpath, rfl, hown, hf7, hk7⟩ := hrel
                    have HPA : Hid (l ++ (pathM g Y gk x).tail = pathM g Y D X) := hpath
                    have HGX : Hid (farT g Y x = some gk) := hgx
                    have hll : l.length ≤ D + 1 := by
                      have h9 := congrArg List.length hpath
                      rw [List.length_append, pathM_len] at h9
                      omega
                    have hD : D < 100 := by
                      have := HB.out.small (x := X) (d := D) (by rw [HEQ.out X hXl]; exact HFX.out)
                      omega
                    have HOW : Hid (wr.ownsRow (F + 1) 3 1 (.slice ao l.length c7) l.length (l.flatMap numC)) := hown
                    have HF7 : Hid (NumO wr F (F + 1) (.slice (some ⟨F, 0, none⟩) g.2.length g.2.length) (tabM (-1) far g.2.length)) := hf7
                    have HK7 : Hid (Kept w2 wr) := hk7
                    by_cases hxy : x = Y
                    · have z1 : ((x : Int) == (Y : Int)) = true := by simp [hxy]
                      have z2 : ((x : Int) != (Y : Int)) = false := by simp [hxy]
                      have z3 : decide ((x : Int) = (Y : Int)) = true := by simp [hxy]
                      have z4 : decide (x = Y) = true := by simp [hxy]
                      have hg0 : gk = 0 := by
                        have h9 := HFT.out.a
                        have h8 := hgx
                        rw [hxy, h9] at h8
                        injection h8 with h8
                        exact h8.symm
                      have HG0 : Hid (gk = 0) := hg0
                      clear hown hf7 hk7 hgx hpath hg0 hxy
                      repeat (first | go_values | go_skip | go_guarded | go_step | go_upon)
                      refine bodyPost_ret (v := .tuple #[.slice ao l.length c7, .bool true]) (by simp [results, Try.results29, go_sem]) rfl ?_
                      have hR := fewR_yes HGG.out hXl hYl HFX.out
                      refine ⟨⟨_, by rw [hR], ?_⟩, KA.trans HK7.out⟩
                      rw [hR]
                      have hpp := HPA.out
                      rw [HG0.out] at hpp
                      simp only [pathM, List.tail_cons, List.append_nil] at hpp
                      show NumO _ _ _ _ (pathM g Y D X)
                      rw [← hpp]
                      exact RowO.mono (RowO.top HOW.out) (by have h1 := HFS.out; have h2 := KA.size; omega) (Nat.le_refl _)
                    · have z1 : ((x : Int) == (Y : Int)) = false := beq_eq_false_iff_ne.2 (by omega)
                      have z2 : ((x : Int) != (Y : Int)) = true := bne_iff_ne.2 (by omega)
                      have z3 : decide ((x : Int) = (Y : Int)) = false := decide_eq_false (by omega)
                      have z4 : decide (x = Y) = false := decide_eq_false hxy
                      obtain ⟨e0, he0⟩ : ∃ e0, gk = e0 + 1 := by
                        cases gk with
                        | zero => exact absurd (HFT.out.z x hxl hgx) hxy
                        | succ e0 => exact ⟨e0, rfl⟩
                      subst he0
                      obtain ⟨yb, hyb, hfyb⟩ := HFT.out.b x hxl e0 hgx
                      obtain ⟨ib, hib⟩ := bes_has hyb
                      have HIB : Hid ((besM g x g.2.length)[ib]? = some (yb : Int) ∧ farT g Y yb = some e0) := ⟨hib, hfyb⟩
                      have LaR := La.kept hk7
                      have a0 := LaR.cell 0 rfl
                      have a1 := LaR.cell 1 rfl
                      have HSB : Hid (Calls Try.prog 63 #[.agg #[.slice ap g.1.length cp, .slice af g.2.length cf], .int .i64 (x : Int)] wr fun e w' => (∃ v', e = .returned v' ∧ NumO w' wr.heap.size w'.heap.size v' (besM g x g.2.length)) ∧ Kept wr w') := sbeside g _ _ wr ((HF.out.kept KA).kept hk7) hg20 x hxl hl
                      have hbl := besM_len g x g.2.length
                      clear hown hf7 hk7 hgx hpath hxy hyb hib hfyb
                      repeat (first | go_values | go_skip | go_guarded | go_step | go_upon)
                      refine HSB.out.mono ?_
                      rintro e w3 ⟨⟨bv, rfl, hbo⟩, k3⟩
                      obtain ⟨ba, bc, hbf⟩ := hbo.form
                      subst hbf
                      have HBO : Hid (NumO w3 wr.heap.size w3.heap.size (.slice ba (besM g x g.2.length).length bc) (besM g x g.2.length)) := hbo
                      have HK3 : Hid (Kept wr w3) := k3
                      clear hbo k3 a0 a1 HSB z1 z2 z3 z4
                      dsimp only
                      repeat (first | go_values | go_skip | go_guarded | go_step | go_upon)
                      go_loopw [15, 106] (fun av i wz => ∃ m : Nat, m ≤ (besM g x g.2.length).length ∧ i = .int .i64 m ∧ av = .int .i64 (x : Int) ∧ (∀ (j z : Nat), j < m → (besM g x g.2.length)[j]? = some (z : Int) → farT g Y z ≠ some e0) ∧ Kept w3 wz) (fun av i _ => (besM g x g.2.length).length - (intOf i).toNat)
                      case atStart => exact ⟨0, by omega, rfl, rfl, fun j z hj => by omega, But.refl _ _ _⟩
                      case round =>
                        rename World => WZ
                        obtain ⟨m, hm', rfl, rfl, hno, hkz⟩ := hrel
                        have HNO : Hid (∀ (j z : Nat), j < m → (besM g x g.2.length)[j]? = some (z : Int) → farT g Y z ≠ some e0) := hno
                        have HKZ : Hid (Kept w3 WZ) := hkz
                        by_cases hmt : m < (besM g x g.2.length).length
                        · obtain ⟨z, hz⟩ : ∃ z : Int, (besM g x g.2.length)[m]? = some z := ⟨_, List.getElem?_eq_getElem hmt⟩
                          obtain ⟨y, hy, hadj⟩ := bes_get hz
                          subst hy
                          obtain ⟨b6, o6, cap6, e, c6⟩ := num_get (HBO.out.at.kept hkz) hz
                          cases e
                          have hyl := hadj.1
                          have hfz := (HF7.out.kept HK3.out).kept hkz
                          obtain ⟨d0, _⟩ := hfz.cells (tabM_get (-1) far hyl)
                          obtain ⟨d1, _⟩ := hfz.cells (tabM_get (-1) far hxl)
                          rw [HEQ.out y hyl] at d0
                          rw [HEQ.out x hxl, HGX.out] at d1
                          obtain ⟨e1, he1, hle1⟩ := HFT.out.c x hxl _ HGX.out y hadj
                          rw [he1] at d0
                          change WZ.cell? ⟨F, y, none⟩ = some (.int .i64 (e1 : Int)) at d0
                          change WZ.cell? ⟨F, x, none⟩ = some (.int .i64 ((e0 + 1 : Nat) : Int)) at d1
                          have HZ : Hid ((besM g x g.2.length)[m]? = some (y : Int) ∧ farT g Y y = some e1) := ⟨hz, he1⟩
                          have q1 := cell_ltG d0
                          have q2 := cell_ltG c6
                          have hy1 : (y : Int) < (g.2.length : Int) := by omega
                          have hx1 : (x : Int) < (g.2.length : Int) := by omega
                          have hge : e0 + 1 ≤ 100 := by
                            have := HB.out.small (x := x) (d := e0 + 1) (by rw [HEQ.out x hxl]; exact HGX.out)
                            omega
                          have hwr : IntKind.i64.wrap (((e0 + 1 : Nat) : Int) - 1) = (e0 : Int) := by rw [IntKind.wrap_i64]; omega
                          obtain ⟨V, hV⟩ : ∃ V : Int, V = ((e0 + 1 : Nat) : Int) := ⟨_, rfl⟩
                          rw [← hV] at d1 hwr
                          have hwr2 : V - 1 = (e0 : Int) := by omega
                          have hVb : -1000 ≤ V ∧ V ≤ 1000 := by omega
                          clear hno hkz hz hadj hfz he1 hV
                          by_cases heq : e1 = e0
                          · have t1 : ((e1 : Int) == (e0 : Int)) = true := by simp [heq]
                            have t3 : decide ((e1 : Int) = (e0 : Int)) = true := by simp [heq]
                            have t4 : decide (e1 = e0) = true := by simp [heq]
                            have HEE : Hid (e1 = e0) := heq
                            clear heq
                            repeat (first | go_values | go_skip | go_guarded | go_step | go_upon)
                            refine wp_region_kept (by kernel_rfl) (by kernel_rfl) ?_
                            have hcc := KW.cell_eq WZ
                            repeat (go_big_quiet_step (fail))
                            refine wpQuiet_nil ?_
                            rintro w9 ⟨⟨w8, k9⟩, h9⟩
                            change w9 = w8 at h9
                            subst h9
                            clear hcc
                            have HO9 : Hid (w9.ownsRow (F + 1) 3 1 (.slice ao l.length c7) l.length (l.flatMap numC)) := own_kept HOW.out ((HK3.out.trans HKZ.out).trans k9)
                            have HF9 : Hid (NumO w9 F (F + 1) (.slice (some ⟨F, 0, none⟩) g.2.length g.2.length) (tabM (-1) far g.2.length)) := ((HF7.out.kept HK3.out).kept HKZ.out).kept k9
                            have HK9 : Hid (Kept w2 w9) := ((HK7.out.trans HK3.out).trans HKZ.out).trans k9
                            have hw9 : F + 1 ≤ w9.heap.size := by have := cell_ltG (HF9.out.cells (tabM_get (-1) far hYl)).1; omega
                            clear d0 d1 c6 t1 t3 t4
                            repeat (first
                            | (at_builtin
                               refine wpList_append_own _ rfl _ _ 27 rfl (F + 1) 3 i0 (.int .i64 0) 1 8 Try.underlying27 hi0 hz0 hz1 hz2 rfl (by decide) _ _ _ rfl (own_kept HO9.out ((But.refl _ _ w9).alloc _)) ⟨w9.heap.size, 0, none⟩ 1 1 [.int .i64 (y : Int)] rfl rfl (news1 (Loc.new w9 [.int .i64 (y : Int)] 3)) (by simp [Value.oneCell']) (by unfold maxLen; omega) (by omega) (by simp; omega) ?_
                               intro v' w10 hown' hgrow _
                               obtain ⟨ao5, cap5, hf5, _⟩ := own_form hown'
                               subst hf5
                               have HK10 : Hid (Kept w2 w10) := (HK9.out.alloc _).grown hgrow (by intro x hx; have h1 := own_lt HO9.out hx; have h2 := HFS.out; omega)
                               have HO10 : Hid (w10.ownsRow (F + 1) 3 1 (.slice ao5 (l.length + 1) cap5) (l.length + 1) (l.flatMap numC ++ [.int .i64 (y : Int)])) := hown'
                               have HF10 : Hid (NumO w10 F (F + 1) (.slice (some ⟨F, 0, none⟩) g.2.length g.2.length) (tabM (-1) far g.2.length)) := RowO.grown (NumO.kept HF9.out ((But.refl 0 0 w9).alloc (.cells #[.int .i64 (y : Int)] 3))) hgrow (ap_low HF9.out (RowO.top HO9.out) (.inl (Nat.le_refl _)))
                               clear hgrow hown')
                            | go_values | go_skip | go_guarded | go_step | go_upon)
                            go_roundg e0
                            case measure => omega
                            case rel =>
                              have hye : farT g Y y = some e0 := by rw [HZ.out.2, HEE.out]
                              refine ⟨y, l ++ [(y : Int)], ao5, cap5, rfl, hyl, hye, ?_, by simp, by simpa [List.flatMap_append, numC] using HO10.out, HF10.out, HK10.out⟩
                              have hnx : y = nxt g Y x e0 := nxt_is HZ.out.1 hye HNO.out
                              have hpp := HPA.out
                              simp only [pathM, List.tail_cons] at hpp
                              rw [← hnx] at hpp
                              obtain ⟨tl, htl⟩ := pathM_head g Y e0 y
                              rw [htl] at hpp ⊢
                              rw [List.tail_cons, List.append_assoc]
                              exact hpp
                          · have t1 : ((e1 : Int) == (e0 : Int)) = false := beq_eq_false_iff_ne.2 (by omega)
                            have t3 : decide ((e1 : Int) = (e0 : Int)) = false := decide_eq_false (by omega)
                            have t4 : decide (e1 = e0) = false := decide_eq_false heq
                            have HEE : Hid (e1 ≠ e0) := heq
                            clear heq
                            repeat (first | go_values | go_skip | go_guarded | go_step | go_upon)
                            refine wp_region_kept (by kernel_rfl) (by kernel_rfl) ?_
                            have hcc := KW.cell_eq WZ
                            repeat (go_big_quiet_step (fail))
                            refine wpQuiet_nil ?_
                            rintro w9 ⟨⟨w8, k9⟩, h9⟩
                            change w9 = w8 at h9
                            subst h9
                            clear hcc
                            repeat (first | go_values | go_skip | go_guarded | go_step | go_upon)
                            refine ⟨⟨m + 1, hmt, by go_num, rfl, fun j z hj hz => ?_, HKZ.out.trans k9⟩, by simp [intOf]; omega⟩
                            rcases Nat.lt_succ_iff_lt_or_eq.1 hj with hj | rfl
                            · exact HNO.out j z hj hz
                            · rw [HZ.out.1] at hz
                              injection hz with hz
                              have : y = z := by omega
                              subst this
                              rw [HZ.out.2]
                              intro h9
                              injection h9 with h9
                              exact HEE.out h9
                        · exact absurd HIB.out.2 (hno ib yb (Nat.lt_of_lt_of_le (List.getElem?_eq_some_iff.1 HIB.out.1).1 (by omega)) HIB.out.1)
      · have hd : decide (0 ≤ y ∧ y ≤ (g.2.length : Int) - 1) = false := decide_eq_false (by omega)
        rw [hd]
        rintro e w2 ⟨rfl, rfl⟩
        have HNO : Hid (¬ fewOk g x y) := fun h => hy h.2.2.1
        clear hd hy hx
        dsimp only
        repeat (first | go_values | go_skip | go_guarded | go_step | go_upon)
        refine bodyPost_ret (v := .tuple #[.slice none 0 0, .bool false]) (by simp [results, Try.results29, go_sem]) rfl ?_
        exact fewO_no HNO.out KA
    · have hd : decide (0 ≤ x ∧ x ≤ (g.2.length : Int) - 1) = false := decide_eq_false (by omega)
      rw [hd]
      rintro e w2 ⟨rfl, rfl⟩
      have HNO : Hid (¬ fewOk g x y) := fun h => hx h.2.1
      clear hd hx
      dsimp only
      repeat (first | go_values | go_skip | go_guarded | go_step | go_upon)
      refine bodyPost_ret (v := .tuple #[.slice none 0 0, .bool false]) (by simp [results, Try.results29, go_sem]) rfl ?_
      exact fewO_no HNO.out KA
  · have he := says_false hg hs
    subst he
    have HNO : Hid (¬ fewOk g x y) := fun h => hg h.1
    clear hg hs
    dsimp only
    repeat (first | go_values | go_skip | go_guarded | go_step | go_upon)
    refine bodyPost_ret (v := .tuple #[.slice none 0 0, .bool false]) (by simp [results, Try.results29, go_sem]) rfl ?_
    exact fewO_no HNO.out KA

end Go.Proofs.Ythohgehhoogpnaa
