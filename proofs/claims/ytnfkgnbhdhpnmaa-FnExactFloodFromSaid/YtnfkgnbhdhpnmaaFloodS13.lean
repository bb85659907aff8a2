/-
  Which cells are reached, in the specification.
-/
import Derived.Test.YtnfkgnbhdhpnmaaFlood13
import Derived.Test.YtnfkgnbhdhpnmaaFlag13
import Derived.Test.YtnfkgnbhdhpnmaaWin13
import Derived.Deep.LoopGhost
import Derived.BigRegion
namespace Go.Proofs.Ytnfkgnbhdhpnmaa
open Go.ChangeShapes Go.WideShapes Go.ChangeAt Go.RowKit

set_option maxRecDepth 100000
set_option linter.unusedVariables false
theorem wpList_slice1 {P : Program} {ops : Array Oper} {rest : List Oper} {o : Oper} {a : Act} {w : World} {Q : Exit → Act → World → Prop} {v : Value} (hgd : o.guard = none) (t : TypeId) (s l : Operand) (hu : P.underlying t = some (.slice (P.elem t))) (ho : o.op = .slice t s (some l) none none)
    (hr : (Instr.slice t (a.eval s) (some (a.eval l)) none none).run P w = .ok v w) (hk : wpList P ops Q rest (a.put o.dst v) w) : wpList P ops Q (o :: rest) a w :=
  wpList_plain hgd fun _ hK => by
    unfold Oper.wp execOp
    simp only [ho, Option.map_some, Option.map_none, run_sliceAt_slice _ _ _ _ _ _ hu, hr, Sem.run_bind, Sem.run_pure, Result.andThen_ok]
    exact hK _ _ hk
/-- Which cells are seen. -/
def seenL (s : List Int) : List Bool := s.map (fun v => v != -1)
theorem seenL_len (s : List Int) : (seenL s).length = s.length := by simp [seenL]
theorem seenL_get {s : List Int} {c : Nat} (h : c < s.length) : (seenL s)[c]? = some (sv s c != -1) := by
  unfold seenL
  rw [List.getElem?_map, sv_get h]
  rfl
theorem seenL_set {s : List Int} {k : Nat} {v : Int} (hv : (v != -1) = true) : (seenL s).set k true = seenL (s.set k v) := by
  unfold seenL
  rw [List.map_set, hv]
/-- Steps at first: none but one cell. -/
def oneS (N f : Nat) : List Int := (List.replicate N (-1)).set f 0
theorem oneS_len (N f : Nat) : (oneS N f).length = N := by simp [oneS]
theorem oneS_sv {N f c : Nat} (hf : f < N) : sv (oneS N f) c = if c ∈ [f] then 0 else -1 := by
  unfold oneS
  rw [sv_set _ _ _ _ (by simpa using hf)]
  by_cases e : c = f
  · simp [e]
  · rw [if_neg e, if_neg (by simpa using e)]
    unfold sv
    rw [List.getD_eq_getElem?_getD, List.getElem?_replicate]
    split <;> rfl
set_option maxHeartbeats 16000000 in
theorem sflood (a b d : Int) (l : List Int) (x y z : Int) (ao : Option Addr) (cap : Nat) (w : World) (hv : NumAt w (.slice ao l.length cap) l) (hn : l.length ≤ 1048576) :
    Calls Try.prog 34 #[.agg #[.int .i64 a, .int .i64 b, .int .i64 d, .slice ao l.length cap], .int .i64 x, .int .i64 y, .int .i64 z] w fun e w' => ∃ v', e = .returned (.tuple #[v', .bool (floodA a b d l x y z).2]) ∧ NumO w' w.heap.size w'.heap.size v' (floodA a b d l x y z).1 ∧ Kept w w' := by
  by_cases hg : BlocksP a b d l ∧ Here a b d x y z
  · obtain ⟨n0, n1⟩ := num_lt hg.1 hg.2
    obtain ⟨N, hN⟩ := Int.eq_ofNat_of_zero_le n0
    have ha : blockA a b d l x y z = getI l (N : Int) := by rw [← hN]; exact if_pos hg
    have hat : atM a b d x y z = (N : Int) := by rw [← hN]; exact if_pos hg.2
    have hgi := getI_in hg.1 n0 n1
    rw [hN] at hgi
    have db : decide (getI l (N : Int) < 0) = false := by simp; omega
    have hR : floodA a b d l x y z = (reachL (fun c => c ∈ [N]) (EW (nxtM a b d) (fun k => (getI l (k : Int) == 0) == (getI l (N : Int) == 0)) 6) l.length, true) := by
      unfold floodA
      rw [if_pos hg, hN]
      rfl
    rw [hR]
    have hNl : N < l.length := by omega
    have hg1 := hg.1
    have HG : Hid (BlocksP a b d l) := hg1
    have hvol := hg1.edge.vol
    have hl5 := hg1.len
    have hl512 : l.length ≤ 512 := by omega
    clear hR hN n0 n1 hg hgi hvol hl5
    obtain ⟨i0, hi, hz0, hz1, hz2⟩ := info_parts info_flag
    have hmk : ∀ W : World, (Instr.makeSlice 60 (.int .i64 (l.length : Int)) (.int .i64 (l.length : Int))).run Try.prog W = .ok (.slice (some ⟨W.heap.size, 0, none⟩) l.length l.length) (W.alloc (.cells (madeCells #[.bool false] (l.length * 1)) 4)) := fun W => by
      have := run_make (P := Try.prog) W 60 4 i0 _ Try.underlying60 hi hz0 .i64 .i64 (l.length : Int) (l.length : Int) (by omega) (by omega) (by rw [hz2]; omega) (by omega)
      rw [this, hz1]
      simp [Value.cells]
    have hm := fun (W : World) => row_made W W.heap.size 4 #[.bool false] 1 (by omega) flagC flag0 flagC_len rfl l.length (Nat.le_refl _) (by unfold maxLen; omega)
    have HM : Hid (∀ W : World, FlagO (W.alloc (.cells (madeCells #[.bool false] (l.length * 1)) 4)) W.heap.size (W.heap.size + 1) (.slice (some ⟨W.heap.size, 0, none⟩) l.length l.length) (List.replicate l.length false)) := fun W => by
      have h := hm W
      unfold FlagO
      rw [List.length_replicate]
      exact h
    simp only [Nat.mul_one] at hmk HM
    clear hi hz0 hz1 hz2 hm hg1
    go_enter Try.func34, Try.ntmps34
    repeat (first | (go_at_call 21; refine (sblock _ _ _ _ _ _ _ _ _ _ (hv.kept ((But.refl _ _ _).alloc _)) (by omega)).mono ?_; rintro e u1 ⟨rfl, k1⟩; rw [ha]; have K1 : Kept w u1 := ((But.refl _ _ _).alloc _).trans k1; have L1 := (Loc.new w [.int .i64 a, .int .i64 b, .int .i64 d, .slice ao l.length cap] 25).kept k1; have v0 := L1.cell 0 rfl; have v1 := L1.cell 1 rfl; have v2 := L1.cell 2 rfl; have v3 := L1.cell 3 rfl; have vl := L1.lt; (try dsimp only)) | go_values | go_skip | go_guarded | go_step | go_upon)
    go_at_call 48
    refine (sat a b d x y z _ _ _ (num_three u1 w.heap.size x y z K1.size).at HG.out.edge).mono ?_
    rintro e u2 ⟨rfl, k2⟩
    rw [hat]
    have j2 : Kept u1 u2 := ((But.refl _ _ _).alloc _).trans k2
    have K2 := K1.trans j2
    have L2 := L1.kept j2
    clear v0 v1 v2 v3 vl k1 k2 j2 L1
    have v0 := L2.cell 0 rfl
    have v1 := L2.cell 1 rfl
    have v2 := L2.cell 2 rfl
    have v3 := L2.cell 3 rfl
    have vl := L2.lt
    have hO1 := HM.out u2
    have hst : (seenL (List.replicate l.length (-1))) = List.replicate l.length false := by simp [seenL]
    rw [← hst] at hO1
    have hgt := seenL_get (s := List.replicate l.length (-1 : Int)) (c := N) (by simpa using hNl)
    obtain ⟨d0, dz⟩ := hO1.cells hgt
    have dz0 := dz N
    have hO2 := hO1.set (by rw [seenL_len]; simp) hgt true
    rw [seenL_set (v := 0) (by rfl)] at hO2
    have HO2 : Hid (FlagO ((u2.alloc (.cells (madeCells #[.bool false] l.length) 4)).setCell ⟨u2.heap.size, N, none⟩ (.bool true)) u2.heap.size (u2.heap.size + 1) (.slice (some ⟨u2.heap.size, 0, none⟩) l.length l.length) (seenL (oneS l.length N))) := hO2
    clear dz hO1 hO2 hst hgt HM
    have zN : (N : Int) < (l.length : Int) := by omega
    (try dsimp only)
    repeat (first | go_values | go_skip | go_guarded | go_step | go_upon)
    obtain ⟨F, hF⟩ : ∃ F, F = u2.heap.size := ⟨_, rfl⟩
    obtain ⟨W1, hW1⟩ : ∃ W, W = (u2.alloc (.cells ((madeCells #[.bool false] l.length).setIfInBounds N (.bool true)) 4)).alloc (.cells #[.int .i64 (N : Int)] 3) := ⟨_, rfl⟩
    have hxx : (u2.alloc (.cells (madeCells #[.bool false] l.length) 4)).setCell ⟨u2.heap.size, N, none⟩ (.bool true) = u2.alloc (.cells ((madeCells #[.bool false] l.length).setIfInBounds N (.bool true)) 4) := by simp [go_sem]
    have hO2 := HO2.out
    rw [hxx] at hO2
    have HFA : Hid (FlagO W1 F (F + 1) (.slice (some ⟨F, 0, none⟩) l.length l.length) (seenL (oneS l.length N))) := by
      show FlagO _ _ _ _ _
      rw [hW1, hF]
      exact hO2.kept ((But.refl _ _ _).alloc _)
    have HWA : Hid (WinO W1 (F + 1) (F + 1) 0 1 [N]) := by
      show WinO _ _ _ _ _ _
      have h := WinO.one (u2.alloc (.cells ((madeCells #[.bool false] l.length).setIfInBounds N (.bool true)) 4)) (F + 1) N (by rw [hF]; simp)
      rw [← hW1] at h
      simp only [World.size_alloc, ← hF] at h
      exact h
    have HKA : Hid (Kept u2 W1) := by show Kept u2 W1; rw [hW1]; exact ((But.refl _ _ _).alloc _).alloc _
    have HFS : Hid (F = u2.heap.size) := hF
    rw [← hW1, ← hF]
    have HL2 : Hid (Loc u2 w.heap.size [.int .i64 a, .int .i64 b, .int .i64 d, .slice ao l.length cap]) := L2
    have HFW : Hid (w.heap.size < F) := by show w.heap.size < F; rw [hF]; exact vl
    obtain ⟨i0, hi0, hz0, hz1, hz2⟩ := info_parts info_num
    clear hF hW1 hxx hO2 HO2 d0 dz0 v0 v1 v2 v3 vl L2 hmk db hat ha
    go_loopg [12] (l.length) (fun gk td wr => ∃ (s : List Int) (r : List Nat) (dn B o c : Nat), gk + dn = l.length ∧ td = .slice (some ⟨B, o, none⟩) (r.drop dn).length c ∧ Hid (Inv (fun c => c ∈ [N]) (nxtM a b d) (fun k => (getI l (k : Int) == 0) == (getI l (N : Int) == 0)) l.length s r dn 0) ∧ Hid (FlagO wr F (F + 1) (.slice (some ⟨F, 0, none⟩) l.length l.length) (seenL s)) ∧ Hid (WinO wr (F + 1) B o c (r.drop dn)) ∧ Hid (Kept u2 wr))
    case atStart => exact ⟨oneS l.length N, [N], 0, F + 1, 0, 1, by omega, rfl, start_inv (oneS_len _ _) (fun c => oneS_sv hNl) (fun c hc => by simp at hc; omega) (by simp), HFA, HWA, HKA⟩
    case round =>
      clear HFA HWA HKA
      obtain ⟨s, r, dn, B, o, c, hgk, rfl, HI, HF, HW, HK⟩ := hrel
      have hdl := HI.out.dle
      have hrs := HI.out.small
      by_cases hlt : dn < r.length
      · obtain ⟨q, hx⟩ : ∃ q, r[dn]? = some q := ⟨_, List.getElem?_eq_getElem hlt⟩
        have hxl := HI.out.rng q (List.mem_of_getElem? hx)
        obtain ⟨QL, hQ⟩ : ∃ QL, r.drop dn = q :: QL ∧ r.drop (dn + 1) = QL := ⟨r.drop (dn + 1), by rw [List.drop_eq_getElem_cons hlt]; rw [List.getElem?_eq_getElem hlt] at hx; cases hx; rfl, rfl⟩
        rw [hQ.1] at HW ⊢
        have HWT : Hid (WinO wr (F + 1) B (if c = 1 then o else o + 1) (c - 1) QL) := HW.out.tail
        have hc1 : 1 ≤ c := by have := HW.out.len; simp at this; omega
        have c0 : wr.cell? ⟨B, o, none⟩ = some (.int .i64 (q : Int)) := by simpa using HW.out.cel 0 q rfl
        have hBl := HW.out.lt
        obtain ⟨O, hO⟩ : ∃ O, (if c = 1 then o else o + 1) = O := ⟨_, rfl⟩
        rw [hO] at HWT
        have hsl : ∀ W, (Instr.slice 23 (.slice (some ⟨B, o, none⟩) (QL.length + 1) c) (some (.int .i64 1)) none none).run Try.prog W = .ok (.slice (some ⟨B, O, none⟩) QL.length (c - 1)) W := fun W => by
          rw [run_slice_l W 23 _ _ _ Try.underlying23 .i64 1 (by omega) (by omega)]
          rw [← hO]
          simp [sizeOf, typeInfo, sliced, show Try.prog.elem 23 = 3 from by kernel_rfl, hi0, hz1, Addr.add]
          by_cases h9 : c = 1
          · simp [h9]
          · simp [h9]
        have HQ : Hid (r.drop (dn + 1) = QL) := hQ.2
        have HX : Hid (r[dn]? = some q) := hx
        have HHO : Hid _ := hO
        clear hx hQ hO HHO HW
        repeat (first
          | (refine wpList_slice1 rfl 23 _ _ Try.underlying23 rfl (hsl _) ?_; clear hsl)
          | go_values | go_skip | go_guarded | go_step | go_upon)
        go_loopw [12, 14] (fun td i wz => ∃ (j : Nat) (s' : List Int) (r' : List Nat) (B' o' c' : Nat), j ≤ 6 ∧ i = .int .i64 j ∧ td = .slice (some ⟨B', o', none⟩) (r'.drop (dn + 1)).length c' ∧ Hid (Inv (fun c => c ∈ [N]) (nxtM a b d) (fun k => (getI l (k : Int) == 0) == (getI l (N : Int) == 0)) l.length s' r' dn j) ∧ Hid (r'[dn]? = some q) ∧ Hid (FlagO wz F (F + 1) (.slice (some ⟨F, 0, none⟩) l.length l.length) (seenL s')) ∧ Hid (WinO wz (F + 1) B' o' c' (r'.drop (dn + 1))) ∧ Hid (Kept u2 wz)) (fun _ i _ => 6 - (intOf i).toNat)
        case atStart => exact ⟨0, s, r, B, O, c - 1, by omega, rfl, by rw [HQ.out], HI, HX, HF, by show WinO _ _ _ _ _ _; rw [HQ.out]; exact HWT.out, HK⟩
        case round =>
          rename World => W4
          clear HI HX HF HK HWT HQ hdl hrs hlt c0 hBl
          obtain ⟨j, s', r', B', o', c', hj, rfl, rfl, HI, HX, HF, HW, HK⟩ := hrel
          obtain ⟨q', hq'⟩ : ∃ q', r'.drop (dn + 1) = q' := ⟨_, rfl⟩
          have hrs := HI.out.small
          have hql : q'.length ≤ 512 := by rw [← hq', List.length_drop]; omega
          have HQ4 : Hid (r'.drop (dn + 1) = q') := hq'
          rw [hq'] at HW ⊢
          clear hq'
          by_cases hlj : j < 6
          · have v0 := (HL2.out.kept HK.out).cell 0 rfl
            have v1 := (HL2.out.kept HK.out).cell 1 rfl
            have v2 := (HL2.out.kept HK.out).cell 2 rfl
            have v3 := (HL2.out.kept HK.out).cell 3 rfl
            have hvv := HG.out.len
            have HNX : Hid (∀ u : World, Calls Try.prog 54 #[.agg #[.int .i64 a, .int .i64 b, .int .i64 d, .slice ao l.length cap], .int .i64 (q : Int), .int .i64 (j : Int)] u fun e w' => e = .returned (.int .i64 (nx a b d (q : Int) j)) ∧ Kept u w') := fun u => snext a b d (q : Int) j (.slice ao l.length cap) u HG.out.edge (by omega) (by omega) hlj
            clear hvv
            cases q2 : there a b d (q : Int) j with
            | false =>
              have hnv : nx a b d (q : Int) j = -1 := by unfold nx; rw [q2]; rfl
              have hnx : nxtM a b d q j = none := by unfold nxtM; rw [q2]; rfl
              repeat (first | (go_at_call 54; refine (HNX.out _).mono ?_; rintro e u5 ⟨rfl, k5⟩; rw [hnv]; (try dsimp only)) | go_values | go_skip | go_guarded | go_step | go_upon)
              refine wp_region_kept (by kernel_rfl) (by kernel_rfl) ?_
              have hcc := KW.cell_eq u5
              repeat (go_big_quiet_step (fail))
              refine wpQuiet_nil ?_
              rintro y1 ⟨⟨w8, k9⟩, h9⟩
              change y1 = w8 at h9
              subst h9
              clear hcc
              repeat (first | go_values | go_skip | go_guarded | go_step | go_upon)
              refine ⟨⟨j + 1, s', r', B', o', c', hlj, by go_num, by rw [HQ4.out], HI.out.skip hlj HX.out (fun k hk => by rw [hnx] at hk; cases hk) (fun k hk => by rw [hnx] at hk; cases hk), HX, HF.out.kept (k5.trans k9), by show WinO _ _ _ _ _ _; rw [HQ4.out]; exact HW.out.kept (k5.trans k9), HK.out.trans (k5.trans k9)⟩, by simp [intOf]; omega⟩
            | true =>
              obtain ⟨b0, b1⟩ := bes_lt HG.out (n := (q : Int)) (by omega) (by omega) hlj q2
              obtain ⟨k, hkb⟩ := Int.eq_ofNat_of_zero_le b0
              have hnv : nx a b d (q : Int) j = (k : Int) := by unfold nx; rw [q2, hkb]; rfl
              have hnx : nxtM a b d q j = some k := by unfold nxtM; rw [q2, hkb]; rfl
              have hkN : k < l.length := by omega
              have HXN : Hid (nxtM a b d q j = some k) := hnx
              clear hkb hnx b0 b1
              obtain ⟨g, o, rfl, e0, gl⟩ := cell_of (hv.kept (K2.trans HK.out)) (k := (k : Int)) (by omega) (by omega)
              obtain ⟨_, _, ee, e1, _⟩ := cell_of (hv.kept (K2.trans HK.out)) (k := (N : Int)) (by omega) (by omega)
              cases ee
              simp only [Int.toNat_natCast] at e0 e1
              obtain ⟨d0, dz⟩ := HF.out.cells (seenL_get (s := s') (c := k) (by rw [HI.out.len]; exact hkN))
              have dz0 := dz k
              clear dz
              have zk : (k : Int) < (l.length : Int) := by omega
              by_cases hs : sv s' k = -1
              · rw [show (sv s' k != -1) = false by rw [hs]; rfl] at d0
                cases q3 : ((getI l (k : Int) == 0) == (getI l (N : Int) == 0)) with
                | false =>
                  repeat (first | (go_at_call 54; refine (HNX.out _).mono ?_; rintro e u5 ⟨rfl, k5⟩; rw [hnv]; have d5 := Kept.cell k5 d0; have e5 := Kept.cell k5 e0; have e6 := Kept.cell k5 e1; have v5 := Kept.cell k5 v3; have dl5 := cell_ltG d5; have el5 := cell_ltG e5; have vl5 := cell_ltG v5; (try dsimp only)) | go_values | go_skip | go_guarded | go_step | go_upon)
                  refine wp_region_kept (by kernel_rfl) (by kernel_rfl) ?_
                  have hcc := KW.cell_eq u5
                  repeat (go_big_quiet_step (fail))
                  refine wpQuiet_nil ?_
                  rintro y1 ⟨⟨w8, k9⟩, h9⟩
                  change y1 = w8 at h9
                  subst h9
                  clear hcc
                  repeat (first | go_values | go_skip | go_guarded | go_step | go_upon)
                  refine ⟨⟨j + 1, s', r', B', o', c', hlj, by go_num, by rw [HQ4.out], HI.out.skip hlj HX.out (fun k' hk => by rw [HXN.out] at hk; cases hk; exact hkN) (fun k' hk he => by rw [HXN.out] at hk; cases hk; rw [q3] at he; cases he), HX, HF.out.kept (k5.trans k9), by show WinO _ _ _ _ _ _; rw [HQ4.out]; exact HW.out.kept (k5.trans k9), HK.out.trans (k5.trans k9)⟩, by simp [intOf]; omega⟩
                | true =>
                  repeat (first | (go_at_call 54; refine (HNX.out _).mono ?_; rintro e u5 ⟨rfl, k5⟩; rw [hnv]; have d5 := Kept.cell k5 d0; have e5 := Kept.cell k5 e0; have e6 := Kept.cell k5 e1; have v5 := Kept.cell k5 v3; have dl5 := cell_ltG d5; have el5 := cell_ltG e5; have vl5 := cell_ltG v5; (try dsimp only)) | go_values | go_skip | go_guarded | go_step | go_upon)
                  refine wp_region_kept (by kernel_rfl) (by kernel_rfl) ?_
                  have hcc := KW.cell_eq u5
                  repeat (go_big_quiet_step (fail))
                  refine wpQuiet_nil ?_
                  rintro y1 ⟨⟨w8, k9⟩, h9⟩
                  change y1 = w8 at h9
                  subst h9
                  clear hcc
                  have hqr := List.mem_of_getElem? HX.out
                  obtain ⟨m0, hm0, _⟩ := HI.out.val q hqr
                  have HF9 := HF.out.kept (k5.trans k9)
                  have d9 := Kept.cell k9 d5
                  have dz9 := (HF9.cells (seenL_get (s := s') (c := k) (by rw [HI.out.len]; exact hkN))).2 k
                  have HF2 := HF9.set (by rw [seenL_len, HI.out.len]) (seenL_get (s := s') (c := k) (by rw [HI.out.len]; exact hkN)) true
                  rw [seenL_set (v := sv s' q + 1) (by rw [hm0]; simp; omega)] at HF2
                  have HF2 : Hid (FlagO (y1.setCell ⟨F, k, none⟩ (.bool true)) F (F + 1) (.slice (some ⟨F, 0, none⟩) l.length l.length) (seenL (s'.set k (sv s' q + 1)))) := HF2
                  have hFB : F + 1 ≤ B' := HW.out.low
                  have hyl : F + 1 ≤ y1.heap.size := by have := (HW.out.kept (k5.trans k9)).lt; omega
                  have HW5a : Hid (WinO (y1.setCell ⟨F, k, none⟩ (.bool true)) (F + 1) B' o' c' q') := (HW.out.kept (k5.trans k9)).but ((But.refl F (F + 1) y1).setCell (p := ⟨F, k, none⟩) (Nat.le_refl _) (Nat.lt_succ_self _) _) (by omega)
                  have HXC : Hid (((y1.setCell ⟨F, k, none⟩ (.bool true)).alloc (.cells #[.int .i64 (k : Int)] 3)).cell? ⟨y1.heap.size, 0, none⟩ = some (.int .i64 (k : Int))) := by
                    have h9 := (Loc.new (y1.setCell ⟨F, k, none⟩ (.bool true)) [.int .i64 (k : Int)] 3).cell 0 rfl
                    rw [show (y1.setCell ⟨F, k, none⟩ (.bool true)).heap.size = y1.heap.size by simp [World.setCell]] at h9
                    exact h9
                  have HTK : Hid _ := HI.out.take hlj HX.out HXN.out hkN q3 hs
                  have HK9 : Hid (Kept u2 y1) := HK.out.trans (k5.trans k9)
                  clear HF9 hm0 d5 e5 e6 v5 dl5 el5 vl5 d0 e0 e1 v0 v1 v2 v3 dz0 k5 k9
                  repeat (first
                    | (at_builtin
                       refine wpList_append_win rfl _ _ rfl (F + 1) B' o' c' k y1.heap.size q' rfl (HW5a.out.kept ((But.refl _ _ _).alloc _)) (by simp [World.setCell]; omega) rfl HXC.out (by omega) ?_
                       intro B5 o5 c5 w5 hwin hbut hB5
                       have HW5 : Hid (WinO w5 (F + 1) B5 o5 c5 (q' ++ [k])) := hwin
                       have HB5 : Hid (But B' (B' + 1) (y1.setCell ⟨F, k, none⟩ (.bool true)) w5) := But.trans (But.of ((But.refl _ _ _).alloc _)) hbut
                       clear hwin hbut hB5)
                    | go_values | go_skip | go_guarded | go_step | go_upon)
                  have hkl : dn < r'.length := (List.getElem?_eq_some_iff.1 HX.out).1
                  have hdr : (r' ++ [k]).drop (dn + 1) = q' ++ [k] := by rw [List.drop_append_of_le_length (by omega), HQ4.out]
                  have hst : But F (F + 1) y1 (y1.setCell ⟨F, k, none⟩ (.bool true)) := (But.refl F (F + 1) y1).setCell (p := ⟨F, k, none⟩) (Nat.le_refl _) (Nat.lt_succ_self _) _
                  have hfs := HFS.out
                  exact ⟨⟨j + 1, s'.set k (sv s' q + 1), r' ++ [k], B5, o5, c5, hlj, by go_num, by rw [hdr]; simp, HTK, by show _ = _; rw [List.getElem?_append_left hkl]; exact HX.out, HF2.out.but HB5.out (by omega), by show WinO _ _ _ _ _ _; rw [hdr]; exact HW5.out, (HK9.out.onto hst (by omega)).onto HB5.out (by omega)⟩, by simp [intOf]; omega⟩
              · rw [show (sv s' k != -1) = true by simpa using hs] at d0
                repeat (first | (go_at_call 54; refine (HNX.out _).mono ?_; rintro e u5 ⟨rfl, k5⟩; rw [hnv]; have d5 := Kept.cell k5 d0; have e5 := Kept.cell k5 e0; have e6 := Kept.cell k5 e1; have v5 := Kept.cell k5 v3; have dl5 := cell_ltG d5; have el5 := cell_ltG e5; have vl5 := cell_ltG v5; (try dsimp only)) | go_values | go_skip | go_guarded | go_step | go_upon)
                refine wp_region_kept (by kernel_rfl) (by kernel_rfl) ?_
                have hcc := KW.cell_eq u5
                repeat (go_big_quiet_step (fail))
                refine wpQuiet_nil ?_
                rintro y1 ⟨⟨w8, k9⟩, h9⟩
                change y1 = w8 at h9
                subst h9
                clear hcc
                repeat (first | go_values | go_skip | go_guarded | go_step | go_upon)
                refine ⟨⟨j + 1, s', r', B', o', c', hlj, by go_num, by rw [HQ4.out], HI.out.skip hlj HX.out (fun k' hk => by rw [HXN.out] at hk; cases hk; exact hkN) (fun k' hk _ => by rw [HXN.out] at hk; cases hk; exact hs), HX, HF.out.kept (k5.trans k9), by show WinO _ _ _ _ _ _; rw [HQ4.out]; exact HW.out.kept (k5.trans k9), HK.out.trans (k5.trans k9)⟩, by simp [intOf]; omega⟩
          · have hje : j = 6 := by omega
            subst hje
            repeat (first | go_values | go_skip | go_guarded | go_step | go_upon)
            have hdn : dn < r'.length := (List.getElem?_eq_some_iff.1 HX.out).1
            go_roundg (l.length - (dn + 1))
            case measure => omega
            case rel =>
              exact ⟨s', r', dn + 1, B', o', c', by omega, by rw [HQ4.out], HI.out.next hdn, HF, by show WinO _ _ _ _ _ _; rw [HQ4.out]; exact HW.out, HK⟩
      · have hdr : r.drop dn = [] := List.drop_eq_nil_of_le (by omega)
        rw [hdr]
        simp only [List.length_nil]
        have hde : dn = r.length := by omega
        subst hde
        have HD := HI.out.fin
        repeat (first | go_values | go_skip | go_guarded | go_step | go_upon)
        have HRL : Hid (cutL (fun c => sv s c != -1) l.length = reachL (fun x => x ∈ [N]) (EW (nxtM a b d) (fun k => (getI l (k : Int) == 0) == (getI l (N : Int) == 0)) 6) l.length) := by
          show cutL _ _ = _
          exact cut_reach (fun c hc => dist_reach (HD c hc))
        have HK0 : Hid (Kept u2 wr) := HK
        have KE := K2.trans HK.out
        have hsl := HI.out.len
        clear HD HK hlt hdl hrs hdr
        rename World => wo
        go_loopw [16, 89] (fun x i wr => ∃ (k : Nat) (ao' : Option Addr) (c' m : Nat), k ≤ l.length ∧ i = .int .i64 k ∧ Hid (m = (cutL (fun c => sv s c != -1) k).length) ∧ x = .slice ao' m c' ∧ Hid (wr.ownsRow wo.heap.size 3 1 (.slice ao' m c') m ((cutL (fun c => sv s c != -1) k).flatMap numC)) ∧ Hid (Kept wo wr)) (fun _ i _ => l.length - (intOf i).toNat)
        case atStart => exact ⟨0, none, 0, 0, by omega, rfl, rfl, rfl, World.ownsRow_nil _ _ _ _, But.refl _ _ _⟩
        case round =>
          obtain ⟨k, ao', c', m, hk, rfl, HM, rfl, HO, HK⟩ := hrel
          by_cases hlt : k < l.length
          · have hml := cutL_len (fun c => sv s c != -1) k
            rw [← HM.out] at hml
            have hwz := HK.out.size
            obtain ⟨c0, -⟩ := (HF.out.kept HK.out).cells (seenL_get (s := s) (c := k) (by omega))
            cases q : sv s k != -1 with
            | true =>
              have hp : (fun c => sv s c != -1) k = true := q
              have HP : Hid ((fun c => sv s c != -1) k = true) := hp
              clear hp
              repeat (first
                | (at_builtin
                   refine wpList_append_own _ rfl _ _ 23 rfl wo.heap.size 3 i0 (.int .i64 0) 1 8 Try.underlying23 hi0 hz0 hz1 hz2 rfl (by decide) _ _ _ rfl (own_kept HO.out ((But.refl _ _ wr).alloc _)) ⟨wr.heap.size, 0, none⟩ 1 1 [.int .i64 (k : Int)] rfl rfl (news1 (Loc.new wr [.int .i64 (k : Int)] 3)) (by simp [Value.oneCell']) (by unfold maxLen; omega) (by omega) (by simp; omega) ?_
                   intro v' w2 hown' hgrow _
                   obtain ⟨ao5, cap5, hf5, _⟩ := own_form hown'
                   subst hf5
                   have HK5 : Hid (Kept wo w2) := (HK.out.alloc _).grown hgrow (by intro x hx; have := own_lt HO.out hx; omega)
                   have HW : Hid (w2.ownsRow wo.heap.size 3 1 (.slice ao5 (m + 1) cap5) (m + 1) ((cutL (fun c => sv s c != -1) k).flatMap numC ++ [.int .i64 (k : Int)])) := hown'
                   clear hgrow hown')
                | go_values | go_skip | go_guarded | go_step | go_upon)
              refine ⟨⟨k + 1, ao5, cap5, m + 1, hlt, by go_num, ?_, rfl, ?_, HK5⟩, by simp [intOf]; omega⟩
              · show m + 1 = _
                rw [cutL_yes HP.out, HM.out]; simp
              · show World.ownsRow _ _ _ _ _ _ _
                rw [cutL_yes HP.out, List.flatMap_append]
                exact HW.out
            | false =>
              have hp : (fun c => sv s c != -1) k = false := q
              have HP : Hid ((fun c => sv s c != -1) k = false) := hp
              clear hp
              repeat (first | go_values | go_skip | go_guarded | go_step | go_upon)
              refine ⟨⟨k + 1, ao', c', m, hlt, by go_num, ?_, rfl, ?_, HK⟩, by simp [intOf]; omega⟩
              · show m = _
                rw [cutL_no HP.out]; exact HM.out
              · show World.ownsRow _ _ _ _ _ _ _
                rw [cutL_no HP.out]; exact HO.out
          · have hke : k = l.length := by omega
            subst hke
            repeat (first | go_values | go_skip | go_guarded | go_step | go_upon)
            go_returns
            refine ⟨_, rfl, ?_, KE.trans HK.out⟩
            have h := RowO.top HO.out
            have hm := HM.out
            have hz := KE.size
            have h2 := NumO.mono (lo' := w.heap.size) (hi' := wr.heap.size) (show NumO wr wo.heap.size wr.heap.size (.slice ao' m c') (cutL (fun c => sv s c != -1) l.length) by unfold NumO; rw [← hm]; exact h) hz (Nat.le_refl _)
            rw [HRL.out] at h2
            exact h2
  · rw [show floodA a b d l x y z = ([], false) from if_neg hg]
    have ha : blockA a b d l x y z = -1 := if_neg hg
    go_enter Try.func34, Try.ntmps34
    repeat (first | (go_at_call 21; refine (sblock _ _ _ _ _ _ _ _ _ _ (hv.kept ((But.refl _ _ _).alloc _)) (by omega)).mono ?_; rintro e u1 ⟨rfl, k1⟩; rw [ha]; have K1 : Kept w u1 := ((But.refl _ _ _).alloc _).trans k1; have L1 := (Loc.new w [.int .i64 a, .int .i64 b, .int .i64 d, .slice ao l.length cap] 25).kept k1; have v0 := L1.cell 0 rfl; have v1 := L1.cell 1 rfl; have v2 := L1.cell 2 rfl; have v3 := L1.cell 3 rfl; have vl := L1.lt; (try dsimp only)) | go_values | go_skip | go_guarded | go_step | go_upon)
    go_returns
    exact ⟨_, rfl, RowO.top (World.ownsRow_nil _ _ _ _), K1⟩

end Go.Proofs.Ytnfkgnbhdhpnmaa
