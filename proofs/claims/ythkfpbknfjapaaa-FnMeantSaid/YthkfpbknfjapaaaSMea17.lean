/-
  MeantBy in the specification.
-/
import Derived.Test.YthkfpbknfjapaaaSMeaA17
import Derived.Test.YthkfpbknfjapaaaIMea17
namespace Go.Proofs.Ythkfpbknfjapaaa
open Go.ChangeShapes Go.WideShapes Go.ChangeAt Go.RowKit

set_option maxRecDepth 100000
set_option linter.unusedVariables false

theorem cast_meant {w : World} {lo hi : Nat} {v : Value} {ps qs : List MeantD} (e : ps = qs) (h : MeantO w lo hi v ps) : MeantO w lo hi v qs := by subst e; exact h

set_option maxHeartbeats 16000000 in
theorem smeant (l : List BindD) (es : List PressD) (ao : Option Addr) (cap : Nat) (v2 : Value) (w : World) (hv : BindsAt w (.slice ao l.length cap) l) (hcap : l.length ≤ cap ∧ cap ≤ 9223372036854775807) (hv2 : PressAt w v2 es) (hn : bindsCost l ≤ 1048576) (hn2 : es.length ≤ 1048576) :
    Calls Try.prog 12 #[.slice ao l.length cap, v2] w fun e w' => ∃ v', e = .returned (.tuple #[v', .bool (meaA l es).2]) ∧ MeantO w' w.heap.size w'.heap.size v' (meaA l es).1 ∧ Kept w w' := by
  obtain ⟨a2, p2, hsl⟩ := row_nil hv2
  subst hsl
  rcases (Classical.em (BindsP l)).symm with h1 | h1
  · have dm : dec (BindsP l) = false := dec_no h1
    rw [meaA_no (fun h => h1 h.1)]
    go_enter Try.func12, Try.ntmps12
    repeat (first | (go_at_call 14; refine (sgbinds l ao cap _ hv hcap hn).mono ?_; rintro e w1 ⟨rfl, k1⟩; rw [dm]; dsimp only) | go_values | go_skip | go_guarded | go_step | go_upon)
    go_ret2
    exact ⟨_, rfl, nil_meant _ _ _, k1⟩
  have dm : dec (BindsP l) = true := dec_yes h1
  rcases (Classical.em (PrssP es)).symm with h2 | h2
  · have dp : dec (PrssP es) = false := dec_no h2
    rw [meaA_no (fun h => h2 h.2)]
    go_enter Try.func12, Try.ntmps12
    repeat (first | (go_at_call 14; refine (sgbinds l ao cap _ hv hcap hn).mono ?_; rintro e w1 ⟨rfl, k1⟩; rw [dm]; dsimp only) | (go_at_call 51; refine (sprss es _ _ (hv2.kept k1) hn2).mono ?_; rintro e w2 ⟨rfl, k2⟩; rw [dp]; dsimp only) | go_values | go_skip | go_guarded | go_step | go_upon)
    go_ret2
    exact ⟨_, rfl, nil_meant _ _ _, k1.trans k2⟩
  have dp : dec (PrssP es) = true := dec_yes h2
  rw [meaA_yes ⟨h1, h2⟩]
  dsimp only
  have hl20 := h1.1
  have he200 := h2.1
  have HB1 : Hid (BindsP l) := h1
  have HP1 : Hid (PrssP es) := h2
  obtain ⟨i0, hi, hz0, hz1, hz2⟩ := info_parts info_flag
  have hmk : ∀ W : World, (Instr.makeSlice 79 (.int .i64 (l.length : Int)) (.int .i64 (l.length : Int))).run Try.prog W = .ok (.slice (some ⟨W.heap.size, 0, none⟩) l.length l.length) (W.alloc (.cells (madeCells #[.bool false] (l.length * 1)) 4)) := fun W => by
    have := run_make (P := Try.prog) W 79 4 i0 _ Try.underlying79 hi hz0 .i64 .i64 (l.length : Int) (l.length : Int) (by omega) (by omega) (by rw [hz2]; omega) (by omega)
    rw [this, hz1]
    simp [Value.cells]
  have hm := fun (W : World) => row_made W W.heap.size 4 #[.bool false] 1 (by omega) flagC flag0 flagC_len rfl l.length (Nat.le_refl _) (by unfold maxLen; omega)
  have HM : Hid (∀ W : World, FlagO (W.alloc (.cells (madeCells #[.bool false] (l.length * 1)) 4)) W.heap.size (W.heap.size + 1) (.slice (some ⟨W.heap.size, 0, none⟩) l.length l.length) (l.map (onB l []))) := fun W => by
    have h := hm W
    rw [← flags0 HB1.out]
    unfold FlagO
    rw [List.length_replicate]
    exact h
  simp only [Nat.mul_one] at hmk HM
  clear hi hz0 hz1 hz2 hm i0
  go_enter Try.func12, Try.ntmps12
  repeat (first | (go_at_call 14; refine (sgbinds l ao cap _ hv hcap hn).mono ?_; rintro e w1 ⟨rfl, k1⟩; rw [dm]; dsimp only) | (go_at_call 51; refine (sprss es _ _ (hv2.kept k1) hn2).mono ?_; rintro e w2 ⟨rfl, k2⟩; rw [dp]; dsimp only) | go_values | go_skip | go_guarded | go_step | go_upon)
  clear dm dp h1 h2 hmk
  have K2 : Kept w w2 := k1.trans k2
  have s2 := K2.size
  have FL0 := HM.out w2
  have K3 : Kept w2 (w2.alloc (.cells (madeCells #[.bool false] l.length) 4)) := (But.refl _ _ w2).alloc _
  obtain ⟨L, hL⟩ : ∃ L, w2.heap.size = L := ⟨_, rfl⟩
  have s3 : (w2.alloc (.cells (madeCells #[.bool false] l.length) 4)).heap.size = L + 1 := by rw [← hL]; simp
  rw [hL] at FL0 ⊢
  generalize w2.alloc (.cells (madeCells #[.bool false] l.length) 4) = w3 at *
  have HL : Hid (w2.heap.size = L) := hL
  have HWL : Hid (w.heap.size ≤ L) := by show _ ≤ _; omega
  clear HM k1 k2 hL
  go_loopw [6, 7, 8, 27] (fun ov kv wv i wr => ∃ (k : Nat), k ≤ es.length ∧ i = .int .i64 k ∧ MeantO wr L wr.heap.size ov (meaK l es k) ∧ NumO wr L wr.heap.size kv (prK es k) ∧ FlagO wr L wr.heap.size wv (l.map (onB l (prK es k))) ∧ Kept w2 wr) (fun ov kv wv i _ => es.length - (intOf i).toNat)
  case atStart => exact ⟨0, by omega, rfl, nil_meant _ _ _, nil_num _ _ _, FL0.mono (Nat.le_refl _) (by omega), K3⟩
  case round =>
    obtain ⟨k, hk, rfl, ov, okv, owv, hkp⟩ := hrel
    obtain ⟨aX, pX, hf⟩ := ov.form
    subst hf
    obtain ⟨aK, pK, hf⟩ := okv.form
    subst hf
    obtain ⟨aW, pW, hf⟩ := owv.form
    subst hf
    rw [List.length_map] at owv ⊢
    have hml := meaK_len hl20 es k
    have hpl := prK_len es k
    clear FL0 K3 s3
    have hsr := hkp.size
    rw [HL.out] at hsr
    by_cases hlt : k < es.length
    · obtain ⟨d, hd⟩ : ∃ p, es[k]? = some p := ⟨_, List.getElem?_eq_getElem hlt⟩
      obtain ⟨b, o, cap', ee, c0, c1, c2⟩ := press_get (hv2.kept (K2.trans hkp)) hd
      cases ee
      have HPN : Hid (prK es (k + 1) = pressL (prK es k) d) := prK_next hd
      have HMN1 : Hid (meaK l es (k + 1) = meaK l es k ++ evK l d.1 (prK es k) (prK es (k + 1)) l.length) := meaK_next hd
      have hpl1 := prK_len es (k + 1)
      obtain ⟨t0, ky, dn⟩ := d
      dsimp only at c0 c1 c2 HPN HMN1
      obtain ⟨H, hH⟩ : ∃ H, prK es k = H := ⟨_, rfl⟩
      rw [hH] at okv owv HPN HMN1 hpl ⊢
      obtain ⟨H', hH'⟩ : ∃ H, prK es (k + 1) = H := ⟨_, rfl⟩
      rw [hH'] at HPN HMN1 hpl1
      obtain ⟨ML, hML⟩ : ∃ M, meaK l es k = M := ⟨_, rfl⟩
      rw [hML] at ov HMN1 hml ⊢
      have HH' : Hid (prK es (k + 1) = H') := hH'
      have hcK := cap_num okv
      have OV : Hid (MeantO wr L wr.heap.size (.slice aX ML.length pX) ML) := ov
      have OW : Hid (FlagO wr L wr.heap.size (.slice aW l.length pW) (l.map (onB l H))) := owv
      have HPR : Hid (Calls Try.prog 52 #[.slice aK H.length pK, .agg #[.int .i64 t0, .int .i64 ky, .bool dn]] (wr.alloc (.cells #[.int .i64 t0, .int .i64 ky, .bool dn] 82)) fun e w' => ∃ ao' cap', e = .returned (.slice ao' H'.length cap') ∧ NumO w' L w'.heap.size (.slice ao' H'.length cap') H' ∧ (H'.length ≤ cap' ∧ cap' ≤ 9223372036854775807) ∧ Kept (wr.alloc (.cells #[.int .i64 t0, .int .i64 ky, .bool dn] 82)) w') := by
        rw [HPN.out]
        exact spressO H t0 ky dn aK pK _ L wr.heap.size (okv.kept ((But.refl _ _ _).alloc _)) (by simp; omega) hcK (by omega)
      have HSH : Hid (∀ (u : World) (v : Value), Kept wr u → NumAt u v H' → Calls Try.prog 53 #[.slice ao l.length cap, v] u fun e w' => ∃ v', e = .returned v' ∧ FlagO w' u.heap.size w'.heap.size v' (l.map (onB l H')) ∧ Kept u w') := fun u v ku hu => sholds l H' ao cap v u (hv.kept ((K2.trans hkp).trans ku)) hu hl20 (fun d hd => by
        obtain ⟨i, hi⟩ := List.mem_iff_getElem?.1 hd
        exact (bnd_key HB1.out hi).1) (by omega)
      have HK : Hid (Kept w2 wr) := hkp
      have LE0 : Hid (Loc (wr.alloc (.cells #[.int .i64 t0, .int .i64 ky, .bool dn] 82)) wr.heap.size [.int .i64 t0, .int .i64 ky, .bool dn]) := Loc.new wr [.int .i64 t0, .int .i64 ky, .bool dn] 82
      clear ov okv owv hkp hd hH hH' hML HPN hcK
      repeat (first | go_values | go_skip | go_guarded | go_step | go_upon)
      go_at_call 52
      refine HPR.out.mono ?_
      rintro e w6 ⟨a6, p6, rfl, o6, q6, k6⟩
      dsimp only
      have K6 : Hid (Kept wr w6) := ((But.refl _ _ wr).alloc _).trans k6
      have O6 : Hid (NumO w6 L w6.heap.size (.slice a6 H'.length p6) H') := o6
      have LE6 : Hid (Loc w6 wr.heap.size [.int .i64 t0, .int .i64 ky, .bool dn]) := LE0.out.kept k6
      clear o6 q6 k6 LE0 HPR
      repeat (first | go_values | go_skip | go_guarded | go_step | go_upon)
      go_at_call 53
      refine (HSH.out w6 _ K6.out O6.out.at).mono ?_
      rintro e w7 ⟨v7, rfl, o7, k7⟩
      obtain ⟨aN, pN, hf⟩ := o7.form
      subst hf
      rw [List.length_map] at o7 ⊢
      dsimp only
      have K17 : Kept wr w7 := K6.out.trans k7
      have s17 := K17.size
      have s67 := k7.size
      have s16 := K6.out.size
      obtain ⟨E, hE⟩ : ∃ E, wr.heap.size = E := ⟨_, rfl⟩
      have X7 : MeantO w7 L w7.heap.size (.slice aX ML.length pX) (ML ++ evK l t0 H H' 0) := by
        have := (OV.out.kept K17).low
        simpa [evK] using this
      have N7 : FlagO w7 L w7.heap.size (.slice aN l.length pN) (l.map (onB l H')) := (o7.mono (by omega) (Nat.le_refl _))
      have W7 : FlagO w7 L w7.heap.size (.slice aW l.length pW) (l.map (onB l H)) := (OW.out.kept K17).low
      have P7 : NumO w7 L w7.heap.size (.slice a6 H'.length p6) H' := (O6.out.kept k7).low
      have E7 : Loc w7 E [.int .i64 t0, .int .i64 ky, .bool dn] := by rw [← hE]; exact LE6.out.kept k7
      have NE7 : ∀ g, (Value.slice aX ML.length pX).ownBlock = some g → g ≠ E := fun g hg => by
        have := OV.out.2 g hg
        omega
      have KW7 : Kept w2 w7 := HK.out.trans K17
      have hLE : L ≤ E := by omega
      have hE7 := E7.lt
      rw [hE]
      clear o7 k7 K17 s17 s67 s16 hE OV OW O6 K6 LE6 HSH HK c0 c1 c2
      repeat (first | go_values | go_skip | go_guarded | go_step | go_upon)
      go_loopw [6, 39] (fun xv i wz => ∃ (j : Nat), j ≤ l.length ∧ i = .int .i64 j ∧ MeantO wz L wz.heap.size xv (ML ++ evK l t0 H H' j) ∧ (∀ g, xv.ownBlock = some g → g ≠ E) ∧ FlagO wz L wz.heap.size (.slice aN l.length pN) (l.map (onB l H')) ∧ FlagO wz L wz.heap.size (.slice aW l.length pW) (l.map (onB l H)) ∧ NumO wz L wz.heap.size (.slice a6 H'.length p6) H' ∧ Loc wz E [.int .i64 t0, .int .i64 ky, .bool dn] ∧ Kept w2 wz) (fun xv i _ => l.length - (intOf i).toNat)
      case atStart => exact ⟨0, by omega, rfl, X7, NE7, N7, W7, P7, E7, KW7⟩
      case round =>
        rename World => wz
        obtain ⟨j, hj, rfl, xz, nez, nz, wwz, pz, lz, kz⟩ := hrel
        clear X7 NE7 N7 W7 P7 E7 KW7 hE7
        have hel := evK_len l t0 H H' j
        obtain ⟨X, hXE⟩ : ∃ X, ML ++ evK l t0 H H' j = X := ⟨_, rfl⟩
        have hXl : X.length ≤ 100000 := by rw [← hXE, List.length_append]; omega
        rw [hXE] at xz
        obtain ⟨aY, pY, hf⟩ := xz.form
        subst hf
        have HXE : Hid (ML ++ evK l t0 H H' j = X) := hXE
        clear hXE hel
        have hsz := kz.size
        rw [HL.out] at hsz
        by_cases hltj : j < l.length
        · obtain ⟨d, hdj⟩ : ∃ p, l[j]? = some p := ⟨_, List.getElem?_eq_getElem hltj⟩
          obtain ⟨bb, ob, capb, s, ee, c0, c1, hka⟩ := (hv.kept (K2.trans kz)).get hdj
          cases ee
          have HDJ : Hid (l[j]? = some d) := hdj
          obtain ⟨x, hx⟩ : ∃ x, onB l H' d = x := ⟨_, rfl⟩
          obtain ⟨y, hy⟩ : ∃ y, onB l H d = y := ⟨_, rfl⟩
          obtain ⟨bn, on, cn, ee, nc⟩ := flag_get nz.at (show (l.map (onB l H'))[j]? = some x by rw [List.getElem?_map, hdj, Option.map_some, hx])
          rw [List.length_map] at ee
          cases ee
          obtain ⟨bo, oo, co, ee, oc⟩ := flag_get wwz.at (show (l.map (onB l H))[j]? = some y by rw [List.getElem?_map, hdj, Option.map_some, hy])
          rw [List.length_map] at ee
          cases ee
          obtain ⟨nm, ch⟩ := d
          dsimp only at c0 c1 hka
          obtain ⟨ah, ph, hsl⟩ := row_nil hka
          subst hsl
          have HX : Hid (onB l H' (nm, ch) = x ∧ onB l H (nm, ch) = y) := ⟨hx, hy⟩
          have XZ : Hid (MeantO wz L wz.heap.size (.slice aY X.length pY) X) := xz
          have NEZ : Hid (∀ g, (Value.slice aY X.length pY).ownBlock = some g → g ≠ E) := nez
          have NZ : Hid (FlagO wz L wz.heap.size (.slice (some ⟨bn, on, none⟩) l.length pN) (l.map (onB l H'))) := nz
          have WZ : Hid (FlagO wz L wz.heap.size (.slice (some ⟨bo, oo, none⟩) l.length pW) (l.map (onB l H))) := wwz
          have PZ : Hid (NumO wz L wz.heap.size (.slice a6 H'.length p6) H') := pz
          have LZ : Hid (Loc wz E [.int .i64 t0, .int .i64 ky, .bool dn]) := lz
          have HKZ : Hid (Kept w2 wz) := kz
          have HK3 : Hid (Kept wz (wz.alloc (.cells #[.string nm, .slice ah ch.length ph] 85))) := (But.refl _ _ wz).alloc _
          have LD0 := Loc.new wz [.string nm, .slice ah ch.length ph] 85
          obtain ⟨D, hD⟩ : ∃ D, wz.heap.size = D := ⟨_, rfl⟩
          have LD : Hid (Loc (wz.alloc (.cells #[.string nm, .slice ah ch.length ph] 85)) D [.string nm, .slice ah ch.length ph]) := by rw [← hD]; exact LD0
          have HDZ : Hid (wz.heap.size = D) := hD
          have nc := Kept.cell HK3.out nc
          have oc := Kept.cell HK3.out oc
          have hk1 : (0 : Int) ≤ (j : Int) := by omega
          have hk2 : (j : Int) < (l.length : Int) := by omega
          clear hx hy hdj hka xz nez nz wwz pz lz kz LD0 hD
          repeat (go_not_at_region 14; first | go_values | go_skip | go_guarded | go_step | go_upon)
          rw [HDZ.out]
          generalize wz.alloc (.cells #[.string nm, .slice ah ch.length ph] 85) = w3 at *
          have m3 := LD.out.cell 0 rfl
          have hbn : bn < w3.heap.size := World.block_lt_of_cell? _ _ nc
          have hbo : bo < w3.heap.size := World.block_lt_of_cell? _ _ oc
          clear c0 c1
          cases x with
          | true => cases y with
            | true =>
              repeat (first | go_values | go_skip | go_guarded | go_step | go_upon)
              refine wp_region_kept (by kernel_rfl) (by kernel_rfl) ?_
              have hcc := @KW.cell_eq
              repeat (go_big_quiet_step (first | fail))
              refine wpQuiet_nil ?_
              rintro w5 ⟨⟨w8, k5⟩, h9⟩
              change w5 = w8 at h9
              subst h9
              clear hcc
              repeat (first | go_values | go_skip | go_guarded | go_step | go_upon)
              have E1 := evK_same (t := t0) (H := H) (H' := H') HDJ.out (HX.out.1.trans HX.out.2.symm)
              have KZ5 : Kept wz w5 := HK3.out.trans k5
              refine ⟨⟨j + 1, hltj, by go_num, ?_, NEZ.out, (NZ.out.kept KZ5).low, (WZ.out.kept KZ5).low, (PZ.out.kept KZ5).low, LZ.out.kept KZ5, HKZ.out.trans KZ5⟩, by simp [intOf]; omega⟩
              rw [E1]
              exact cast_meant HXE.out.symm (XZ.out.kept KZ5).low
            | false =>
              repeat (first | go_values | go_skip | go_guarded | go_step | go_upon)
              refine wp_region_kept (by kernel_rfl) (by kernel_rfl) ?_
              have hcc := @KW.cell_eq
              repeat (go_big_quiet_step (first | fail))
              refine wpQuiet_nil ?_
              rintro w4 ⟨⟨w8, k4⟩, h9⟩
              change w4 = w8 at h9
              subst h9
              clear hcc
              repeat (first | go_values | go_skip | go_guarded | go_step | go_upon)
              have KZ4 : Kept wz w4 := HK3.out.trans k4
              have sz4 := KZ4.size
              have OX : Hid (MeantO w4 L w4.heap.size (.slice aY X.length pY) X) := (XZ.out.kept KZ4).low
              have N4 : Hid (FlagO w4 L w4.heap.size (.slice (some ⟨bn, on, none⟩) l.length pN) (l.map (onB l H'))) := (NZ.out.kept KZ4).low
              have W4 : Hid (FlagO w4 L w4.heap.size (.slice (some ⟨bo, oo, none⟩) l.length pW) (l.map (onB l H))) := (WZ.out.kept KZ4).low
              have P4 : Hid (NumO w4 L w4.heap.size (.slice a6 H'.length p6) H') := (PZ.out.kept KZ4).low
              have L4 : Hid (Loc w4 E [.int .i64 t0, .int .i64 ky, .bool dn]) := LZ.out.kept KZ4
              have m0 := L4.out.cell 0 rfl
              have m1 := (LD.out.kept k4).cell 0 rfl
              have m2 : w4.cell? ⟨bn, on + j, none⟩ = some (.bool true) := Kept.cell k4 nc
              have K4 : Hid (Kept w2 w4) := HKZ.out.trans KZ4
              have NE : Hid (∀ g, (Value.slice aY X.length pY).ownBlock = some g → g ≠ E) := NEZ.out
              have ND : Hid (∀ g, (Value.slice aY X.length pY).ownBlock = some g → g ≠ D) := fun g hg => by
                have := XZ.out.2 g hg
                have := HDZ.out
                omega
              have CN9 : Hid (∀ u u', Kept w4 u → But (blo (.slice aY X.length pY)) (bhi (.slice aY X.length pY)) u u' → u'.cell? ⟨bn, on + j, none⟩ = some (.bool true)) := fun u u' ku bu => by
                have f : FlagO u' L w4.heap.size (.slice (some ⟨bn, on, none⟩) l.length pN) (l.map (onB l H')) := RowO.apart (FlagO.kept N4.out ku) bu (ap_types (FlagO.kept N4.out ku) (MeantO.kept OX.out ku) (by decide))
                obtain ⟨b', o', c', ee, cc⟩ := flag_get f.at (show (l.map (onB l H'))[j]? = some true by rw [List.getElem?_map, HDJ.out, Option.map_some, HX.out.1])
                rw [List.length_map] at ee
                cases ee
                exact cc
              have HXN : Hid (ML ++ evK l t0 H H' (j + 1) = X ++ [(t0, nm, true)]) := by
                show _ = _
                rw [evK_new (t := t0) (H := H) (H' := H') HDJ.out (by rw [HX.out.1, HX.out.2]; simp), HX.out.1, ← List.append_assoc, HXE.out]
              have hL4 : L ≤ w4.heap.size := by omega
              have hE4 : E < w4.heap.size := L4.out.lt
              clear k4 KZ4 XZ NZ WZ PZ LZ NEZ HKZ LD HK3 HDZ nc oc m3
              refine wp_region_Z (fun w' => w'.cell? ⟨E, 0, none⟩ = some (.int .i64 t0) ∧ w'.cell? ⟨D, 0, none⟩ = some (.string nm) ∧ w'.cell? ⟨bn, on + j, none⟩ = some (.bool true)) 99 (by kernel_rfl) ?_
              have hS : (fun w' => w'.cell? ⟨E, 0, none⟩ = some (.int .i64 t0) ∧ w'.cell? ⟨D, 0, none⟩ = some (.string nm) ∧ w'.cell? ⟨bn, on + j, none⟩ = some (.bool true)) w4.drew := ⟨m0, m1, m2⟩
              refine wpAnyZ_take (i := 0) (v := .slice aY X.length pY) rfl (by kernel_rfl) (by kernel_rfl) (by kernel_rfl) (by kernel_rfl) (fun _ _ _ h => h) (Or.inl ⟨by rfl, ?_⟩) hS ?_
              · intro w' hSw; obtain ⟨s0, s1, s2⟩ := hSw; go_simp
              try simp only [Act.put]
              refine wpAnyZ_take (i := 1) (v := .pointer (some ⟨E, 0, none⟩)) rfl (by kernel_rfl) (by kernel_rfl) (by kernel_rfl) (by kernel_rfl) (fun _ _ _ h => h) (Or.inl ⟨by rfl, ?_⟩) hS ?_
              · intro w' hSw; obtain ⟨s0, s1, s2⟩ := hSw; go_simp
              try simp only [Act.put]
              refine wpAnyZ_take (i := 2) (v := .int .i64 t0) rfl (by kernel_rfl) (by kernel_rfl) (by kernel_rfl) (by kernel_rfl) (fun _ _ _ h => h) (Or.inl ⟨by rfl, ?_⟩) hS ?_
              · intro w' hSw; obtain ⟨s0, s1, s2⟩ := hSw; go_simp
              try simp only [Act.put]
              refine wpAnyZ_take (i := 3) (v := .pointer (some ⟨D, 0, none⟩)) rfl (by kernel_rfl) (by kernel_rfl) (by kernel_rfl) (by kernel_rfl) (fun _ _ _ h => h) (Or.inl ⟨by rfl, ?_⟩) hS ?_
              · intro w' hSw; obtain ⟨s0, s1, s2⟩ := hSw; go_simp
              try simp only [Act.put]
              refine wpAnyZ_take (i := 4) (v := .string nm) rfl (by kernel_rfl) (by kernel_rfl) (by kernel_rfl) (by kernel_rfl) (fun _ _ _ h => h) (Or.inl ⟨by rfl, ?_⟩) hS ?_
              · intro w' hSw; obtain ⟨s0, s1, s2⟩ := hSw; go_simp
              try simp only [Act.put]
              refine wpAnyZ_take (i := 5) (v := .slice (some ⟨bn, on, none⟩) l.length pN) rfl (by kernel_rfl) (by kernel_rfl) (by kernel_rfl) (by kernel_rfl) (fun _ _ _ h => h) (Or.inl ⟨by rfl, ?_⟩) hS ?_
              · intro w' hSw; obtain ⟨s0, s1, s2⟩ := hSw; go_simp
              try simp only [Act.put]
              refine wpAnyZ_take (i := 6) (v := .int .i64 j) rfl (by kernel_rfl) (by kernel_rfl) (by kernel_rfl) (by kernel_rfl) (fun _ _ _ h => h) (Or.inl ⟨by rfl, ?_⟩) hS ?_
              · intro w' hSw; obtain ⟨s0, s1, s2⟩ := hSw; go_simp
              try simp only [Act.put]
              refine wpAnyZ_take (i := 7) (v := .pointer (some ⟨bn, on + j, none⟩)) rfl (by kernel_rfl) (by kernel_rfl) (by kernel_rfl) (by kernel_rfl) (fun _ _ _ h => h) (Or.inl ⟨by rfl, ?_⟩) hS ?_
              · intro w' hSw; obtain ⟨s0, s1, s2⟩ := hSw; go_simp
              try simp only [Act.put]
              refine wpAnyZ_take (i := 8) (v := .bool true) rfl (by kernel_rfl) (by kernel_rfl) (by kernel_rfl) (by kernel_rfl) (fun _ _ _ h => h) (Or.inl ⟨by rfl, ?_⟩) hS ?_
              · intro w' hSw; obtain ⟨s0, s1, s2⟩ := hSw; go_simp
              try simp only [Act.put]
              refine wpAnyZ_take (i := 9) (v := .agg #[.int .i64 t0, .string nm, .bool true]) rfl (by kernel_rfl) (by kernel_rfl) (by kernel_rfl) (by kernel_rfl) (fun _ _ _ h => h) (Or.inl ⟨by rfl, ?_⟩) hS ?_
              · intro w' hSw; obtain ⟨s0, s1, s2⟩ := hSw; go_simp
              try simp only [Act.put]
              refine wpAnyZ_one (i := 10) (by kernel_rfl) rfl ?_
              intro K8 hK8
              rw [if_pos (by rfl)]
              go_simp
              have kd : Kept w4 (w4.drew.alloc (.cells #[.int .i64 t0, .string nm, .bool true] 31)) := ((But.refl _ _ w4).drew).alloc _
              have hSb : (fun w' => w'.cell? ⟨E, 0, none⟩ = some (.int .i64 t0) ∧ w'.cell? ⟨D, 0, none⟩ = some (.string nm) ∧ w'.cell? ⟨bn, on + j, none⟩ = some (.bool true)) (w4.drew.alloc (.cells #[.int .i64 t0, .string nm, .bool true] 31)) := ⟨Kept.cell kd m0, Kept.cell kd m1, Kept.cell kd m2⟩
              refine hK8.out _ _ (fun _ => hSb) ?_
              clear hK8 K8
              try simp only [Act.put]
              refine wpAnyZ_one (i := 11) (by kernel_rfl) rfl ?_
              intro K8 hK8
              refine step_meant rfl (.tmp 53) (.tmp 63) rfl (lo := L) (hi := w4.heap.size) (by simp [Act.eval]) (OX.out.kept kd) (t0, nm, true) (by simp [Act.eval]) (Loc.new w4.drew [.int .i64 t0, .string nm, .bool true] 31) (by omega) (by simp; omega) ?_
              intro v9 w9 o9 b9 l9
              have hSe : (fun w' => w'.cell? ⟨E, 0, none⟩ = some (.int .i64 t0) ∧ w'.cell? ⟨D, 0, none⟩ = some (.string nm) ∧ w'.cell? ⟨bn, on + j, none⟩ = some (.bool true)) w9 := ⟨But.cell b9 hSb.1 (but_ne NE.out), But.cell b9 hSb.2.1 (but_ne ND.out), CN9.out _ w9 kd b9⟩
              refine hK8.out _ _ (fun _ => hSe) ?_
              clear hK8 K8
              try simp only [Act.put]
              refine wpAnyZ_one (i := 12) (by kernel_rfl) rfl ?_
              intro K8 hK8
              rw [if_pos (by rfl)]
              go_simp
              refine hK8.out _ _ (fun _ => hSe) ?_
              clear hK8 K8
              refine wpAnyZ_done (by kernel_rfl) ?_ _
              try simp only [Act.put]
              have HO9 : Hid (MeantO w9 L w9.heap.size v9 (X ++ [(t0, nm, true)])) := o9
              have HB9 : Hid (But (blo (.slice aY X.length pY)) (bhi (.slice aY X.length pY)) (w4.drew.alloc (.cells #[.int .i64 t0, .string nm, .bool true] 31)) w9) := b9
              have HKD : Hid (Kept w4 (w4.drew.alloc (.cells #[.int .i64 t0, .string nm, .bool true] 31))) := kd
              have HL9 : Hid (v9.ownBlock = (Value.slice aY X.length pY).ownBlock ∨ v9.ownBlock = some (w4.drew.alloc (.cells #[.int .i64 t0, .string nm, .bool true] 31)).heap.size) := l9
              clear o9 b9 kd l9 hS hSb hSe m0 m1 m2
              repeat (first | go_values | go_skip | go_guarded | go_step | go_upon)
              have xk := MeantO.kept OX.out HKD.out
              refine ⟨⟨j + 1, hltj, by go_num, ?_, ?_, ?_, ?_, ?_, ?_, ?_⟩, by simp [intOf]; omega⟩
              · rw [HXN.out]; exact HO9.out
              · intro g hg
                rcases HL9.out with h | h
                · exact NE.out g (by rw [← h]; exact hg)
                · rw [h] at hg
                  cases hg
                  have := HKD.out.size
                  simp
                  omega
              · exact FlagO.low (RowO.apart (FlagO.kept N4.out HKD.out) HB9.out (ap_types (FlagO.kept N4.out HKD.out) xk (by decide)))
              · exact FlagO.low (RowO.apart (FlagO.kept W4.out HKD.out) HB9.out (ap_types (FlagO.kept W4.out HKD.out) xk (by decide)))
              · exact NumO.low (RowO.apart (NumO.kept P4.out HKD.out) HB9.out (ap_types (NumO.kept P4.out HKD.out) xk (by decide)))
              · exact (L4.out.kept HKD.out).but HB9.out (but_ne NE.out)
              · exact But.onto (K4.out.trans HKD.out) (But.inner HB9.out xk) (by rw [HL.out]; exact Nat.le_refl _)
          | false => cases y with
            | true =>
              repeat (first | go_values | go_skip | go_guarded | go_step | go_upon)
              refine wp_region_kept (by kernel_rfl) (by kernel_rfl) ?_
              have hcc := @KW.cell_eq
              repeat (go_big_quiet_step (first | fail))
              refine wpQuiet_nil ?_
              rintro w4 ⟨⟨w8, k4⟩, h9⟩
              change w4 = w8 at h9
              subst h9
              clear hcc
              repeat (first | go_values | go_skip | go_guarded | go_step | go_upon)
              have KZ4 : Kept wz w4 := HK3.out.trans k4
              have sz4 := KZ4.size
              have OX : Hid (MeantO w4 L w4.heap.size (.slice aY X.length pY) X) := (XZ.out.kept KZ4).low
              have N4 : Hid (FlagO w4 L w4.heap.size (.slice (some ⟨bn, on, none⟩) l.length pN) (l.map (onB l H'))) := (NZ.out.kept KZ4).low
              have W4 : Hid (FlagO w4 L w4.heap.size (.slice (some ⟨bo, oo, none⟩) l.length pW) (l.map (onB l H))) := (WZ.out.kept KZ4).low
              have P4 : Hid (NumO w4 L w4.heap.size (.slice a6 H'.length p6) H') := (PZ.out.kept KZ4).low
              have L4 : Hid (Loc w4 E [.int .i64 t0, .int .i64 ky, .bool dn]) := LZ.out.kept KZ4
              have m0 := L4.out.cell 0 rfl
              have m1 := (LD.out.kept k4).cell 0 rfl
              have m2 : w4.cell? ⟨bn, on + j, none⟩ = some (.bool false) := Kept.cell k4 nc
              have K4 : Hid (Kept w2 w4) := HKZ.out.trans KZ4
              have NE : Hid (∀ g, (Value.slice aY X.length pY).ownBlock = some g → g ≠ E) := NEZ.out
              have ND : Hid (∀ g, (Value.slice aY X.length pY).ownBlock = some g → g ≠ D) := fun g hg => by
                have := XZ.out.2 g hg
                have := HDZ.out
                omega
              have CN9 : Hid (∀ u u', Kept w4 u → But (blo (.slice aY X.length pY)) (bhi (.slice aY X.length pY)) u u' → u'.cell? ⟨bn, on + j, none⟩ = some (.bool false)) := fun u u' ku bu => by
                have f : FlagO u' L w4.heap.size (.slice (some ⟨bn, on, none⟩) l.length pN) (l.map (onB l H')) := RowO.apart (FlagO.kept N4.out ku) bu (ap_types (FlagO.kept N4.out ku) (MeantO.kept OX.out ku) (by decide))
                obtain ⟨b', o', c', ee, cc⟩ := flag_get f.at (show (l.map (onB l H'))[j]? = some false by rw [List.getElem?_map, HDJ.out, Option.map_some, HX.out.1])
                rw [List.length_map] at ee
                cases ee
                exact cc
              have HXN : Hid (ML ++ evK l t0 H H' (j + 1) = X ++ [(t0, nm, false)]) := by
                show _ = _
                rw [evK_new (t := t0) (H := H) (H' := H') HDJ.out (by rw [HX.out.1, HX.out.2]; simp), HX.out.1, ← List.append_assoc, HXE.out]
              have hL4 : L ≤ w4.heap.size := by omega
              have hE4 : E < w4.heap.size := L4.out.lt
              clear k4 KZ4 XZ NZ WZ PZ LZ NEZ HKZ LD HK3 HDZ nc oc m3
              refine wp_region_Z (fun w' => w'.cell? ⟨E, 0, none⟩ = some (.int .i64 t0) ∧ w'.cell? ⟨D, 0, none⟩ = some (.string nm) ∧ w'.cell? ⟨bn, on + j, none⟩ = some (.bool false)) 99 (by kernel_rfl) ?_
              have hS : (fun w' => w'.cell? ⟨E, 0, none⟩ = some (.int .i64 t0) ∧ w'.cell? ⟨D, 0, none⟩ = some (.string nm) ∧ w'.cell? ⟨bn, on + j, none⟩ = some (.bool false)) w4.drew := ⟨m0, m1, m2⟩
              refine wpAnyZ_take (i := 0) (v := .slice aY X.length pY) rfl (by kernel_rfl) (by kernel_rfl) (by kernel_rfl) (by kernel_rfl) (fun _ _ _ h => h) (Or.inl ⟨by rfl, ?_⟩) hS ?_
              · intro w' hSw; obtain ⟨s0, s1, s2⟩ := hSw; go_simp
              try simp only [Act.put]
              refine wpAnyZ_take (i := 1) (v := .pointer (some ⟨E, 0, none⟩)) rfl (by kernel_rfl) (by kernel_rfl) (by kernel_rfl) (by kernel_rfl) (fun _ _ _ h => h) (Or.inl ⟨by rfl, ?_⟩) hS ?_
              · intro w' hSw; obtain ⟨s0, s1, s2⟩ := hSw; go_simp
              try simp only [Act.put]
              refine wpAnyZ_take (i := 2) (v := .int .i64 t0) rfl (by kernel_rfl) (by kernel_rfl) (by kernel_rfl) (by kernel_rfl) (fun _ _ _ h => h) (Or.inl ⟨by rfl, ?_⟩) hS ?_
              · intro w' hSw; obtain ⟨s0, s1, s2⟩ := hSw; go_simp
              try simp only [Act.put]
              refine wpAnyZ_take (i := 3) (v := .pointer (some ⟨D, 0, none⟩)) rfl (by kernel_rfl) (by kernel_rfl) (by kernel_rfl) (by kernel_rfl) (fun _ _ _ h => h) (Or.inl ⟨by rfl, ?_⟩) hS ?_
              · intro w' hSw; obtain ⟨s0, s1, s2⟩ := hSw; go_simp
              try simp only [Act.put]
              refine wpAnyZ_take (i := 4) (v := .string nm) rfl (by kernel_rfl) (by kernel_rfl) (by kernel_rfl) (by kernel_rfl) (fun _ _ _ h => h) (Or.inl ⟨by rfl, ?_⟩) hS ?_
              · intro w' hSw; obtain ⟨s0, s1, s2⟩ := hSw; go_simp
              try simp only [Act.put]
              refine wpAnyZ_take (i := 5) (v := .slice (some ⟨bn, on, none⟩) l.length pN) rfl (by kernel_rfl) (by kernel_rfl) (by kernel_rfl) (by kernel_rfl) (fun _ _ _ h => h) (Or.inl ⟨by rfl, ?_⟩) hS ?_
              · intro w' hSw; obtain ⟨s0, s1, s2⟩ := hSw; go_simp
              try simp only [Act.put]
              refine wpAnyZ_take (i := 6) (v := .int .i64 j) rfl (by kernel_rfl) (by kernel_rfl) (by kernel_rfl) (by kernel_rfl) (fun _ _ _ h => h) (Or.inl ⟨by rfl, ?_⟩) hS ?_
              · intro w' hSw; obtain ⟨s0, s1, s2⟩ := hSw; go_simp
              try simp only [Act.put]
              refine wpAnyZ_take (i := 7) (v := .pointer (some ⟨bn, on + j, none⟩)) rfl (by kernel_rfl) (by kernel_rfl) (by kernel_rfl) (by kernel_rfl) (fun _ _ _ h => h) (Or.inl ⟨by rfl, ?_⟩) hS ?_
              · intro w' hSw; obtain ⟨s0, s1, s2⟩ := hSw; go_simp
              try simp only [Act.put]
              refine wpAnyZ_take (i := 8) (v := .bool false) rfl (by kernel_rfl) (by kernel_rfl) (by kernel_rfl) (by kernel_rfl) (fun _ _ _ h => h) (Or.inl ⟨by rfl, ?_⟩) hS ?_
              · intro w' hSw; obtain ⟨s0, s1, s2⟩ := hSw; go_simp
              try simp only [Act.put]
              refine wpAnyZ_take (i := 9) (v := .agg #[.int .i64 t0, .string nm, .bool false]) rfl (by kernel_rfl) (by kernel_rfl) (by kernel_rfl) (by kernel_rfl) (fun _ _ _ h => h) (Or.inl ⟨by rfl, ?_⟩) hS ?_
              · intro w' hSw; obtain ⟨s0, s1, s2⟩ := hSw; go_simp
              try simp only [Act.put]
              refine wpAnyZ_one (i := 10) (by kernel_rfl) rfl ?_
              intro K8 hK8
              rw [if_pos (by rfl)]
              go_simp
              have kd : Kept w4 (w4.drew.alloc (.cells #[.int .i64 t0, .string nm, .bool false] 31)) := ((But.refl _ _ w4).drew).alloc _
              have hSb : (fun w' => w'.cell? ⟨E, 0, none⟩ = some (.int .i64 t0) ∧ w'.cell? ⟨D, 0, none⟩ = some (.string nm) ∧ w'.cell? ⟨bn, on + j, none⟩ = some (.bool false)) (w4.drew.alloc (.cells #[.int .i64 t0, .string nm, .bool false] 31)) := ⟨Kept.cell kd m0, Kept.cell kd m1, Kept.cell kd m2⟩
              refine hK8.out _ _ (fun _ => hSb) ?_
              clear hK8 K8
              try simp only [Act.put]
              refine wpAnyZ_one (i := 11) (by kernel_rfl) rfl ?_
              intro K8 hK8
              refine step_meant rfl (.tmp 53) (.tmp 63) rfl (lo := L) (hi := w4.heap.size) (by simp [Act.eval]) (OX.out.kept kd) (t0, nm, false) (by simp [Act.eval]) (Loc.new w4.drew [.int .i64 t0, .string nm, .bool false] 31) (by omega) (by simp; omega) ?_
              intro v9 w9 o9 b9 l9
              have hSe : (fun w' => w'.cell? ⟨E, 0, none⟩ = some (.int .i64 t0) ∧ w'.cell? ⟨D, 0, none⟩ = some (.string nm) ∧ w'.cell? ⟨bn, on + j, none⟩ = some (.bool false)) w9 := ⟨But.cell b9 hSb.1 (but_ne NE.out), But.cell b9 hSb.2.1 (but_ne ND.out), CN9.out _ w9 kd b9⟩
              refine hK8.out _ _ (fun _ => hSe) ?_
              clear hK8 K8
              try simp only [Act.put]
              refine wpAnyZ_one (i := 12) (by kernel_rfl) rfl ?_
              intro K8 hK8
              rw [if_pos (by rfl)]
              go_simp
              refine hK8.out _ _ (fun _ => hSe) ?_
              clear hK8 K8
              refine wpAnyZ_done (by kernel_rfl) ?_ _
              try simp only [Act.put]
              have HO9 : Hid (MeantO w9 L w9.heap.size v9 (X ++ [(t0, nm, false)])) := o9
              have HB9 : Hid (But (blo (.slice aY X.length pY)) (bhi (.slice aY X.length pY)) (w4.drew.alloc (.cells #[.int .i64 t0, .string nm, .bool false] 31)) w9) := b9
              have HKD : Hid (Kept w4 (w4.drew.alloc (.cells #[.int .i64 t0, .string nm, .bool false] 31))) := kd
              have HL9 : Hid (v9.ownBlock = (Value.slice aY X.length pY).ownBlock ∨ v9.ownBlock = some (w4.drew.alloc (.cells #[.int .i64 t0, .string nm, .bool false] 31)).heap.size) := l9
              clear o9 b9 kd l9 hS hSb hSe m0 m1 m2
              repeat (first | go_values | go_skip | go_guarded | go_step | go_upon)
              have xk := MeantO.kept OX.out HKD.out
              refine ⟨⟨j + 1, hltj, by go_num, ?_, ?_, ?_, ?_, ?_, ?_, ?_⟩, by simp [intOf]; omega⟩
              · rw [HXN.out]; exact HO9.out
              · intro g hg
                rcases HL9.out with h | h
                · exact NE.out g (by rw [← h]; exact hg)
                · rw [h] at hg
                  cases hg
                  have := HKD.out.size
                  simp
                  omega
              · exact FlagO.low (RowO.apart (FlagO.kept N4.out HKD.out) HB9.out (ap_types (FlagO.kept N4.out HKD.out) xk (by decide)))
              · exact FlagO.low (RowO.apart (FlagO.kept W4.out HKD.out) HB9.out (ap_types (FlagO.kept W4.out HKD.out) xk (by decide)))
              · exact NumO.low (RowO.apart (NumO.kept P4.out HKD.out) HB9.out (ap_types (NumO.kept P4.out HKD.out) xk (by decide)))
              · exact (L4.out.kept HKD.out).but HB9.out (but_ne NE.out)
              · exact But.onto (K4.out.trans HKD.out) (But.inner HB9.out xk) (by rw [HL.out]; exact Nat.le_refl _)
            | false =>
              repeat (first | go_values | go_skip | go_guarded | go_step | go_upon)
              refine wp_region_kept (by kernel_rfl) (by kernel_rfl) ?_
              have hcc := @KW.cell_eq
              repeat (go_big_quiet_step (first | fail))
              refine wpQuiet_nil ?_
              rintro w5 ⟨⟨w8, k5⟩, h9⟩
              change w5 = w8 at h9
              subst h9
              clear hcc
              repeat (first | go_values | go_skip | go_guarded | go_step | go_upon)
              have E1 := evK_same (t := t0) (H := H) (H' := H') HDJ.out (HX.out.1.trans HX.out.2.symm)
              have KZ5 : Kept wz w5 := HK3.out.trans k5
              refine ⟨⟨j + 1, hltj, by go_num, ?_, NEZ.out, (NZ.out.kept KZ5).low, (WZ.out.kept KZ5).low, (PZ.out.kept KZ5).low, LZ.out.kept KZ5, HKZ.out.trans KZ5⟩, by simp [intOf]; omega⟩
              rw [E1]
              exact cast_meant HXE.out.symm (XZ.out.kept KZ5).low
        · have hje : j = l.length := by omega
          subst hje
          have XZ : Hid (MeantO wz L wz.heap.size (.slice aY X.length pY) X) := xz
          have NZ : Hid (FlagO wz L wz.heap.size (.slice aN l.length pN) (l.map (onB l H'))) := nz
          have PZ : Hid (NumO wz L wz.heap.size (.slice a6 H'.length p6) H') := pz
          have HKZ : Hid (Kept w2 wz) := kz
          clear xz nez nz wwz pz lz kz
          repeat (first | go_values | go_skip | go_guarded | go_step | go_upon)
          refine ⟨⟨k + 1, hlt, by go_num, ?_, ?_, ?_, HKZ.out⟩, by simp [intOf]; omega⟩
          · rw [HMN1.out, HXE.out]; exact XZ.out
          · rw [HH'.out]; exact PZ.out
          · rw [HH'.out]; exact NZ.out
    · have hke : k = es.length := by omega
      subst hke
      obtain ⟨ML, hML⟩ : ∃ M, meaK l es es.length = M := ⟨_, rfl⟩
      rw [hML] at ov ⊢
      have OV : Hid (MeantO wr L wr.heap.size (.slice aX ML.length pX) ML) := ov
      have HK : Hid (Kept w2 wr) := hkp
      have HML : Hid (meaK l es es.length = ML) := hML
      clear ov hkp okv owv hML
      repeat (first | go_values | go_skip | go_guarded | go_step | go_upon)
      go_ret2
      exact ⟨_, rfl, by rw [HML.out]; exact OV.out.mono HWL.out (Nat.le_refl _), K2.trans HK.out⟩

end Go.Proofs.Ythkfpbknfjapaaa
