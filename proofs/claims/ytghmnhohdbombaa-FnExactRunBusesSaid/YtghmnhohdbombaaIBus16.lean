/-
  Buses run: the program.
-/
import Derived.Test.YtghmnhohdbombaaGBus16
import Derived.Test.YtghmnhohdbombaaIRun16
import Derived.Test.YtghmnhohdbombaaClone16
import Derived.Test.YtghmnhohdbombaaZed16
import Derived.Deep.CutBlock
import Derived.Deep.CutRange
import Derived.Deep.DeepCutAuto
import Derived.Deep.RegionHeld3
namespace Go.Proofs.Ytghmnhohdbombaa
open Go.ChangeShapes Go.WideShapes Go.ChangeAt Go.RowKit Ieee

set_option maxRecDepth 100000
set_option linter.unusedVariables false
theorem forgetC {P : Program} {c : Code} {Q : Exit → Act → World → Prop} {a : Act} {W : World} (F : World → Prop) (hF : F W) (h : ∀ W', F W' → Code.wp P c Q a W') : Code.wp P c Q a W := h W hF
def BusAns (R : List Nat × Nat × Bool) (w : World) (e : Ending) (w' : World) : Prop := ∃ v', e = .returned (.tuple #[v', .float .f64 R.2.1, .bool R.2.2]) ∧ FltO w' w.heap.size w'.heap.size v' R.1 ∧ Kept w w'
theorem atB_of {ats : List Nat} {s : BSt} {k a : Nat} (h : ats.map nrm = s.1) (ha : ats[k]? = some a) : atB s k = nrm a := by
  unfold atB
  rw [← h]
  simp [List.getD_eq_getElem?_getD, ha]
theorem step_no {p : BusD} {k J : Nat} {s : BSt} (h : intoOf p = (J : Int)) : stepB p k s = (s.1.set J (opN .add (atB s J) (yB p (atB s k))), s.2.1 ++ [yB p (atB s k)], s.2.2) := by
  unfold stepB
  rw [if_neg (by rw [h]; omega), h]
  simp
def WideL (l : List Nat) : Prop := ∀ p ∈ l, p < 18446744073709551616
theorem mk_flt (W : World) (n : Nat) (hn : n ≤ 1048576) : (Instr.makeSlice 28 (.int .i64 (n : Int)) (.int .i64 (n : Int))).run Try.prog W = .ok (.slice (some ⟨W.heap.size, 0, none⟩) n n) (W.alloc (.cells (madeCells #[.float .f64 0] n) 23)) := by
  obtain ⟨i0, hi, hz0, hz1, hz2⟩ := info_parts info23
  have := run_make (P := Try.prog) W 28 23 i0 _ Try.underlying28 hi hz0 .i64 .i64 (n : Int) (n : Int) (by omega) (by omega) (by rw [hz2]; omega) (by omega)
  rw [this, hz1]
  simp [Value.cells]
theorem made_flt (W : World) (n : Nat) (hn : n ≤ 1048576) : FltO (W.alloc (.cells (madeCells #[.float .f64 0] n) 23)) W.heap.size (W.heap.size + 1) (.slice (some ⟨W.heap.size, 0, none⟩) n n) (List.replicate n 0) := by
  have hm := row_made W W.heap.size 23 #[.float .f64 0] 1 (by omega) fltC flt0 fltC_len rfl n (Nat.le_refl _) (by unfold maxLen; omega)
  rw [Nat.mul_one] at hm
  have : FltO (W.alloc (.cells (madeCells #[.float .f64 0] n) 23)) W.heap.size (W.heap.size + 1) (.slice (some ⟨W.heap.size, 0, none⟩) n n) (List.replicate n flt0) := by simpa [FltO] using hm
  exact this

set_option maxHeartbeats 16000000 in
theorem ibuses (l : List BusD) (ins : List Nat) (v x : Value) (w : World) (hv : BusAt w v l) (hi : FltAt w x ins) (hx : ∀ p ∈ l, BusOk p) (hw : WideL ins) (hg : goodBs l) (he : ins.length = l.length) (hr : goodR ins = true) :
    Calls Try.prog 34 #[v, x] w (BusAns (busR l ins) w) := by
  have hn : l.length ≤ 8 := hg.1
  obtain ⟨ao, cap, hsl⟩ := row_nil hv
  subst hsl
  obtain ⟨ao2, cap2, hsl⟩ := row_nil hi
  subst hsl
  rw [he] at hi ⊢
  have HV : Hid (BusAt w (.slice ao l.length cap) l) := hv
  have HI : Hid (FltAt w (.slice ao2 l.length cap2) ins) := hi
  have HG : Hid (goodBs l) := hg
  have HE : Hid (ins.length = l.length) := he
  have HRi : Hid (goodR ins = true) := hr
  clear hv hi hg he hr
  go_enter Try.func34, Try.ntmps34
  repeat (first | go_values | go_skip | go_guarded | go_step | go_upon)
  go_at_call 63
  refine (igoodBs l _ _ HV.out hx (by omega)).mono ?_
  rintro e u1 ⟨b, rfl, hb, k1⟩
  have hbt : b = true := hb.2 HG.out
  subst hbt
  clear hb
  have HK1 : Hid (Kept w u1) := k1
  clear k1
  dsimp only
  repeat (first | go_values | go_skip | go_guarded | go_step | go_upon)
  go_at_call 46
  refine (igoodR ins _ _ (HI.out.kept HK1.out) hw (by have := HE.out; omega)).mono ?_
  rintro e u2 ⟨rfl, k2⟩
  rw [HRi.out]
  have HK2 : Hid (Kept w u2) := HK1.out.trans k2
  have s2 : w.heap.size ≤ u2.heap.size := HK2.out.size
  clear k2 HK1
  dsimp only
  have hmk := fun W => mk_flt W l.length (by omega)
  repeat (first | go_values | go_skip | go_guarded | go_step | go_upon)
  go_cut [7, 8, 9] from 27 to 31 (fun v7 v8 v9 wx => ∃ (ao7 : Option Addr) (c7 gB lo hi : Nat), v7 = .slice ao7 l.length c7 ∧ v8 = .slice (some ⟨gB, 0, none⟩) l.length l.length ∧ v9 = .float .f64 0 ∧ FltO wx lo hi (.slice ao7 l.length c7) ins ∧ FltO wx gB (gB + 1) (.slice (some ⟨gB, 0, none⟩) l.length l.length) (List.replicate l.length 0) ∧ (gB < lo ∨ hi ≤ gB) ∧ w.heap.size ≤ lo ∧ w.heap.size ≤ gB ∧ hi ≤ wx.heap.size ∧ gB < wx.heap.size ∧ Kept w wx)
  case first =>
    go_region_held3 (fun w' => True) (trivial)
      (first | (go_at_call 64; refine (iclone ins _ _ (HI.out.kept (But.trans HK2.out (by (repeat (first | with_reducible exact But.refl _ _ _ | with_reducible apply But.drewN | with_reducible apply But.drew | with_reducible apply But.alloc | (with_reducible refine But.setNew ?_ (by simp; try omega) _)))))) (by have := HE.out; omega)).mono ?_; rintro e y1 ⟨v1, rfl, oc, kc⟩; obtain ⟨ao7, c7, hfm⟩ := oc.form; subst hfm; rw [HE.out]; have HOC : Hid _ := oc; have HKC : Hid _ := kc; clear oc kc))
    · repeat (first | go_values | go_skip | go_guarded | go_step | go_upon)
      go_meet
      case rel =>
        have oc : FltO y1 u2.heap.size y1.heap.size (.slice ao7 l.length c7) ins := by
          have h : FltO y1 u2.heap.size y1.heap.size (.slice ao7 ins.length c7) ins := HOC.out
          rw [HE.out] at h; exact h
        have kc : Kept u2 y1 := But.trans ((But.refl _ _ u2).drew) HKC.out
        have := kc.size
        exact ⟨ao7, c7, y1.heap.size, u2.heap.size, y1.heap.size, rfl, rfl, rfl, oc.kept ((But.refl _ _ _).alloc _), made_flt y1 l.length (by omega), .inr (Nat.le_refl _), s2, by omega, by simp, by simp, (HK2.out.trans kc).alloc _⟩
    · repeat (first | go_values | go_skip | go_guarded | go_step | go_upon)
      go_meet
      case rel =>
        have oc : FltO y1 (u2.heap.size + 1) y1.heap.size (.slice ao7 l.length c7) ins := by
          have h : FltO y1 (u2.alloc (.cells (madeCells #[.float .f64 0] l.length) 23)).drew.heap.size y1.heap.size (.slice ao7 ins.length c7) ins := HOC.out
          rw [HE.out] at h
          simpa using h
        have kc : Kept (u2.alloc (.cells (madeCells #[.float .f64 0] l.length) 23)) y1 := But.trans ((But.refl _ _ _).drew) HKC.out
        have hz := kc.size
        simp only [World.size_alloc] at hz
        exact ⟨ao7, c7, u2.heap.size, u2.heap.size + 1, y1.heap.size, rfl, rfl, rfl, oc, (made_flt u2 l.length (by omega)).kept kc, .inl (by omega), by omega, s2, Nat.le_refl _, by omega, (HK2.out.alloc _).trans kc⟩
  case rest =>
    obtain ⟨ao7, c7, gB, lo, hi, rfl, rfl, rfl, oc, og, hd, hlo, hgB, hhi, hgW, K3⟩ := hcut
    clear hmk
    have HS0 := And.intro oc (And.intro og K3)
    have HS : Hid _ := HS0
    clear HS0
    clear oc og K3 HK2
    repeat (first | go_values | go_skip | go_guarded | go_step | go_upon)
    go_loopw [9, 34] (fun mm i wr => ∃ (k m : Nat) (ats gs : List Nat), k ≤ l.length ∧ i = .int .i64 k ∧ mm = .float .f64 m ∧ Hid (nrm m = (busS l ins k).2.2 ∧ m < 18446744073709551616) ∧ Hid (FltO wr lo hi (.slice ao7 l.length c7) ats ∧ ats.map nrm = (busS l ins k).1 ∧ WideL ats) ∧ Hid (FltO wr gB (gB + 1) (.slice (some ⟨gB, 0, none⟩) l.length l.length) (gs ++ List.replicate (l.length - k) 0) ∧ gs.map nrm = (busS l ins k).2.1 ∧ WideL gs) ∧ Hid (Kept w wr) ∧ hi ≤ wr.heap.size ∧ gB < wr.heap.size) (fun mm i _ => l.length - (intOf i).toNat)
    case atStart =>
      exact ⟨0, 0, ins, [], by omega, rfl, rfl, (⟨rfl, by omega⟩ : nrm 0 = some 0 ∧ 0 < 18446744073709551616), (⟨HS.out.1, rfl, hw⟩ : _ ∧ _ ∧ _), (⟨by simpa using HS.out.2.1, rfl, fun p hp => by cases hp⟩ : _ ∧ _ ∧ _), HS.out.2.2, hhi, hgW⟩
    case round =>
      obtain ⟨k, m, ats, gs, hk, rfl, rfl, HM, HA, HGs, HKr, hhr, hgr⟩ := hrel
      have hal : ats.length = l.length := by
        have h1 := congrArg List.length HA.out.2.1
        rw [List.length_map, (busS_len l ins k hk).1, HE.out] at h1
        exact h1
      have hgl : gs.length = k := by
        have h1 := congrArg List.length HGs.out.2.1
        rw [List.length_map, (busS_len l ins k hk).2] at h1
        exact h1
      have HAL : Hid (ats.length = l.length) := hal
      have HGL : Hid (gs.length = k) := hgl
      clear hal hgl
      by_cases hlt : k < l.length
      · obtain ⟨⟨p0, p1, p2, p3, p4, p5, p6⟩, hxk⟩ : ∃ x, l[k]? = some x := ⟨_, List.getElem?_eq_getElem hlt⟩
        obtain ⟨b, o, cap', e, c0, c1, c2, c3, c4, c5, c6⟩ := bus_get (HV.out.kept HKr.out) hxk
        cases e
        dsimp only at c0 c1 c2 c3 c4 c5 c6
        have HX : Hid (l[k]? = some (p0, p1, p2, p3, p4, p5, p6)) := hxk
        clear hxk
        obtain ⟨at0, hat0⟩ : ∃ q, ats[k]? = some q := ⟨_, List.getElem?_eq_getElem (by rw [HAL.out]; exact hlt)⟩
        have HAT : Hid (ats[k]? = some at0) := hat0
        clear hat0
        repeat (first | go_values | go_skip | go_guarded | go_step | go_upon)
        refine forgetC (fun u => u = _) rfl ?_
        intro W4 hW4
        have k4 : Kept wr W4 := by rw [hW4]; exact (But.refl _ _ _).alloc _
        have L4 : Loc W4 wr.heap.size [.float .f64 p0, .float .f64 p1, .float .f64 p2, .float .f64 p3, .float .f64 p4, .float .f64 p5, .int .i64 p6] := by rw [hW4]; exact Loc.new wr _ _
        have s4 : W4.heap.size = wr.heap.size + 1 := by rw [hW4]; simp
        clear hW4 c0 c1 c2 c3 c4 c5 c6
        have HL4 : Hid (Loc W4 wr.heap.size [.float .f64 p0, .float .f64 p1, .float .f64 p2, .float .f64 p3, .float .f64 p4, .float .f64 p5, .int .i64 p6]) := L4
        have HKr : Hid (Kept w W4) := HKr.out.trans k4
        have HA : Hid (FltO W4 lo hi (.slice ao7 l.length c7) ats ∧ ats.map nrm = (busS l ins k).1 ∧ WideL ats) := ⟨HA.out.1.kept k4, HA.out.2⟩
        have HGs : Hid (FltO W4 gB (gB + 1) (.slice (some ⟨gB, 0, none⟩) l.length l.length) (gs ++ List.replicate (l.length - k) 0) ∧ gs.map nrm = (busS l ins k).2.1 ∧ WideL gs) := ⟨HGs.out.1.kept k4, HGs.out.2⟩
        clear k4 L4
        obtain ⟨b2, o2, cap3, e2, ca⟩ := flt_get HA.out.1.at HAT.out
        rw [HAL.out] at e2
        cases e2
        obtain ⟨g', cap', hfm⟩ : ∃ g cap', Value.slice (some ⟨b2, o2, none⟩) l.length c7 = .slice (some ⟨g, 0, none⟩) l.length cap' := by
          rcases HA.out.1.1.2 with ⟨hf, _⟩ | ⟨g, c2, cur, hf, _⟩
          · cases hf
          · rw [HAL.out] at hf; exact ⟨g, c2, hf⟩
        cases hfm
        rw [Nat.zero_add] at ca
        have hb2 : lo ≤ b2 ∧ b2 < hi := ⟨(own_lt HA.out.1.1 (g := b2) rfl).1, HA.out.1.2 b2 rfl⟩
        have hne1 : b2 ≠ gB := by omega
        have hne2 : gB ≠ b2 := by omega
        obtain ⟨d0, dz⟩ := HGs.out.1.cells (fillq_get gs l.length k HGL.out hlt)
        have dz0 := dz k
        clear dz
        have L4 := HL4.out
        have z0 := L4.cell 0 rfl; have z1 := L4.cell 1 rfl; have z2 := L4.cell 2 rfl; have z3 := L4.cell 3 rfl; have z4 := L4.cell 4 rfl; have z5 := L4.cell 5 rfl; have z6 := L4.cell 6 rfl; have zf0 := L4.frozen 0; have zf1 := L4.frozen 1; have zf2 := L4.frozen 2; have zf3 := L4.frozen 3; have zf4 := L4.frozen 4; have zf5 := L4.frozen 5; have zf6 := L4.frozen 6; clear L4
        have g4 : gB < W4.heap.size := by omega
        have n4 : wr.heap.size < W4.heap.size := by omega
        have x1 : (0 : Int) ≤ (k : Int) := by omega
        have x2 : (k : Int) < (l.length : Int) := by omega
        have KD : Kept W4 W4.drew := (But.refl _ _ _).drew
        have hSa : (fun w' => w'.cell? ⟨wr.heap.size, 0, none⟩ = some (.float .f64 p0) ∧ w'.cell? ⟨wr.heap.size, 1, none⟩ = some (.float .f64 p1) ∧ w'.cell? ⟨wr.heap.size, 2, none⟩ = some (.float .f64 p2) ∧ w'.cell? ⟨wr.heap.size, 3, none⟩ = some (.float .f64 p3) ∧ w'.cell? ⟨wr.heap.size, 4, none⟩ = some (.float .f64 p4) ∧ w'.cell? ⟨wr.heap.size, 5, none⟩ = some (.float .f64 p5) ∧ w'.cell? ⟨wr.heap.size, 6, none⟩ = some (.int .i64 p6) ∧ w'.cell? ⟨b2, k, none⟩ = some (.float .f64 at0)) W4.drew := ⟨Kept.cell KD z0, Kept.cell KD z1, Kept.cell KD z2, Kept.cell KD z3, Kept.cell KD z4, Kept.cell KD z5, Kept.cell KD z6, Kept.cell KD ca⟩
        have hSb : (fun w' => w'.cell? ⟨wr.heap.size, 0, none⟩ = some (.float .f64 p0) ∧ w'.cell? ⟨wr.heap.size, 1, none⟩ = some (.float .f64 p1) ∧ w'.cell? ⟨wr.heap.size, 2, none⟩ = some (.float .f64 p2) ∧ w'.cell? ⟨wr.heap.size, 3, none⟩ = some (.float .f64 p3) ∧ w'.cell? ⟨wr.heap.size, 4, none⟩ = some (.float .f64 p4) ∧ w'.cell? ⟨wr.heap.size, 5, none⟩ = some (.float .f64 p5) ∧ w'.cell? ⟨wr.heap.size, 6, none⟩ = some (.int .i64 p6) ∧ w'.cell? ⟨b2, k, none⟩ = some (.float .f64 at0)) (W4.drew.drewN (nd .mul at0 p0)) := ⟨Kept.cell (KD.drewN _) z0, Kept.cell (KD.drewN _) z1, Kept.cell (KD.drewN _) z2, Kept.cell (KD.drewN _) z3, Kept.cell (KD.drewN _) z4, Kept.cell (KD.drewN _) z5, Kept.cell (KD.drewN _) z6, Kept.cell (KD.drewN _) ca⟩
        refine wp_region_Z (fun w' => w'.cell? ⟨wr.heap.size, 0, none⟩ = some (.float .f64 p0) ∧ w'.cell? ⟨wr.heap.size, 1, none⟩ = some (.float .f64 p1) ∧ w'.cell? ⟨wr.heap.size, 2, none⟩ = some (.float .f64 p2) ∧ w'.cell? ⟨wr.heap.size, 3, none⟩ = some (.float .f64 p3) ∧ w'.cell? ⟨wr.heap.size, 4, none⟩ = some (.float .f64 p4) ∧ w'.cell? ⟨wr.heap.size, 5, none⟩ = some (.float .f64 p5) ∧ w'.cell? ⟨wr.heap.size, 6, none⟩ = some (.int .i64 p6) ∧ w'.cell? ⟨b2, k, none⟩ = some (.float .f64 at0)) 99 (by kernel_rfl) ?_
        refine wpAnyZ_take (i := 0) (v := .slice (some ⟨gB, 0, none⟩) l.length l.length) rfl (by kernel_rfl) (by kernel_rfl) (by kernel_rfl) (by kernel_rfl) (fun _ _ _ h => h) (Or.inl ⟨by rfl, ?_⟩) hSa ?_
        · intro w' hSw; obtain ⟨s0, s1, s2, s3, s4, s5, s6, s7⟩ := hSw; go_simp
        try simp only [Act.put]
        refine wpAnyZ_take (i := 1) (v := .int .i64 (k : Int)) rfl (by kernel_rfl) (by kernel_rfl) (by kernel_rfl) (by kernel_rfl) (fun _ _ _ h => h) (Or.inl ⟨by rfl, ?_⟩) hSa ?_
        · intro w' hSw; obtain ⟨s0, s1, s2, s3, s4, s5, s6, s7⟩ := hSw; go_simp
        try simp only [Act.put]
        refine wpAnyZ_take (i := 2) (v := .pointer (some ⟨wr.heap.size, 1, none⟩)) rfl (by kernel_rfl) (by kernel_rfl) (by kernel_rfl) (by kernel_rfl) (fun _ _ _ h => h) (Or.inl ⟨by rfl, ?_⟩) hSa ?_
        · intro w' hSw; obtain ⟨s0, s1, s2, s3, s4, s5, s6, s7⟩ := hSw; go_simp
        try simp only [Act.put]
        refine wpAnyZ_take (i := 3) (v := .agg #[.float .f64 p1, .float .f64 p2, .float .f64 p3, .float .f64 p4, .float .f64 p5]) rfl (by kernel_rfl) (by kernel_rfl) (by kernel_rfl) (by kernel_rfl) (fun _ _ _ h => h) (Or.inl ⟨by rfl, ?_⟩) hSa ?_
        · intro w' hSw; obtain ⟨s0, s1, s2, s3, s4, s5, s6, s7⟩ := hSw; go_simp
        try simp only [Act.put]
        refine wpAnyZ_take (i := 4) (v := .agg #[.float .f64 0, .float .f64 0]) rfl (by kernel_rfl) (by kernel_rfl) (by kernel_rfl) (by kernel_rfl) (fun _ _ _ h => h) (Or.inl ⟨by rfl, ?_⟩) hSa ?_
        · intro w' hSw; obtain ⟨s0, s1, s2, s3, s4, s5, s6, s7⟩ := hSw; go_simp
        try simp only [Act.put]
        refine wpAnyZ_take (i := 5) (v := .slice (some ⟨b2, 0, none⟩) l.length c7) rfl (by kernel_rfl) (by kernel_rfl) (by kernel_rfl) (by kernel_rfl) (fun _ _ _ h => h) (Or.inl ⟨by rfl, ?_⟩) hSa ?_
        · intro w' hSw; obtain ⟨s0, s1, s2, s3, s4, s5, s6, s7⟩ := hSw; go_simp
        try simp only [Act.put]
        refine wpAnyZ_take (i := 6) (v := .int .i64 (k : Int)) rfl (by kernel_rfl) (by kernel_rfl) (by kernel_rfl) (by kernel_rfl) (fun _ _ _ h => h) (Or.inl ⟨by rfl, ?_⟩) hSa ?_
        · intro w' hSw; obtain ⟨s0, s1, s2, s3, s4, s5, s6, s7⟩ := hSw; go_simp
        try simp only [Act.put]
        refine wpAnyZ_take (i := 7) (v := .pointer (some ⟨b2, k, none⟩)) rfl (by kernel_rfl) (by kernel_rfl) (by kernel_rfl) (by kernel_rfl) (fun _ _ _ h => h) (Or.inl ⟨by rfl, ?_⟩) hSa ?_
        · intro w' hSw; obtain ⟨s0, s1, s2, s3, s4, s5, s6, s7⟩ := hSw; go_simp
        try simp only [Act.put]
        refine wpAnyZ_take (i := 8) (v := .float .f64 at0) rfl (by kernel_rfl) (by kernel_rfl) (by kernel_rfl) (by kernel_rfl) (fun _ _ _ h => h) (Or.inl ⟨by rfl, ?_⟩) hSa ?_
        · intro w' hSw; obtain ⟨s0, s1, s2, s3, s4, s5, s6, s7⟩ := hSw; go_simp
        try simp only [Act.put]
        refine wpAnyZ_take (i := 9) (v := .pointer (some ⟨wr.heap.size, 0, none⟩)) rfl (by kernel_rfl) (by kernel_rfl) (by kernel_rfl) (by kernel_rfl) (fun _ _ _ h => h) (Or.inl ⟨by rfl, ?_⟩) hSa ?_
        · intro w' hSw; obtain ⟨s0, s1, s2, s3, s4, s5, s6, s7⟩ := hSw; go_simp
        try simp only [Act.put]
        refine wpAnyZ_take (i := 10) (v := .float .f64 p0) rfl (by kernel_rfl) (by kernel_rfl) (by kernel_rfl) (by kernel_rfl) (fun _ _ _ h => h) (Or.inl ⟨by rfl, ?_⟩) hSa ?_
        · intro w' hSw; obtain ⟨s0, s1, s2, s3, s4, s5, s6, s7⟩ := hSw; go_simp
        try simp only [Act.put]
        refine wpAnyZ_one (i := 11) (by kernel_rfl) rfl ?_
        intro K8 hK8
        rw [if_pos (by rfl)]
        go_simp
        refine hK8.out _ _ (fun _ => hSb) ?_
        clear hK8 K8
        try simp only [Act.put]
        refine wpAnyZ_one (i := 12) (by kernel_rfl) rfl ?_
        intro K8 hK8
        rw [if_pos (by rfl)]
        go_simp
        go_at_call 47
        refine (isample p1 p2 p3 p4 p5 0 0 _ _).mono ?_
        rintro e y6 ⟨y, a9, b9, rfl, hy, -, -, ly, -, -, k6⟩
        have kw6 : Kept W4 y6 := But.trans ((But.refl _ _ W4).drewN _) k6
        have hz6 := kw6.size
        have d6 := Kept.cell kw6 d0
        have df6 : y6.frozen? ⟨gB, k, none⟩ = false := by rw [kw6.frozen_eq gB k g4]; exact dz0
        have hSc : (fun w' => w'.cell? ⟨wr.heap.size, 0, none⟩ = some (.float .f64 p0) ∧ w'.cell? ⟨wr.heap.size, 1, none⟩ = some (.float .f64 p1) ∧ w'.cell? ⟨wr.heap.size, 2, none⟩ = some (.float .f64 p2) ∧ w'.cell? ⟨wr.heap.size, 3, none⟩ = some (.float .f64 p3) ∧ w'.cell? ⟨wr.heap.size, 4, none⟩ = some (.float .f64 p4) ∧ w'.cell? ⟨wr.heap.size, 5, none⟩ = some (.float .f64 p5) ∧ w'.cell? ⟨wr.heap.size, 6, none⟩ = some (.int .i64 p6) ∧ w'.cell? ⟨b2, k, none⟩ = some (.float .f64 at0)) y6 := ⟨Kept.cell kw6 z0, Kept.cell kw6 z1, Kept.cell kw6 z2, Kept.cell kw6 z3, Kept.cell kw6 z4, Kept.cell kw6 z5, Kept.cell kw6 z6, Kept.cell kw6 ca⟩
        have HY : Hid _ := hy
        clear hy k6 KD hSa hSb
        dsimp only
        refine hK8.out _ _ (fun _ => hSc) ?_
        clear hK8 K8
        try simp only [Act.put]
        refine wpAnyZ_take (i := 13) (v := .tuple #[.float .f64 y, .agg #[.float .f64 a9, .float .f64 (plain b9)]]) rfl (by kernel_rfl) (by kernel_rfl) (by kernel_rfl) (by kernel_rfl) (fun _ _ _ h => h) (Or.inl ⟨by rfl, ?_⟩) hSc ?_
        · intro w' hSw; obtain ⟨s0, s1, s2, s3, s4, s5, s6, s7⟩ := hSw; go_simp
        try simp only [Act.put]
        refine wpAnyZ_take (i := 14) (v := .float .f64 y) rfl (by kernel_rfl) (by kernel_rfl) (by kernel_rfl) (by kernel_rfl) (fun _ _ _ h => h) (Or.inl ⟨by rfl, ?_⟩) hSc ?_
        · intro w' hSw; obtain ⟨s0, s1, s2, s3, s4, s5, s6, s7⟩ := hSw; go_simp
        try simp only [Act.put]
        refine wpAnyZ_take (i := 15) (v := .agg #[.float .f64 a9, .float .f64 (plain b9)]) rfl (by kernel_rfl) (by kernel_rfl) (by kernel_rfl) (by kernel_rfl) (fun _ _ _ h => h) (Or.inl ⟨by rfl, ?_⟩) hSc ?_
        · intro w' hSw; obtain ⟨s0, s1, s2, s3, s4, s5, s6, s7⟩ := hSw; go_simp
        try simp only [Act.put]
        refine wpAnyZ_take (i := 16) (v := .pointer (some ⟨gB, k, none⟩)) rfl (by kernel_rfl) (by kernel_rfl) (by kernel_rfl) (by kernel_rfl) (fun _ _ _ h => h) (Or.inl ⟨by rfl, ?_⟩) hSc ?_
        · intro w' hSw; obtain ⟨s0, s1, s2, s3, s4, s5, s6, s7⟩ := hSw; go_simp
        try simp only [Act.put]
        refine wpAnyZ_one (i := 17) (by kernel_rfl) rfl ?_
        intro K8 hK8
        rw [if_pos (by rfl)]
        go_simp
        have kb9 : But gB (gB + 1) y6 (y6.setCell ⟨gB, k, none⟩ (.float .f64 y)) := (But.refl _ _ _).setCell (by simp) (by simp) _
        have hSd : (fun w' => w'.cell? ⟨wr.heap.size, 0, none⟩ = some (.float .f64 p0) ∧ w'.cell? ⟨wr.heap.size, 1, none⟩ = some (.float .f64 p1) ∧ w'.cell? ⟨wr.heap.size, 2, none⟩ = some (.float .f64 p2) ∧ w'.cell? ⟨wr.heap.size, 3, none⟩ = some (.float .f64 p3) ∧ w'.cell? ⟨wr.heap.size, 4, none⟩ = some (.float .f64 p4) ∧ w'.cell? ⟨wr.heap.size, 5, none⟩ = some (.float .f64 p5) ∧ w'.cell? ⟨wr.heap.size, 6, none⟩ = some (.int .i64 p6) ∧ w'.cell? ⟨b2, k, none⟩ = some (.float .f64 at0)) (y6.setCell ⟨gB, k, none⟩ (.float .f64 y)) := ⟨But.cell kb9 (Kept.cell kw6 z0) (by show wr.heap.size < gB ∨ gB + 1 ≤ wr.heap.size; omega), But.cell kb9 (Kept.cell kw6 z1) (by show wr.heap.size < gB ∨ gB + 1 ≤ wr.heap.size; omega), But.cell kb9 (Kept.cell kw6 z2) (by show wr.heap.size < gB ∨ gB + 1 ≤ wr.heap.size; omega), But.cell kb9 (Kept.cell kw6 z3) (by show wr.heap.size < gB ∨ gB + 1 ≤ wr.heap.size; omega), But.cell kb9 (Kept.cell kw6 z4) (by show wr.heap.size < gB ∨ gB + 1 ≤ wr.heap.size; omega), But.cell kb9 (Kept.cell kw6 z5) (by show wr.heap.size < gB ∨ gB + 1 ≤ wr.heap.size; omega), But.cell kb9 (Kept.cell kw6 z6) (by show wr.heap.size < gB ∨ gB + 1 ≤ wr.heap.size; omega), But.cell kb9 (Kept.cell kw6 ca) (by show b2 < gB ∨ gB + 1 ≤ b2; omega)⟩
        refine hK8.out _ _ (fun _ => hSd) ?_
        clear hK8 K8 hSd hSc kb9
        refine wpAnyZ_done (by kernel_rfl) ?_ _
        try simp only [Act.put]
        have hY : nrm y = yB (p0, p1, p2, p3, p4, p5, p6) (nrm at0) := by rw [HY.out]; simp only [yO, nrm_fop]; rfl
        clear HY
        have hg6 : gB < y6.heap.size := by omega
        have kb : But gB (gB + 1) y6 (y6.setCell ⟨gB, k, none⟩ (.float .f64 y)) := (But.refl _ _ _).setCell (by simp) (by simp) _
        have hgs6 := (HGs.out.1.kept kw6).set (fillq_len gs l.length k HGL.out (by omega)).symm (fillq_get gs l.length k HGL.out hlt) y
        rw [fillq_set gs l.length k y HGL.out hlt] at hgs6
        refine forgetX (fun u => Loc u wr.heap.size [.float .f64 p0, .float .f64 p1, .float .f64 p2, .float .f64 p3, .float .f64 p4, .float .f64 p5, .int .i64 p6] ∧ FltO u lo hi (.slice (some ⟨b2, 0, none⟩) l.length c7) ats ∧ FltO u gB (gB + 1) (.slice (some ⟨gB, 0, none⟩) l.length l.length) ((gs ++ [y]) ++ List.replicate (l.length - (k + 1)) 0) ∧ Kept w u ∧ hi ≤ u.heap.size ∧ gB < u.heap.size ∧ wr.heap.size < u.heap.size) ⟨(HL4.out.kept kw6).other (by omega) _, (HA.out.1.kept kw6).but kb (by omega), hgs6, (HKr.out.trans kw6).setNew (by simp; omega) _, by simp; omega, by simp; omega, by simp; omega⟩ ?_
        clear z0 zf0 z1 zf1 z2 zf2 z3 zf3 z4 zf4 z5 zf5 z6 zf6 ca d0 d6 df6 dz0 kb hgs6 kw6 hz6 g4 n4
        rintro W6 ⟨L6, oa6, og6, K6, hh6, hgg6, hn6⟩
        have hat : atB (busS l ins k) k = nrm at0 := atB_of HA.out.2.1 HAT.out
        have HSt : Hid (busS l ins (k + 1) = stepB (p0, p1, p2, p3, p4, p5, p6) k (busS l ins k) ∧ atB (busS l ins k) k = nrm at0 ∧ nrm y = yB (p0, p1, p2, p3, p4, p5, p6) (nrm at0)) := ⟨busS_succ HX.out, hat, hY⟩
        have HA2 : Hid (FltO W6 lo hi (.slice (some ⟨b2, 0, none⟩) l.length c7) ats ∧ ats.map nrm = (busS l ins k).1 ∧ WideL ats) := ⟨oa6, HA.out.2⟩
        have hgm : (gs ++ [y]).map nrm = (busS l ins (k + 1)).2.1 := by
          rw [busS_succ HX.out, List.map_append, HGs.out.2.1, List.map_singleton, hY, ← hat]
          unfold stepB
          split <;> rfl
        have HG2 : Hid (FltO W6 gB (gB + 1) (.slice (some ⟨gB, 0, none⟩) l.length l.length) ((gs ++ [y]) ++ List.replicate (l.length - (k + 1)) 0) ∧ (gs ++ [y]).map nrm = (busS l ins (k + 1)).2.1 ∧ WideL (gs ++ [y])) := ⟨og6, hgm, fun p hp => by
          rcases List.mem_append.1 hp with h | h
          · exact HGs.out.2.2 p h
          · rw [List.mem_singleton.1 h]; exact ly⟩
        have HK6 : Hid (Kept w W6) := K6
        have hgI : goodI l.length k p6 = true := by
          have := HG.out.2 k _ HX.out
          simp only [goodB1, Bool.and_eq_true] at this
          exact this.2
        have c6 := L6.cell 6 rfl
        obtain ⟨e0, -⟩ := og6.cells (i := k) (p := y) (by rw [List.getElem?_append_left (by simp [HGL.out]), List.getElem?_append_right (by rw [HGL.out]; exact Nat.le_refl _), HGL.out, Nat.sub_self]; rfl)
        have HL6 : Hid (Loc W6 wr.heap.size [.float .f64 p0, .float .f64 p1, .float .f64 p2, .float .f64 p3, .float .f64 p4, .float .f64 p5, .int .i64 p6]) := L6
        clear hat hY hgm oa6 og6 K6 L6 HA HGs HKr HL4
        by_cases i3 : p6 = -1
        · subst i3
          clear hgI
          repeat (first | go_values | go_skip | go_guarded | go_step | go_upon)
          refine ⟨⟨k + 1, _, ats, gs ++ [y], hlt, by go_num, rfl, ?_, ?_, HG2, HK6.out.drewN _, by simp; omega, by simp; omega⟩, by simp [intOf]; omega⟩
          · show nrm _ = (busS l ins (k + 1)).2.2 ∧ _
            refine ⟨?_, fop_lt _ _ _ _⟩
            rw [nrm_fop, HM.out.1, HSt.out.1]
            simp only [stepB, intoOf, if_true, HSt.out.2.1, HSt.out.2.2]
          · show FltO _ lo hi _ ats ∧ ats.map nrm = (busS l ins (k + 1)).1 ∧ WideL ats
            refine ⟨HA2.out.1.kept ((But.refl _ _ _).drewN _), ?_, HA2.out.2.2⟩
            rw [HSt.out.1, HA2.out.2.1]
            simp only [stepB, intoOf, if_true]
        · simp only [goodI, Bool.or_eq_true, Bool.and_eq_true, decide_eq_true_eq] at hgI
          have hI := hgI.resolve_left i3
          clear hgI
          obtain ⟨J, rfl⟩ : ∃ J : Nat, p6 = (J : Int) := ⟨p6.toNat, by omega⟩
          have hJ : J < l.length := by omega
          obtain ⟨at1, hat1⟩ : ∃ q, ats[J]? = some q := ⟨_, List.getElem?_eq_getElem (by rw [HAL.out]; exact hJ)⟩
          have HAT1 : Hid (ats[J]? = some at1) := hat1
          clear hat1
          obtain ⟨f0, fz⟩ := HA2.out.1.cells HAT1.out
          have fz0 := fz J
          clear fz
          have d3 : ((J : Int) == -1) = false := by simp
          have x3 : (0 : Int) ≤ (J : Int) := by omega
          have x4 : (J : Int) < (l.length : Int) := by omega
          repeat (first | go_values | go_skip | go_guarded | go_step | go_upon)
          have KD : Kept W6 W6.drew := (But.refl _ _ _).drew
          have hS9 : (fun w' => w'.cell? ⟨wr.heap.size, 6, none⟩ = some (.int .i64 (J : Int)) ∧ w'.cell? ⟨b2, J, none⟩ = some (.float .f64 at1) ∧ w'.cell? ⟨gB, k, none⟩ = some (.float .f64 y)) W6.drew := ⟨Kept.cell KD c6, Kept.cell KD f0, Kept.cell KD e0⟩
          have hS8 : (fun w' => w'.cell? ⟨wr.heap.size, 6, none⟩ = some (.int .i64 (J : Int)) ∧ w'.cell? ⟨b2, J, none⟩ = some (.float .f64 at1) ∧ w'.cell? ⟨gB, k, none⟩ = some (.float .f64 y)) (W6.drew.drewN (nd .add at1 y)) := ⟨Kept.cell ((But.refl _ _ _).drewN _) hS9.1, Kept.cell ((But.refl _ _ _).drewN _) hS9.2.1, Kept.cell ((But.refl _ _ _).drewN _) hS9.2.2⟩
          have q0 := hS8.2.1
          have qf : (W6.drew.drewN (nd .add at1 y)).frozen? ⟨b2, J, none⟩ = false := fz0
          refine wp_region_Z (fun w' => w'.cell? ⟨wr.heap.size, 6, none⟩ = some (.int .i64 (J : Int)) ∧ w'.cell? ⟨b2, J, none⟩ = some (.float .f64 at1) ∧ w'.cell? ⟨gB, k, none⟩ = some (.float .f64 y)) 11 (by kernel_rfl) ?_
          refine wpAnyZ_take (i := 0) (v := .slice (some ⟨b2, 0, none⟩) l.length c7) rfl (by kernel_rfl) (by kernel_rfl) (by kernel_rfl) (by kernel_rfl) (fun _ _ _ h => h) (Or.inl ⟨by rfl, ?_⟩) hS9 ?_
          · intro w' hSw; obtain ⟨s0, s1, s2⟩ := hSw; go_simp
          try simp only [Act.put]
          refine wpAnyZ_take (i := 1) (v := .pointer (some ⟨wr.heap.size, 6, none⟩)) rfl (by kernel_rfl) (by kernel_rfl) (by kernel_rfl) (by kernel_rfl) (fun _ _ _ h => h) (Or.inl ⟨by rfl, ?_⟩) hS9 ?_
          · intro w' hSw; obtain ⟨s0, s1, s2⟩ := hSw; go_simp
          try simp only [Act.put]
          refine wpAnyZ_take (i := 2) (v := .int .i64 (J : Int)) rfl (by kernel_rfl) (by kernel_rfl) (by kernel_rfl) (by kernel_rfl) (fun _ _ _ h => h) (Or.inl ⟨by rfl, ?_⟩) hS9 ?_
          · intro w' hSw; obtain ⟨s0, s1, s2⟩ := hSw; go_simp
          try simp only [Act.put]
          refine wpAnyZ_take (i := 3) (v := .pointer (some ⟨b2, J, none⟩)) rfl (by kernel_rfl) (by kernel_rfl) (by kernel_rfl) (by kernel_rfl) (fun _ _ _ h => h) (Or.inl ⟨by rfl, ?_⟩) hS9 ?_
          · intro w' hSw; obtain ⟨s0, s1, s2⟩ := hSw; go_simp
          try simp only [Act.put]
          refine wpAnyZ_take (i := 4) (v := .float .f64 at1) rfl (by kernel_rfl) (by kernel_rfl) (by kernel_rfl) (by kernel_rfl) (fun _ _ _ h => h) (Or.inl ⟨by rfl, ?_⟩) hS9 ?_
          · intro w' hSw; obtain ⟨s0, s1, s2⟩ := hSw; go_simp
          try simp only [Act.put]
          refine wpAnyZ_take (i := 5) (v := .slice (some ⟨gB, 0, none⟩) l.length l.length) rfl (by kernel_rfl) (by kernel_rfl) (by kernel_rfl) (by kernel_rfl) (fun _ _ _ h => h) (Or.inl ⟨by rfl, ?_⟩) hS9 ?_
          · intro w' hSw; obtain ⟨s0, s1, s2⟩ := hSw; go_simp
          try simp only [Act.put]
          refine wpAnyZ_take (i := 6) (v := .int .i64 (k : Int)) rfl (by kernel_rfl) (by kernel_rfl) (by kernel_rfl) (by kernel_rfl) (fun _ _ _ h => h) (Or.inl ⟨by rfl, ?_⟩) hS9 ?_
          · intro w' hSw; obtain ⟨s0, s1, s2⟩ := hSw; go_simp
          try simp only [Act.put]
          refine wpAnyZ_take (i := 7) (v := .pointer (some ⟨gB, k, none⟩)) rfl (by kernel_rfl) (by kernel_rfl) (by kernel_rfl) (by kernel_rfl) (fun _ _ _ h => h) (Or.inl ⟨by rfl, ?_⟩) hS9 ?_
          · intro w' hSw; obtain ⟨s0, s1, s2⟩ := hSw; go_simp
          try simp only [Act.put]
          refine wpAnyZ_take (i := 8) (v := .float .f64 y) rfl (by kernel_rfl) (by kernel_rfl) (by kernel_rfl) (by kernel_rfl) (fun _ _ _ h => h) (Or.inl ⟨by rfl, ?_⟩) hS9 ?_
          · intro w' hSw; obtain ⟨s0, s1, s2⟩ := hSw; go_simp
          try simp only [Act.put]
          refine wpAnyZ_one (i := 9) (by kernel_rfl) rfl ?_
          intro K8 hK8
          rw [if_pos (by rfl)]
          go_simp
          refine hK8.out _ _ (fun _ => hS8) ?_
          clear hK8 K8
          try simp only [Act.put]
          refine wpAnyZ_take (i := 10) (v := .pointer (some ⟨b2, J, none⟩)) rfl (by kernel_rfl) (by kernel_rfl) (by kernel_rfl) (by kernel_rfl) (fun _ _ _ h => h) (Or.inl ⟨by rfl, ?_⟩) hS8 ?_
          · intro w' hSw; obtain ⟨s0, s1, s2⟩ := hSw; go_simp
          try simp only [Act.put]
          refine wpAnyZ_one (i := 11) (by kernel_rfl) rfl ?_
          intro K8 hK8
          rw [if_pos (by rfl)]
          go_simp
          refine hK8.out _ _ (fun h => absurd rfl h) ?_
          clear hK8 K8
          refine wpAnyZ_done (by kernel_rfl) ?_ _
          try simp only [Act.put]
          repeat (first | go_values | go_skip | go_guarded | go_step | go_upon)
          have hset := HA2.out.1.set HAL.out.symm HAT1.out (fop .add (tok W6.drew) at1 y)
          have kb2 : But lo hi W6 (W6.setCell ⟨b2, J, none⟩ (.float .f64 (fop .add (tok W6.drew) at1 y))) := (But.refl _ _ _).setCell hb2.1 hb2.2 _
          refine ⟨⟨k + 1, m, ats.set J (fop .add (tok W6.drew) at1 y), gs ++ [y], hlt, by go_num, rfl, ?_, ?_, ?_, (HK6.out.setNew (by simp; omega) _).drewN _, by simp; omega, by simp; omega⟩, by simp [intOf]; omega⟩
          · show nrm m = (busS l ins (k + 1)).2.2 ∧ _
            refine ⟨?_, HM.out.2⟩
            rw [HM.out.1, HSt.out.1, step_no (J := J) rfl]
          · show FltO _ lo hi _ (ats.set J _) ∧ (ats.set J _).map nrm = (busS l ins (k + 1)).1 ∧ WideL (ats.set J _)
            refine ⟨hset.kept ((But.refl _ _ _).drewN _), ?_, fun p hp => ?_⟩
            · rw [List.map_set, nrm_fop, HA2.out.2.1, HSt.out.1, step_no (J := J) rfl]
              simp only [HSt.out.2.1, HSt.out.2.2, atB_of HA2.out.2.1 HAT1.out]
            · rcases List.mem_or_eq_of_mem_set hp with h | h
              · exact HA2.out.2.2 p h
              · rw [h]; exact fop_lt _ _ _ _
          · exact (⟨(HG2.out.1.but kb2 (by omega)).kept ((But.refl _ _ _).drewN _), HG2.out.2⟩ : _ ∧ _ ∧ _)
      · have hke : k = l.length := by omega
        subst hke
        have hfm : fin m = finO (busS l ins l.length).2.2 := by rw [← HM.out.1, finO_nrm]
        repeat (first | go_values | go_skip | go_guarded | go_step | go_upon)
        go_at_call 60
        refine (isFinite m HM.out.2 _).mono ?_
        rintro e w9 ⟨rfl, rfl⟩
        rw [hfm]
        cases hfo : finO (busS l ins l.length).2.2 with
        | false =>
          dsimp only
          repeat (first | go_values | go_skip | go_guarded | go_step | go_upon)
          go_returns
          have hR : busR l ins = ([], 0, false) := by simp [busR, hfo]
          rw [hR]
          exact ⟨.slice none 0 0, rfl, FltO.nil, HKr.out⟩
        | true =>
          dsimp only
          repeat (first | go_values | go_skip | go_guarded | go_step | go_upon)
          go_returns
          have hR : busR l ins = (gs, m, true) := by
            simp only [busR, hfo, if_true]
            refine Prod.ext ?_ (Prod.ext ?_ rfl)
            · show (busS l ins l.length).2.1.map plainO = gs
              rw [← HGs.out.2.1, List.map_map]
              refine (List.map_congr_left fun a ha => ?_).trans (List.map_id gs)
              obtain ⟨j, hj, hja⟩ := List.getElem_of_mem ha
              have hgj : gs[j]? = some a := by rw [List.getElem?_eq_getElem hj, hja]
              rw [HGL.out] at hj
              obtain ⟨pj, hpj⟩ : ∃ p, l[j]? = some p := ⟨_, List.getElem?_eq_getElem hj⟩
              have ho := outs_get l ins l.length (Nat.le_refl _) j pj hj hpj
              rw [← HGs.out.2.1, List.getElem?_map, hgj] at ho
              simp only [Option.map_some, Option.some.injEq] at ho
              have hok := (ok_all HG.out HE.out hfo j pj hj hpj).2
              show plainO (nrm a) = id a
              exact out_same rfl (by rw [ho]; exact hok) (HGs.out.2.2 a ha) (by rw [ho]; exact yB_plain _ _)
            · exact out_same HM.out.1 hfo HM.out.2 (master_plain l ins l.length).1
          rw [hR]
          have hrow : FltO w9 gB (gB + 1) (.slice (some ⟨gB, 0, none⟩) l.length l.length) gs := by simpa using HGs.out.1
          exact ⟨_, rfl, (hrow.mono (by omega) (Nat.le_refl _)).low, HKr.out⟩

end Go.Proofs.Ytghmnhohdbombaa
