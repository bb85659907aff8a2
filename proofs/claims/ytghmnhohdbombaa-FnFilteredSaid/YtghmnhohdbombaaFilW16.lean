/-
  The walk of the law of a drawn filter run in pieces.
-/
import Derived.Test.YtghmnhohdbombaaRDraw16
import Derived.Test.YtghmnhohdbombaaPc16
import Derived.Test.YtghmnhohdbombaaQuiet
import Derived.Test.YtghmnhohdbombaaZed16
import Derived.Deep.CutBlock
import Derived.Deep.CutRange
import Derived.Deep.DeepCutAuto
import Derived.Deep.RegionHeld3
namespace Go.Proofs.Ytghmnhohdbombaa
open Go.ChangeShapes Go.WideShapes Go.ChangeAt Go.RowKit Ieee
set_option maxRecDepth 100000
/-- A variable of two cells, read alone. -/
def LocR2 (w : World) (b : Nat) (x0 x1 : Value) : Prop := w.cell? ⟨b, 0, none⟩ = some x0 ∧ w.cell? ⟨b, 1, none⟩ = some x1 ∧ b < w.heap.size
theorem LocR2.but {w w' : World} {b lo hi : Nat} {x0 x1 : Value} (h : LocR2 w b x0 x1) (k : But lo hi w w') (ho : b < lo ∨ hi ≤ b) : LocR2 w' b x0 x1 := ⟨But.cell k h.1 ho, But.cell k h.2.1 ho, Nat.lt_of_lt_of_le h.2.2 k.size⟩
theorem LocR2.kept {w w' : World} {b : Nat} {x0 x1 : Value} (h : LocR2 w b x0 x1) (k : Kept w w') : LocR2 w' b x0 x1 := h.but k (by omega)

theorem dropAny {w : World} {ao : Option Addr} {cap : Nat} {l : List Nat} (h : FltAt w (.slice ao l.length cap) l) (k : Nat) (hk : k ≤ l.length) (hc : l.length ≤ cap) : FltAt w (.slice (if cap = k then ao else ao.map (·.add k)) (l.length - k) (cap - k)) (l.drop k) := by
  by_cases e : k = l.length
  · subst e
    rw [List.drop_length]
    exact ⟨if cap = l.length then ao else ao.map (·.add l.length), cap - l.length, by simp, fun j x hj => by simp at hj⟩
  · have hne : cap ≠ k := by omega
    rw [if_neg hne]
    obtain ⟨x, hx⟩ : ∃ x, l[k]? = some x := ⟨_, List.getElem?_eq_getElem (by omega)⟩
    obtain ⟨b, o, cap', e2, _⟩ := flt_get h hx
    cases e2
    have := FltAt.drop (cap2 := cap - k) h k hk
    rw [show (some (⟨b, o, none⟩ : Addr)).map (·.add k) = some ⟨b, o + k, none⟩ by simp [Go.WideShapes.add_plain]]
    exact this
theorem slice_from (W : World) (ao : Option Addr) (n cap k : Nat) (hk : k ≤ n) : (Instr.slice 28 (.slice ao n cap) (some (.int .i64 (k : Int))) none none).run Try.prog W = .ok (.slice (if cap = k then ao else ao.map (·.add k)) (n - k) (cap - k)) W := by
  obtain ⟨i0, hi0, hz0, hz1, hz2⟩ := info_parts info_flt
  rw [run_slice_l W 28 _ _ _ Try.underlying28 .i64 (k : Int) (by omega) (by omega)]
  simp [sizeOf, typeInfo, sliced, show Try.prog.elem 28 = 23 from by kernel_rfl, hi0, hz1]

theorem cap_of {w : World} {lo hi : Nat} {ao : Option Addr} {n cap : Nat} {l : List Nat} (h : FltO w lo hi (.slice ao n cap) l) : n ≤ cap := by
  rcases h.1.2 with ⟨hf, _⟩ | ⟨g, c2, cur, hf, _, _, hle, _⟩
  · cases hf; omega
  · cases hf; exact hle

theorem forgetK {K : Act → World → Prop} {a : Act} {W : World} (F : World → Prop) (hF : F W) (h : ∀ W', F W' → K a W') : K a W := h W hF
theorem forgetC {P : Program} {c : Go.Code} {Q : Exit → Act → World → Prop} {a : Act} {W : World} (F : World → Prop) (hF : F W) (h : ∀ W', F W' → Code.wp P c Q a W') : Code.wp P c Q a W := h W hF
set_option maxRecDepth 100000
set_option linter.unusedVariables false
set_option maxHeartbeats 16000000 in
theorem walk (ao : Option Addr) (len cap : Nat) (w : World) (h : Code w ao len) (hl : len ≤ 1048576) :
    Calls Try.prog 3 #[.slice ao len cap] w fun e w' => e = .returned (.bool true) ∧ Kept w w' := by
  have hd0 : decide ((1048576 : Int) < (len : Int)) = false := by simp; omega
  go_enter Try.func3, Try.ntmps3
  repeat (first | go_values | go_skip | go_guarded | go_step | go_upon)
  go_at_call 10
  refine (draw_ok ao len cap _ h hl).mono ?_
  rintro e u1 ⟨r0, r1, r2, r3, r4, s1, s2, l, v, rfl, ⟨b0, b1, b2, b3, b4, bs1, bs2⟩, ⟨hll, hw⟩, ho, k1⟩
  obtain ⟨aox, cx, hfm⟩ := ho.form
  subst hfm
  dsimp only
  clear hd0 h
  have HO : Hid (FltO u1 w.heap.size u1.heap.size (.slice aox l.length cx) l) := ho
  have HK1 : Hid (Kept w u1) := k1
  clear ho k1
  obtain ⟨R, hR⟩ : ∃ R, runF (r0, r1, r2, r3, r4) (s1, s2) l = R := ⟨_, rfl⟩
  have HR : Hid (runF (r0, r1, r2, r3, r4) (s1, s2) l = R) := hR
  clear hR
  repeat (first | go_values | go_skip | go_guarded | go_step | go_upon)
  obtain ⟨RL, ⟨e1, e2⟩, jb⟩ := R
  have hne : nanB e1 = false ∧ nanB e2 = false := by
    cases jb with
    | false => have := bad_zero (r0, r1, r2, r3, r4) (s1, s2) l (by rw [HR.out]); rw [HR.out] at this; cases this; exact ⟨rfl, rfl⟩
    | true => obtain ⟨_, _, _, _, _, _, _, _, h1, h2, _⟩ := pieces (r0, r1, r2, r3, r4) (s1, s2) l 0 bs1 bs2 (by rw [HR.out]); rw [HR.out] at h1 h2; exact ⟨h1, h2⟩
  have hmn := fun w => mem_neq e1 e2 hne.1 hne.2 w
  have HNE : Hid (nanB e1 = false ∧ nanB e2 = false) := hne
  clear hne
  have s1' := HK1.out.size
  go_at_call 11
  refine (irun r0 r1 r2 r3 r4 s1 s2 b0 b1 b2 b3 b4 bs1 bs2 l _ _ (HO.out.at.kept (((But.refl _ _ _).alloc _).alloc _)) hw (by omega)).mono ?_
  rintro e u2 ⟨v2, rfl, og, k2⟩
  rw [HR.out] at og ⊢
  obtain ⟨ag, cg, hfm⟩ := og.form
  dsimp only at hfm og ⊢
  subst hfm
  have s2' := k2.size
  simp only [World.size_alloc] at s2' og
  have La : Loc u2 u1.heap.size [.float .f64 r0, .float .f64 r1, .float .f64 r2, .float .f64 r3, .float .f64 r4] := ((Loc.new u1 [.float .f64 r0, .float .f64 r1, .float .f64 r2, .float .f64 r3, .float .f64 r4] 25).alloc _).kept k2
  have Lb : Loc u2 (u1.heap.size + 1) [.float .f64 s1, .float .f64 s2] := by
    have := (Loc.new (u1.alloc (.cells #[.float .f64 r0, .float .f64 r1, .float .f64 r2, .float .f64 r3, .float .f64 r4] 25)) [.float .f64 s1, .float .f64 s2] 27).kept k2
    simpa using this
  have HO : Hid (FltO u2 w.heap.size u1.heap.size (.slice aox l.length cx) l) := HO.out.kept ((((But.refl _ _ _).alloc _).alloc _).trans k2)
  have HK2 : Hid (Kept w u2) := HK1.out.trans ((((But.refl _ _ _).alloc _).alloc _).trans k2)
  clear k2 HK1
  have a0 := La.cell 0 rfl
  have a1 := La.cell 1 rfl
  have a2 := La.cell 2 rfl
  have a3 := La.cell 3 rfl
  have a4 := La.cell 4 rfl
  have a5 := Lb.cell 0 rfl
  have a6 := Lb.cell 1 rfl
  have al := La.lt
  have bl := Lb.lt
  repeat (first | go_values | go_skip | go_guarded | go_step | go_upon)
  go_at_call 12
  refine (srun r0 r1 r2 r3 r4 s1 s2 b0 b1 b2 b3 b4 bs1 bs2 l _ _ (HO.out.at.kept ((But.refl _ _ _).alloc _)) hw (by omega)).mono ?_
  rintro e u3 ⟨v3, rfl, ow, k3⟩
  rw [HR.out] at ow ⊢
  obtain ⟨aw, cw, hfm⟩ := ow.form
  dsimp only at hfm ow ⊢
  subst hfm
  have s3' := k3.size
  simp only [World.size_alloc] at s3' ow
  have j3 : Kept u2 u3 := ((But.refl _ _ u2).alloc _).trans k3
  have La := La.kept j3
  have Lb := Lb.kept j3
  have Lg := (Loc.new u2 [.float .f64 e1, .float .f64 e2] 27).kept k3
  have og := og.kept j3
  have HO : Hid (FltO u3 w.heap.size u1.heap.size (.slice aox l.length cx) l) := HO.out.kept j3
  have HK3 : Hid (Kept w u3) := HK2.out.trans j3
  clear k3 j3 HK2 a0 a1 a2 a3 a4 a5 a6 al bl
  have g0 := Lg.cell 0 rfl
  have g1 := Lg.cell 1 rfl
  have gl := Lg.lt
  have HWw : Hid (FltO u3 (u2.heap.size + 1) u3.heap.size (.slice aw RL.length cw) RL) := ow
  have HGg : Hid (FltO u3 (u1.heap.size + 1 + 1) u2.heap.size (.slice ag RL.length cg) RL) := og
  clear ow og
  cases jb with
  | false =>
    repeat (first | go_values | go_skip | go_guarded | go_step | go_upon)
    go_ret
    exact ⟨rfl, by (repeat (first | with_reducible exact HK3.out | with_reducible apply But.drewN | with_reducible apply But.drew | with_reducible apply But.alloc | (with_reducible refine But.setNew ?_ (by simp; try omega) _)))⟩
  | true =>
    obtain ⟨A, mid, Bb, hA, hB, hAB, hmid, hnan, hn1, hn2, hlen, hlA, hlB⟩ := pieces (r0, r1, r2, r3, r4) (s1, s2) l (l.length / 2) bs1 bs2 (by rw [HR.out])
    rw [HR.out] at hB hAB hnan hn1 hn2 hlen
    dsimp only at hB hAB hnan hn1 hn2 hlen
    obtain ⟨K, hKe⟩ : ∃ K, l.length / 2 = K := ⟨_, rfl⟩
    have hKl : K ≤ l.length := by omega
    have hq : (l.length : Int) / 2 = (K : Int) := by omega
    rw [hKe] at hA hB hlA hlB
    have HA : Hid (runF (r0, r1, r2, r3, r4) (s1, s2) (l.take K) = (A, mid, true)) := hA
    have HB : Hid (runF (r0, r1, r2, r3, r4) mid (l.drop K) = (Bb, (e1, e2), true)) := hB
    have HAB : Hid (RL = A ++ Bb) := hAB
    have HLN : Hid (RL.length = l.length ∧ A.length = K ∧ Bb.length = l.length - K) := ⟨hlen, by rw [hlA]; simp; omega, by rw [hlB]; simp⟩
    have HNN : Hid (∀ y ∈ RL, nanB y = false) := hnan
    clear hA hB hAB hlen hlA hlB hnan hn1 hn2 hKe
    have x1 : (0 : Int) ≤ (K : Int) := by omega
    have x2 : (K : Int) ≤ (l.length : Int) := by omega
    have x3 : (l.length : Int) ≤ (cx : Int) := by
      have := cap_of HO.out
      omega
    have x4 : (K : Int) ≤ (cx : Int) := by omega
    repeat (first | go_values | go_skip | go_guarded | go_step | go_upon)
    refine forgetC (fun u => Kept w u ∧ Loc u u1.heap.size [.float .f64 r0, .float .f64 r1, .float .f64 r2, .float .f64 r3, .float .f64 r4] ∧ Loc u (u1.heap.size + 1) [.float .f64 s1, .float .f64 s2] ∧ Loc u u2.heap.size [.float .f64 e1, .float .f64 e2] ∧ FltO u w.heap.size u1.heap.size (.slice aox l.length cx) l ∧ FltO u (u2.heap.size + 1) u3.heap.size (.slice aw RL.length cw) RL ∧ FltO u (u1.heap.size + 1 + 1) u2.heap.size (.slice ag RL.length cg) RL ∧ u3.heap.size ≤ u.heap.size) ⟨HK3.out.alloc _, La.alloc _, Lb.alloc _, Lg.alloc _, HO.out.kept ((But.refl _ _ _).alloc _), HWw.out.kept ((But.refl _ _ _).alloc _), HGg.out.kept ((But.refl _ _ _).alloc _), by simp⟩ ?_
    clear La Lb Lg g0 g1 gl HO HWw HGg HK3 hmn hq x3
    rintro u4 ⟨K4, La, Lb, Lg, ox, ow, og, s4'⟩
    obtain ⟨m1, m2⟩ := mid
    have HI1 : Hid (∀ (u : World) (v : Value), FltAt u v (l.take K) → Calls Try.prog 11 #[.agg #[.float .f64 r0, .float .f64 r1, .float .f64 r2, .float .f64 r3, .float .f64 r4], .agg #[.float .f64 s1, .float .f64 s2], v] u fun e u' => ∃ v', e = .returned (.tuple #[v', .agg #[.float .f64 m1, .float .f64 m2], .bool true]) ∧ FltO u' u.heap.size u'.heap.size v' A ∧ Kept u u') := fun u v hv => by
      have := irun r0 r1 r2 r3 r4 s1 s2 b0 b1 b2 b3 b4 bs1 bs2 (l.take K) v u hv (fun p hp => hw p (List.mem_of_mem_take hp)) (by simp; omega)
      rw [HA.out] at this
      exact this
    have HI2 : Hid (∀ (u : World) (v : Value), FltAt u v (l.drop K) → Calls Try.prog 11 #[.agg #[.float .f64 r0, .float .f64 r1, .float .f64 r2, .float .f64 r3, .float .f64 r4], .agg #[.float .f64 m1, .float .f64 m2], v] u fun e u' => ∃ v', e = .returned (.tuple #[v', .agg #[.float .f64 e1, .float .f64 e2], .bool true]) ∧ FltO u' u.heap.size u'.heap.size v' Bb ∧ Kept u u') := fun u v hv => by
      have := irun r0 r1 r2 r3 r4 m1 m2 b0 b1 b2 b3 b4 hmid.1 hmid.2 (l.drop K) v u hv (fun p hp => hw p (List.mem_of_mem_drop hp)) (by simp; omega)
      rw [HB.out] at this
      exact this
    have HLA : Hid (A.length = K) := HLN.out.2.1
    have a0 := La.cell 0 rfl
    have a1 := La.cell 1 rfl
    have a2 := La.cell 2 rfl
    have a3 := La.cell 3 rfl
    have a4 := La.cell 4 rfl
    have a5 := Lb.cell 0 rfl
    have a6 := Lb.cell 1 rfl
    have al := La.lt
    have bl := Lb.lt
    go_cut [13, 14, 15] from 66 to 75 (fun v6 v7 v8 wx => ∃ gw aoA capA, v7 = .pointer (some ⟨gw, 0, none⟩) ∧ v6 = .slice aoA A.length capA ∧ v8 = .bool true ∧ LocR2 wx gw (.float .f64 m1) (.float .f64 m2) ∧ u4.heap.size ≤ gw ∧ Kept u4 wx ∧ ∃ lo hi, u4.heap.size ≤ lo ∧ (gw < lo ∨ hi ≤ gw) ∧ hi ≤ wx.heap.size ∧ FltO wx lo hi (.slice aoA A.length capA) A)
    case first =>
      go_region_held3 (fun w' => w'.cell? ⟨u1.heap.size, 0, none⟩ = some (.float .f64 r0) ∧ w'.cell? ⟨u1.heap.size, 1, none⟩ = some (.float .f64 r1) ∧ w'.cell? ⟨u1.heap.size, 2, none⟩ = some (.float .f64 r2) ∧ w'.cell? ⟨u1.heap.size, 3, none⟩ = some (.float .f64 r3) ∧ w'.cell? ⟨u1.heap.size, 4, none⟩ = some (.float .f64 r4) ∧ w'.cell? ⟨u1.heap.size + 1, 0, none⟩ = some (.float .f64 s1) ∧ w'.cell? ⟨u1.heap.size + 1, 1, none⟩ = some (.float .f64 s2)) (simp [go_sem, *])
        (first | (go_at_call 11; refine (HI1.out _ _ (FltAt.kept (FltAt.take ox.at K hKl) (by (repeat (first | with_reducible exact But.refl _ _ _ | with_reducible apply But.drewN | with_reducible apply But.drew | with_reducible apply But.alloc | (with_reducible refine But.setNew ?_ (by simp; try omega) _)))))).mono ?_; rintro e y4 ⟨v4, rfl, oA, k4⟩; obtain ⟨ao4, cap4, hfm⟩ := oA.form; subst hfm; obtain ⟨lo4, hlo4, oA⟩ : ∃ lo, lo = _ ∧ FltO y4 lo y4.heap.size _ A := ⟨_, rfl, oA⟩; (try simp at hlo4); have hc4 := k4.cell_eq; have hf4 := k4.frozen_eq; have hz4 := k4.size; (try simp at hz4); have n0y4 : u1.heap.size < y4.heap.size := (by omega); have n1y4 : u1.heap.size + 1 < y4.heap.size := (by omega); have kw4 : Kept u4 y4 := (But.trans (by (repeat (first | with_reducible exact But.refl _ _ _ | with_reducible apply But.drewN | with_reducible apply But.drew | with_reducible apply But.alloc | (with_reducible refine But.setNew ?_ (by simp; try omega) _)))) k4); have a0y4 := Kept.cell kw4 a0; have a1y4 := Kept.cell kw4 a1; have a2y4 := Kept.cell kw4 a2; have a3y4 := Kept.cell kw4 a3; have a4y4 := Kept.cell kw4 a4; have a5y4 := Kept.cell kw4 a5; have a6y4 := Kept.cell kw4 a6; (try have mm4 : u4.heap.size < y4.heap.size := (by omega)); (try have ys0 : (y4.cell? ⟨u4.heap.size, 0, none⟩).isSome = true := (by first | (simp [go_sem, *]; done) | fail)); (try have yf0 : y4.frozen? ⟨u4.heap.size, 0, none⟩ = false := (by first | (simp [go_sem, *]; done) | fail)); (try have ys1 : (y4.cell? ⟨u4.heap.size, 1, none⟩).isSome = true := (by first | (simp [go_sem, *]; done) | fail)); (try have yf1 : y4.frozen? ⟨u4.heap.size, 1, none⟩ = false := (by first | (simp [go_sem, *]; done) | fail))))
      · repeat (first | go_values | go_skip | go_guarded | go_step | go_upon)
        go_meet
        case rel =>
          refine ⟨_, ao4, cap4, rfl, rfl, rfl, ⟨by simp [go_sem, *], by simp [go_sem, *], by simp; try omega⟩, by omega, by (repeat (first | with_reducible exact kw4 | with_reducible apply But.drewN | with_reducible apply But.drew | with_reducible apply But.alloc | (with_reducible refine But.setNew ?_ (by simp; try omega) _))), lo4, y4.heap.size, by omega, by omega, by simp, ?_⟩
          exact FltO.kept oA ((But.refl _ _ _).alloc _)
      · repeat (first | go_values | go_skip | go_guarded | go_step | go_upon)
        go_meet
        case rel =>
          refine ⟨_, ao4, cap4, rfl, rfl, rfl, ⟨by simp [go_sem, *], by simp [go_sem, *], by simp; try omega⟩, by omega, by (repeat (first | with_reducible exact kw4 | with_reducible apply But.drewN | with_reducible apply But.drew | with_reducible apply But.alloc | (with_reducible refine But.setNew ?_ (by simp; try omega) _))), lo4, y4.heap.size, by omega, by omega, by simp, ?_⟩
          exact FltO.but (lo' := u4.heap.size) (hi' := u4.heap.size + 1) oA (((But.refl _ _ _).setCell (by simp) (by simp) _).setCell (by simp) (by simp) _) (by omega)
    case rest =>
      obtain ⟨gm, aoA, cA, rfl, rfl, rfl, Lm, hgm, k5, loA, hiA, hloA, hgA, hhiA, oA⟩ := hcut
      have s5' := k5.size
      have hgml := Lm.2.2
      have K5 := K4.trans k5
      have La := La.kept k5
      have Lg := Lg.kept k5
      have ox := ox.kept k5
      have ow := ow.kept k5
      have og := og.kept k5
      clear a0 a1 a2 a3 a4 a5 a6 al bl K4 k5 Lb
      obtain ⟨aoD, hD⟩ : ∃ a, (if cx = K then aox else aox.map (·.add K)) = a := ⟨_, rfl⟩
      have hsl : ∀ W, (Instr.slice 28 (.slice aox l.length cx) (some (.int .i64 (K : Int))) none none).run Try.prog W = .ok (.slice aoD (l.length - K) (cx - K)) W := fun W => by
        rw [slice_from W aox l.length cx K hKl, hD]
      have hdr := fun (u : World) (hu : FltAt u (.slice aox l.length cx) l) => dropAny hu K hKl (cap_of ox)
      rw [hD] at hdr
      have HDR : Hid (∀ (u : World), FltAt u (.slice aox l.length cx) l → FltAt u (.slice aoD (l.length - K) (cx - K)) (l.drop K)) := hdr
      clear hdr hD
      refine forgetK (fun u => u = _) rfl ?_
      intro u5 hu5
      rw [← hu5] at Lm hhiA oA s5' K5 La Lg ox ow og hgml
      clear hu5
      have a0 := La.cell 0 rfl
      have a1 := La.cell 1 rfl
      have a2 := La.cell 2 rfl
      have a3 := La.cell 3 rfl
      have a4 := La.cell 4 rfl
      have a5 := Lm.1
      have a6 := Lm.2.1
      have al := La.lt
      repeat (first | go_values | go_skip | go_guarded | go_step | go_upon)
      go_cut [16, 17, 18] from 76 to 85 (fun v6 v7 v8 wx => ∃ gw aoA capA, v7 = .pointer (some ⟨gw, 0, none⟩) ∧ v6 = .slice aoA Bb.length capA ∧ v8 = .bool true ∧ LocR2 wx gw (.float .f64 e1) (.float .f64 e2) ∧ u5.heap.size ≤ gw ∧ Kept u5 wx ∧ ∃ lo hi, u5.heap.size ≤ lo ∧ (gw < lo ∨ hi ≤ gw) ∧ hi ≤ wx.heap.size ∧ FltO wx lo hi (.slice aoA Bb.length capA) Bb)
      case first =>
        go_region_held3 (fun w' => w'.cell? ⟨u1.heap.size, 0, none⟩ = some (.float .f64 r0) ∧ w'.cell? ⟨u1.heap.size, 1, none⟩ = some (.float .f64 r1) ∧ w'.cell? ⟨u1.heap.size, 2, none⟩ = some (.float .f64 r2) ∧ w'.cell? ⟨u1.heap.size, 3, none⟩ = some (.float .f64 r3) ∧ w'.cell? ⟨u1.heap.size, 4, none⟩ = some (.float .f64 r4) ∧ w'.cell? ⟨gm, 0, none⟩ = some (.float .f64 m1) ∧ w'.cell? ⟨gm, 1, none⟩ = some (.float .f64 m2)) (simp [go_sem, *])
          (first | (go_at_call 11; refine (HI2.out _ _ (FltAt.kept (HDR.out _ ox.at) (by (repeat (first | with_reducible exact But.refl _ _ _ | with_reducible apply But.drewN | with_reducible apply But.drew | with_reducible apply But.alloc | (with_reducible refine But.setNew ?_ (by simp; try omega) _)))))).mono ?_; rintro e y4 ⟨v4, rfl, oA, k4⟩; obtain ⟨ao4, cap4, hfm⟩ := oA.form; subst hfm; obtain ⟨lo4, hlo4, oA⟩ : ∃ lo, lo = _ ∧ FltO y4 lo y4.heap.size _ Bb := ⟨_, rfl, oA⟩; (try simp at hlo4); have hc4 := k4.cell_eq; have hf4 := k4.frozen_eq; have hz4 := k4.size; (try simp at hz4); have n0y4 : gm < y4.heap.size := (by omega); have n1y4 : u1.heap.size < y4.heap.size := (by omega); have kw4 : Kept u5 y4 := (But.trans (by (repeat (first | with_reducible exact But.refl _ _ _ | with_reducible apply But.drewN | with_reducible apply But.drew | with_reducible apply But.alloc | (with_reducible refine But.setNew ?_ (by simp; try omega) _)))) k4); have a0y4 := Kept.cell kw4 a0; have a1y4 := Kept.cell kw4 a1; have a2y4 := Kept.cell kw4 a2; have a3y4 := Kept.cell kw4 a3; have a4y4 := Kept.cell kw4 a4; have a5y4 := Kept.cell kw4 a5; have a6y4 := Kept.cell kw4 a6; (try have mm4 : u5.heap.size < y4.heap.size := (by omega)); (try have ys0 : (y4.cell? ⟨u5.heap.size, 0, none⟩).isSome = true := (by first | (simp [go_sem, *]; done) | fail)); (try have yf0 : y4.frozen? ⟨u5.heap.size, 0, none⟩ = false := (by first | (simp [go_sem, *]; done) | fail)); (try have ys1 : (y4.cell? ⟨u5.heap.size, 1, none⟩).isSome = true := (by first | (simp [go_sem, *]; done) | fail)); (try have yf1 : y4.frozen? ⟨u5.heap.size, 1, none⟩ = false := (by first | (simp [go_sem, *]; done) | fail))))
        · repeat (first | go_values | go_skip | go_guarded | go_step | go_upon)
          go_meet
          case rel =>
            refine ⟨_, ao4, cap4, rfl, rfl, rfl, ⟨by simp [go_sem, *], by simp [go_sem, *], by simp; try omega⟩, by omega, by (repeat (first | with_reducible exact kw4 | with_reducible apply But.drewN | with_reducible apply But.drew | with_reducible apply But.alloc | (with_reducible refine But.setNew ?_ (by simp; try omega) _))), lo4, y4.heap.size, by omega, by omega, by simp, ?_⟩
            exact FltO.kept oA ((But.refl _ _ _).alloc _)
        · repeat (first | go_values | go_skip | go_guarded | go_step | go_upon)
          go_meet
          case rel =>
            refine ⟨_, ao4, cap4, rfl, rfl, rfl, ⟨by simp [go_sem, *], by simp [go_sem, *], by simp; try omega⟩, by omega, by (repeat (first | with_reducible exact kw4 | with_reducible apply But.drewN | with_reducible apply But.drew | with_reducible apply But.alloc | (with_reducible refine But.setNew ?_ (by simp; try omega) _))), lo4, y4.heap.size, by omega, by omega, by simp, ?_⟩
            exact FltO.but (lo' := u5.heap.size) (hi' := u5.heap.size + 1) oA (((But.refl _ _ _).setCell (by simp) (by simp) _).setCell (by simp) (by simp) _) (by omega)
      case rest =>
        obtain ⟨ge, aoB, cB, rfl, rfl, rfl, Le, hge, k6, loB, hiB, hloB, hgB, hhiB, oB⟩ := hcut
        have s6' := k6.size
        have K6 := K5.trans k6
        have Lg := Lg.kept k6
        have ow := ow.kept k6
        have og := og.kept k6
        have oA := oA.kept k6
        clear a0 a1 a2 a3 a4 a5 a6 al K5 k6 La Lm ox hsl
        have hmn := fun w => mem_neq e1 e2 HNE.out.1 HNE.out.2 w
        have hln := HLN.out
        have hsum : IntKind.i64.wrap ((A.length : Int) + (Bb.length : Int)) = (RL.length : Int) := by rw [IntWalk.i64_in _ (by omega)]; omega
        have hsum2 : (A.length : Int) + (Bb.length : Int) = (RL.length : Int) := by omega
        have hsum3 : A.length + Bb.length = RL.length := by omega
        have hRl : RL.length ≤ 65 := by omega
        have hAl : A.length ≤ 65 := by omega
        have hBl : Bb.length ≤ 65 := by omega
        have HS3 : Hid (A.length + Bb.length = RL.length) := hsum3
        clear hln hsum3
        refine forgetK (fun u => u = _) rfl ?_
        intro u6 hu6
        rw [← hu6] at Le hhiB oB s6' K6 Lg ow og oA
        clear hu6
        have x5 := Le.1
        have x6 := Le.2.1
        have y5 := Lg.cell 0 rfl
        have y6 := Lg.cell 1 rfl
        have HOA : Hid (FltO u6 loA hiA (.slice aoA A.length cA) A) := oA
        have HOB : Hid (FltO u6 loB hiB (.slice aoB Bb.length cB) Bb) := oB
        have HOW : Hid (FltO u6 (u2.heap.size + 1) u3.heap.size (.slice aw RL.length cw) RL) := ow
        have HOG : Hid (FltO u6 (u1.heap.size + 1 + 1) u2.heap.size (.slice ag RL.length cg) RL) := og
        have HK6 : Hid (Kept w u6) := K6
        have hcA := cap_of oA
        clear Le Lg oA oB ow og K6
        obtain ⟨i0, hi0, hz0, hz1, hz2⟩ := info_parts info_flt
        repeat (first | (at_builtin; refine forgetL (fun w' => w' = _) rfl ?_) | go_values | go_skip | go_guarded | go_step | go_upon)
        intro u6' hu6'
        subst hu6'
        refine wpList_append_any _ rfl _ _ 28 rfl u4.heap.size 23 i0 (.float .f64 0) 1 8 Try.underlying28 hi0 hz0 hz1 hz2 rfl (by decide) (.slice aoA A.length cA) A.length (A.flatMap fltC) rfl (own_base HOA.out.1 hloA) aoB Bb.length cB (Bb.flatMap fltC) rfl (flat_len 1 fltC fltC_len Bb) (row_src HOB.out.at) (ones Bb) (by unfold maxLen; omega) (by omega) (by omega) ?_
        intro v' u7 hown hgrow
        obtain ⟨ao7, c7, hf5, _⟩ := own_form hown
        subst hf5
        have HK7 : Hid (Kept w u7) := HK6.out.grown hgrow (by intro x hx; have := own_lt HOA.out.1 hx; omega)
        have HOW : Hid (FltO u7 (u2.heap.size + 1) u3.heap.size (.slice aw RL.length cw) RL) := RowO.grown HOW.out hgrow (ap_low HOW.out HOA.out (.inl (by omega)))
        have HOG : Hid (FltO u7 (u1.heap.size + 1 + 1) u2.heap.size (.slice ag RL.length cg) RL) := RowO.grown HOG.out hgrow (ap_low HOG.out HOA.out (.inl (by omega)))
        rw [HS3.out] at hown ⊢
        have HP : Hid (FltAt u7 (.slice ao7 RL.length c7) RL) := by
          have h9 := own_row hown
          rw [← List.flatMap_append, ← HAB.out] at h9
          exact h9
        clear hgrow hown
        dsimp only
        repeat (first | go_values | go_skip | go_guarded | go_step | go_upon)
        go_loopw [111] (fun i wr => ∃ k : Nat, k ≤ RL.length ∧ i = .int .i64 k ∧ Kept u7 wr) (fun i _ => RL.length - (intOf i).toNat)
        case atStart => exact ⟨0, by omega, rfl, But.refl _ _ _⟩
        case round =>
          obtain ⟨k, hk, rfl, hkp⟩ := hrel
          by_cases hlt : k < RL.length
          · obtain ⟨y, hy⟩ : ∃ y, RL[k]? = some y := ⟨_, List.getElem?_eq_getElem hlt⟩
            obtain ⟨p1, o1, q1, e, c1⟩ := flt_get (HP.out.kept hkp) hy
            cases e
            obtain ⟨p2, o2, q2, e, c2⟩ := flt_get (HOG.out.at.kept hkp) hy
            cases e
            obtain ⟨p3, o3, q3, e, c3⟩ := flt_get (HOW.out.at.kept hkp) hy
            cases e
            have hny : (FloatKind.f64.format.order y y != some Ordering.eq) = false := by rw [order_ne]; exact HNN.out y (List.mem_of_getElem? hy)
            have z1 : (0 : Int) ≤ (k : Int) := by omega
            have z2 : (k : Int) < (RL.length : Int) := by omega
            have HKP : Hid (Kept u7 wr) := hkp
            clear hkp hy
            repeat (first | go_values | go_skip | go_guarded | go_step | go_upon)
            exact ⟨⟨k + 1, hlt, by go_num, HKP.out⟩, by simp [intOf]; omega⟩
          · have hke : k = RL.length := by omega
            subst hke
            repeat (first | go_values | go_skip | go_guarded | go_step | go_upon)
            go_ret
            exact ⟨rfl, HK7.out.trans hkp⟩

end Go.Proofs.Ytghmnhohdbombaa
