/-
  A quad taken out of what is free, in the specification.
-/
import Derived.Test.YtnfkgnbhdhpnmaaQuadP13
import Derived.Test.YtnfkgnbhdhpnmaaClone13
import Derived.Deep.RegionHeld3
import Derived.Deep.LoopGhost
import Derived.Deep.CutBlock
namespace Go.Proofs.Ytnfkgnbhdhpnmaa
open Go.ChangeShapes Go.WideShapes Go.ChangeAt Go.RowKit

set_option maxRecDepth 100000
set_option linter.unusedVariables false
theorem row_out {G : Grid} {us vs u v y W : Nat} (hb : Bd us vs G) (h0 : G u v ≠ 0) (hy : vs ≤ y) (hW : 1 ≤ W) : rowB G u y (G u v) W = false := by
  cases h : rowB G u y (G u v) W with
  | false => rfl
  | true => exact absurd ((rowB_iff.1 h 0 (by omega)).symm.trans (hb _ _ (.inr hy))) h0
/-- A grid of which some rows of a quad are cut, and of the next one the first faces. -/
def cutR (G : Grid) (u v W j i : Nat) : Grid := fun x y => if ((u ≤ x ∧ x < u + W) ∧ (v ≤ y ∧ y < v + j)) ∨ ((u ≤ x ∧ x < u + i) ∧ y = v + j) then 0 else G x y
theorem cutR_zero {G : Grid} {u v W : Nat} : cutR G u v W 0 0 = G := by
  funext x y
  unfold cutR
  rw [if_neg (by omega)]
theorem cutR_row {G : Grid} {u v W j : Nat} : cutR G u v W j W = cutR G u v W (j + 1) 0 := by
  funext x y
  unfold cutR
  by_cases h : ((u ≤ x ∧ x < u + W) ∧ (v ≤ y ∧ y < v + j)) ∨ ((u ≤ x ∧ x < u + W) ∧ y = v + j)
  · rw [if_pos h, if_pos (by omega)]
  · rw [if_neg h, if_neg (by omega)]
theorem cutR_step {G : Grid} {u v W j i : Nat} (h : i < W) : (fun a b => if a = u + i ∧ b = v + j then 0 else cutR G u v W j i a b) = cutR G u v W j (i + 1) := by
  funext x y
  unfold cutR
  by_cases e : x = u + i ∧ y = v + j
  · rw [if_pos e, if_pos (by omega)]
  · rw [if_neg e]
    by_cases h2 : ((u ≤ x ∧ x < u + W) ∧ (v ≤ y ∧ y < v + j)) ∨ ((u ≤ x ∧ x < u + i) ∧ y = v + j)
    · rw [if_pos h2, if_pos (by omega)]
    · rw [if_neg h2, if_neg (by omega)]
theorem cutR_all {G : Grid} {u v W H : Nat} : cutR G u v W H 0 = cutG G u v W H := by
  funext x y
  unfold cutR cutG
  by_cases h : (u ≤ x ∧ x < u + W) ∧ (v ≤ y ∧ y < v + H)
  · rw [if_pos h, if_pos (by omega)]
  · rw [if_neg h, if_neg (by omega)]
/-- A row in a block of before is not touched by what is done to a block of now. -/
theorem own_far {w w' : World} {lo hi g n cap B : Nat} {l : List NumD} {W : Nat} (h : NumO w lo hi (.slice (some ⟨g, 0, none⟩) n cap) l) (hg : g < W) (k : But B (B + 1) w w') (hB : W ≤ B) : NumO w' lo hi (.slice (some ⟨g, 0, none⟩) n cap) l :=
  ⟨own_but h.1 k (fun x hx => by cases hx; show g < B ∨ B + 1 ≤ g; omega), h.2⟩
set_option maxHeartbeats 16000000 in
theorem squad (us vs way at_ u v g cap lo hi : Nat) (G : Grid) (w : World) (ho : NumO w lo hi (.slice (some ⟨g, 0, none⟩) (us * vs) cap) (gridL us vs G)) (hb : Bd us vs G) (hu : u < us) (hv : v < vs) (hus : us ≤ 8) (hvs : vs ≤ 8) (h0 : G u v ≠ 0) :
    Calls Try.prog 52 #[.slice (some ⟨g, 0, none⟩) (us * vs) cap, .int .i64 (us : Int), .int .i64 (vs : Int), .int .i64 ((v * us + u : Nat) : Int), .int .i64 (way : Int), .int .i64 (at_ : Int)] w fun e w' => e = .returned (.agg (quadC (quadAt way at_ G u v)).toArray) ∧ NumO w' lo hi (.slice (some ⟨g, 0, none⟩) (us * vs) cap) (gridL us vs (cutG G u v (wOf G u v) (hOf G u v))) ∧ But lo hi w w' := by
  obtain ⟨hgk, hkl⟩ := gridL_at (vs := vs) (G := G) hu hv
  obtain ⟨k, hk⟩ : ∃ k, k = v * us + u := ⟨_, rfl⟩
  have hp : 0 < us := by omega
  have e1 : k % us = u := by rw [hk, Nat.add_comm, Nat.add_mul_mod_self_right, Nat.mod_eq_of_lt hu]
  have e2 : k / us = v := by rw [hk, Nat.add_comm, Nat.add_mul_div_right _ _ hp, Nat.div_eq_of_lt hu, Nat.zero_add]
  have hm64 : us * vs ≤ 64 := Nat.mul_le_mul hus hvs
  rw [← hk] at hgk hkl ⊢
  obtain ⟨c0, dz⟩ := ho.cells hgk
  have zu : ((us : Int) == 0) = false := by simp; omega
  have i1 : (k : Int) % (us : Int) = (u : Int) := by rw [← e1]; rfl
  have i2 : (k : Int) / (us : Int) = (v : Int) := by rw [← e2]; rfl
  have zk : (k : Int) < ((us * vs : Nat) : Int) := by omega
  have zk2 : (k : Int) < (us : Int) * (vs : Int) := by have := zk; push_cast at this; exact this
  have t1 : (k : Int).tmod (us : Int) = (u : Int) := by rw [Int.tmod_eq_emod_of_nonneg (by omega)]; exact i1
  have t2 : (k : Int).tdiv (us : Int) = (v : Int) := by rw [Int.tdiv_eq_ediv_of_nonneg (by omega)]; exact i2
  have t3 : IntKind.i64.wrap (v : Int) = (v : Int) := IntWalk.i64_in _ (by omega)
  have hus0 : us ≠ 0 := by omega
  have hus1 : (us == 0) = false := by simp; omega
  clear dz
  have gl := cell_ltG c0
  have HKE : Hid (k = v * us + u) := hk
  clear hk hgk e1 e2
  go_enter Try.func52, Try.ntmps52
  repeat (first | go_values | go_skip | go_guarded | go_step | go_upon)
  obtain ⟨X, hX⟩ : ∃ X, X = w.alloc (.cells #[.int .i64 0, .int .i64 0, .int .i64 0, .int .i64 0, .int .i64 0, .int .i64 0, .int .i64 0] 33) := ⟨_, rfl⟩
  have kX : Kept w X := by rw [hX]; exact (But.refl _ _ _).alloc _
  have LRX : Loc X w.heap.size [.int .i64 0, .int .i64 0, .int .i64 0, .int .i64 0, .int .i64 0, .int .i64 0, .int .i64 0] := by rw [hX]; exact Loc.new _ _ _
  have hXs : X.heap.size = w.heap.size + 1 := by rw [hX]; simp
  rw [← hX]
  clear hX
  have c1 := Kept.cell kX c0
  have gl1 := cell_ltG c1
  go_region_held3 (fun w' => w'.cell? ⟨g, k, none⟩ = some (.int .i64 (G u v))) (simp [go_sem, *]) (fail)
  obtain ⟨Y, hY⟩ : ∃ Y, Y = (X.alloc (.cells #[.int .i64 (way : Int), .int .i64 (at_ : Int), .int .i64 (u : Int), .int .i64 (v : Int), .int .i64 1, .int .i64 1, .int .i64 (G u v)] 33)).drew := ⟨_, rfl⟩
  have kY : Kept X Y := by rw [hY]; exact ((But.refl _ _ _).alloc _).drew
  have HB1 : Hid (Loc Y (w.heap.size + 1) [.int .i64 (way : Int), .int .i64 (at_ : Int), .int .i64 (u : Int), .int .i64 (v : Int), .int .i64 1, .int .i64 1, .int .i64 (G u v)]) := by
    have h := (Loc.new X [.int .i64 (way : Int), .int .i64 (at_ : Int), .int .i64 (u : Int), .int .i64 (v : Int), .int .i64 1, .int .i64 1, .int .i64 (G u v)] 33)
    rw [hXs] at h
    show Loc _ _ _
    rw [hY]
    exact h.kept ((But.refl _ _ _).drew)
  have HR1 : Hid (Loc Y w.heap.size [.int .i64 0, .int .i64 0, .int .i64 0, .int .i64 0, .int .i64 0, .int .i64 0, .int .i64 0]) := LRX.kept kY
  have HO1 : Hid (NumO Y lo hi (.slice (some ⟨g, 0, none⟩) (us * vs) cap) (gridL us vs G)) := ho.kept (kX.trans kY)
  have HK1 : Hid (Kept w Y) := kX.trans kY
  have HBD : Hid (Bd us vs G) := hb
  have hgw : g < w.heap.size := gl
  rw [← hY]
  clear hY kX kY LRX hXs c0 c1 gl gl1 t1 t2 t3 i1 i2 zu hus1 hb ho
  go_upto_block 0 with fail
  go_cut [] from 31 to 53 (fun wx => ∃ W : Nat, wOf G u v = W ∧ 1 ≤ W ∧ u + W ≤ us ∧ Hid (Loc wx (w.heap.size + 1) [.int .i64 (way : Int), .int .i64 (at_ : Int), .int .i64 (u : Int), .int .i64 (v : Int), .int .i64 (W : Int), .int .i64 1, .int .i64 (G u v)]) ∧ Hid (Loc wx w.heap.size [.int .i64 0, .int .i64 0, .int .i64 0, .int .i64 0, .int .i64 0, .int .i64 0, .int .i64 0] ∧ NumO wx lo hi (.slice (some ⟨g, 0, none⟩) (us * vs) cap) (gridL us vs G) ∧ Kept w wx))
  case rest =>
    obtain ⟨W, hWe, hW1, hWu, HB, HF⟩ := hcut
    clear HB1 HR1 HO1 HK1
    go_upto_block 2 with fail
    go_cut [14, 15] from 54 to 89 (fun _b _i wx => ∃ H : Nat, hOf G u v = H ∧ 1 ≤ H ∧ v + H ≤ vs ∧ Hid (Loc wx (w.heap.size + 1) [.int .i64 (way : Int), .int .i64 (at_ : Int), .int .i64 (u : Int), .int .i64 (v : Int), .int .i64 (W : Int), .int .i64 (H : Int), .int .i64 (G u v)]) ∧ Hid (Loc wx w.heap.size [.int .i64 0, .int .i64 0, .int .i64 0, .int .i64 0, .int .i64 0, .int .i64 0, .int .i64 0] ∧ NumO wx lo hi (.slice (some ⟨g, 0, none⟩) (us * vs) cap) (gridL us vs G) ∧ Kept w wx))
    case rest =>
      obtain ⟨H, hHe, hH1, hHv, HB2, HF2⟩ := hcut
      clear HB HF
      go_upto_block 6 with fail
      have HF3 : Hid (NumO wc lo hi (.slice (some ⟨g, 0, none⟩) (us * vs) cap) (gridL us vs (cutR G u v W 0 0))) := by show NumO _ _ _ _ _; rw [cutR_zero]; exact HF2.out.2.1
      have hglo := own_lt HF2.out.2.1.1 (g := g) rfl
      have hghi := HF2.out.2.1.2 g rfl
      rename World => wd
      repeat (first | go_values | go_skip | go_guarded | go_step | go_upon)
      go_loopw [16] (fun x wr => ∃ j : Nat, j ≤ H ∧ x = .int .i64 j ∧ Hid (NumO wr lo hi (.slice (some ⟨g, 0, none⟩) (us * vs) cap) (gridL us vs (cutR G u v W j 0))) ∧ Hid (But g (g + 1) wd wr)) (fun x _ => H - (intOf x).toNat)
      case atStart => exact ⟨0, by omega, rfl, HF3, But.refl _ _ _⟩
      case round =>
        clear HF3
        rename World => we
        obtain ⟨j, hj, rfl, HG, HK⟩ := hrel
        have p4 := (HB2.out.but HK.out (.inr (by omega))).cell 4 rfl
        have p5 := (HB2.out.but HK.out (.inr (by omega))).cell 5 rfl
        by_cases hlj : j < H
        · have dj : decide ((j : Int) < (H : Int)) = true := by simp; omega
          repeat (first | go_values | go_skip | go_guarded | go_step | go_upon)
          clear dj p4 p5
          go_loopw [17] (fun x wr => ∃ i : Nat, i ≤ W ∧ x = .int .i64 i ∧ Hid (NumO wr lo hi (.slice (some ⟨g, 0, none⟩) (us * vs) cap) (gridL us vs (cutR G u v W j i))) ∧ Hid (But g (g + 1) wd wr)) (fun x _ => W - (intOf x).toNat)
          case atStart => exact ⟨0, by omega, rfl, HG, HK⟩
          case round =>
            clear HG HK
            rename World => wf
            obtain ⟨i, hi', rfl, HG, HK⟩ := hrel
            have p4 := (HB2.out.but HK.out (.inr (by omega))).cell 4 rfl
            by_cases hli : i < W
            · obtain ⟨hg2, hl2⟩ := gridL_at (vs := vs) (G := cutR G u v W j i) (show u + i < us by omega) (show v + j < vs by omega)
              have hix : (v + j) * us + (u + i) = k + j * us + i := by rw [HKE.out, Nat.add_mul]; omega
              have hst := HG.out.set (gridL_len _ _ _).symm hg2 0
              rw [gridL_set (show u + i < us by omega) (show v + j < vs by omega), cutR_step hli] at hst
              rw [hix] at hg2 hl2 hst
              obtain ⟨c0, cz⟩ := HG.out.cells hg2
              have cz0 := cz (k + j * us + i)
              have hHu : j * us ≤ 64 := Nat.mul_le_mul (show j ≤ 8 by omega) hus
              have zk3 : (k : Int) + (j : Int) * (us : Int) + (i : Int) < (us : Int) * (vs : Int) := by have : ((k + j * us + i : Nat) : Int) < ((us * vs : Nat) : Int) := (by omega); push_cast at this; exact this
              have zk4 : (0 : Int) ≤ (j : Int) * (us : Int) ∧ (j : Int) * (us : Int) ≤ 64 := by have h9 : ((j * us : Nat) : Int) ≤ 64 := (by omega); push_cast at h9; exact ⟨Int.mul_nonneg (by omega) (by omega), h9⟩
              obtain ⟨zk5, zk6⟩ := zk4
              have di : decide ((i : Int) < (W : Int)) = true := by simp; omega
              have htn : ((k : Int) + (j : Int) * (us : Int) + (i : Int)).toNat = k + j * us + i := by have h9 : ((k + j * us + i : Nat) : Int) = (k : Int) + (j : Int) * (us : Int) + (i : Int) := (by push_cast; rfl); rw [← h9]; rfl
              have HST : Hid (NumO (wf.setCell ⟨g, k + j * us + i, none⟩ (.int .i64 0)) lo hi (.slice (some ⟨g, 0, none⟩) (us * vs) cap) (gridL us vs (cutR G u v W j (i + 1)))) := hst
              clear hg2 hl2 hix hst hHu cz
              repeat (first | go_values | go_skip | go_guarded | go_step | go_upon)
              exact ⟨⟨i + 1, hli, by go_num, HST, HK.out.setCell (by simp) (by simp) _⟩, by simp [intOf]; omega⟩
            · have hie : i = W := by omega
              subst hie
              have di : decide ((i : Int) < (i : Int)) = false := by simp
              repeat (first | go_values | go_skip | go_guarded | go_step | go_upon)
              exact ⟨⟨j + 1, hlj, by go_num, by show NumO _ _ _ _ _; rw [← cutR_row]; exact HG.out, HK⟩, by simp [intOf]; omega⟩
        · have hje : j = H := by omega
          subst hje
          have dj : decide ((j : Int) < (j : Int)) = false := by simp
          have LQ := HB2.out.but HK.out (.inr (by omega))
          have LR := HF2.out.1.but HK.out (.inr (by omega))
          have x0 := LQ.cell 0 rfl
          have x1 := LQ.cell 1 rfl
          have x2 := LQ.cell 2 rfl
          have x3 := LQ.cell 3 rfl
          have x4 := LQ.cell 4 rfl
          have x6 := LQ.cell 6 rfl
          have r0 := LR.cell 0 rfl
          have r1 := LR.cell 1 rfl
          have r2 := LR.cell 2 rfl
          have r3 := LR.cell 3 rfl
          have r4 := LR.cell 4 rfl
          have r5 := LR.cell 5 rfl
          have r6 := LR.cell 6 rfl
          have z0 := LR.frozen 0
          have z1 := LR.frozen 1
          have z2 := LR.frozen 2
          have z3 := LR.frozen 3
          have z4 := LR.frozen 4
          have z5 := LR.frozen 5
          have z6 := LR.frozen 6
          repeat (first | go_values | go_skip | go_guarded | go_step | go_upon)
          refine bodyPost_ret (v := .agg #[.int .i64 (way : Int), .int .i64 (at_ : Int), .int .i64 (u : Int), .int .i64 (v : Int), .int .i64 (W : Int), .int .i64 (j : Int), .int .i64 (G u v)]) (by simp [results, Try.results52, go_sem, r0, r1, r2, r3, r4, r5, r6]) rfl ?_
          rw [hWe, hHe]
          refine ⟨by unfold quadAt; rw [hWe, hHe]; rfl, ?_, ?_⟩
          · have h := HG.out
            rw [cutR_all] at h
            exact own_far (B := w.heap.size) (W := w.heap.size) h hgw ((((((((But.refl _ _ _).setCell (by simp) (by simp) _).setCell (by simp) (by simp) _).setCell (by simp) (by simp) _).setCell (by simp) (by simp) _).setCell (by simp) (by simp) _).setCell (by simp) (by simp) _).setCell (by simp) (by simp) _) (Nat.le_refl _)
          · have h : But lo hi w we := (But.of HF2.out.2.2).trans (HK.out.mono hglo.1 hghi)
            exact ((((((h.setNew (by simp) _).setNew (by simp) _).setNew (by simp) _).setNew (by simp) _).setNew (by simp) _).setNew (by simp) _).setNew (by simp) _
    repeat (first | go_values | go_skip | go_guarded | go_step | go_upon)
    go_loopg [] (8) (fun gk wr => ∃ H : Nat, gk + H = 9 ∧ 1 ≤ H ∧ v + H ≤ vs ∧ Hid (∀ i, 1 ≤ i → i < H → rowB G u (v + i) (G u v) W = true) ∧ Hid (Loc wr (w.heap.size + 1) [.int .i64 (way : Int), .int .i64 (at_ : Int), .int .i64 (u : Int), .int .i64 (v : Int), .int .i64 (W : Int), .int .i64 (H : Int), .int .i64 (G u v)]) ∧ Hid (Loc wr w.heap.size [.int .i64 0, .int .i64 0, .int .i64 0, .int .i64 0, .int .i64 0, .int .i64 0, .int .i64 0] ∧ NumO wr lo hi (.slice (some ⟨g, 0, none⟩) (us * vs) cap) (gridL us vs G) ∧ Kept w wr))
    case atStart => exact ⟨1, by omega, by omega, by omega, fun i h1 hi => by omega, HB, HF⟩
    case round =>
      clear HB HF
      rename World => wb
      obtain ⟨H, hgk, hH1, hHv, HAL, HB, HF⟩ := hrel
      have q3 := HB.out.cell 3 rfl
      have q4 := HB.out.cell 4 rfl
      have q5 := HB.out.cell 5 rfl
      have q6 := HB.out.cell 6 rfl
      have ql := HB.out.lt
      by_cases hlt : v + H < vs
      · have dH : decide ((v : Int) + (H : Int) < (vs : Int)) = true := by simp; omega
        repeat (first | go_values | go_skip | go_guarded | go_step | go_upon)
        clear dH
        rename_i _old
        go_loopw [14, 15] (fun bb i wr => ∃ j : Nat, j ≤ W ∧ i = .int .i64 j ∧ bb = .bool (rowB G u (v + H) (G u v) j) ∧ Hid (Kept wb wr)) (fun _ i _ => W - (intOf i).toNat)
        case atStart => exact ⟨0, by omega, rfl, rfl, But.refl _ _ _⟩
        case round =>
          rename World => wc
          obtain ⟨j, hj, rfl, rfl, HK⟩ := hrel
          have p4 := Kept.cell HK.out q4
          have p5 := Kept.cell HK.out q5
          have p6 := Kept.cell HK.out q6
          have pl := (HB.out.kept HK.out).lt
          have pf5 := (HB.out.kept HK.out).frozen 5
          by_cases hlj : j < W
          · obtain ⟨hg2, hl2⟩ := gridL_at (vs := vs) (G := G) (show u + j < us by omega) hlt
            have hix : (v + H) * us + (u + j) = k + H * us + j := by rw [HKE.out, Nat.add_mul]; omega
            rw [hix] at hg2 hl2
            obtain ⟨c0, -⟩ := (HF.out.2.1.kept HK.out).cells hg2
            have cl := cell_ltG c0
            have hHu : H * us ≤ 64 := Nat.mul_le_mul (show H ≤ 8 by omega) hus
            have zk3 : (k : Int) + (H : Int) * (us : Int) + (j : Int) < (us : Int) * (vs : Int) := by have : ((k + H * us + j : Nat) : Int) < ((us * vs : Nat) : Int) := (by omega); push_cast at this; exact this
            have zk4 : (0 : Int) ≤ (H : Int) * (us : Int) ∧ (H : Int) * (us : Int) ≤ 64 := by have h9 : ((H * us : Nat) : Int) ≤ 64 := (by omega); push_cast at h9; exact ⟨Int.mul_nonneg (by omega) (by omega), h9⟩
            obtain ⟨zk5, zk6⟩ := zk4
            have dj : decide ((j : Int) < (W : Int)) = true := by simp; omega
            have htn : ((k : Int) + (H : Int) * (us : Int) + (j : Int)).toNat = k + H * us + j := by have h9 : ((k + H * us + j : Nat) : Int) = (k : Int) + (H : Int) * (us : Int) + (j : Int) := (by push_cast; rfl); rw [← h9]; rfl
            have hst : rowB G u (v + H) (G u v) (j + 1) = (rowB G u (v + H) (G u v) j && (G (u + j) (v + H) == G u v)) := by simp [rowB, List.range_succ]
            have HST : Hid _ := hst
            clear hg2 hl2 hix hst hHu
            cases qb : rowB G u (v + H) (G u v) j with
            | true =>
              repeat (first | go_values | go_skip | go_guarded | go_step | go_upon)
              refine wp_region_kept (by kernel_rfl) (by kernel_rfl) ?_
              have hcc := KW.cell_eq wc
              repeat (go_big_quiet_step (fail))
              refine wpQuiet_nil ?_
              rintro y1 ⟨⟨w8, k9⟩, h9⟩
              change y1 = w8 at h9
              subst h9
              clear hcc
              repeat (first | go_values | go_skip | go_guarded | go_step | go_upon)
              refine ⟨⟨j + 1, hlj, by go_num, by rw [HST.out, qb]; rfl, HK.out.trans k9⟩, by simp [intOf]; omega⟩
            | false =>
              repeat (first | go_values | go_skip | go_guarded | go_step | go_upon)
              refine wp_region_kept (by kernel_rfl) (by kernel_rfl) ?_
              have hcc := KW.cell_eq wc
              repeat (go_big_quiet_step (fail))
              refine wpQuiet_nil ?_
              rintro y1 ⟨⟨w8, k9⟩, h9⟩
              change y1 = w8 at h9
              subst h9
              clear hcc
              repeat (first | go_values | go_skip | go_guarded | go_step | go_upon)
              refine ⟨⟨j + 1, hlj, by go_num, by rw [HST.out, qb]; rfl, HK.out.trans k9⟩, by simp [intOf]; omega⟩
          · have hje : j = W := by omega
            subst hje
            have dj : decide ((j : Int) < (j : Int)) = false := by simp
            cases qb : rowB G u (v + H) (G u v) j with
            | true =>
              repeat (first | go_values | go_skip | go_guarded | go_step | go_upon)
              go_roundg (gk - 1)
              case measure => omega
              case rel =>
                have hBn := (HB.out.kept HK.out).set 5 (.int .i64 ((H : Int) + 1))
                have hRn := (HF.out.1.kept HK.out).other (j := 5) (show w.heap.size ≠ w.heap.size + 1 by omega) (.int .i64 ((H : Int) + 1))
                have hbt : But (w.heap.size + 1) (w.heap.size + 2) wc (wc.setCell ⟨w.heap.size + 1, 5, none⟩ (.int .i64 ((H : Int) + 1))) := (But.refl _ _ _).setCell (by simp) (by simp) _
                exact ⟨H + 1, by omega, by omega, by omega, fun i h1 hi => by rcases Nat.lt_succ_iff_lt_or_eq.1 hi with h | rfl; exact HAL.out i h1 h; exact qb, hBn, hRn, own_far (HF.out.2.1.kept HK.out) hgw hbt (by omega), (HF.out.2.2.trans HK.out).onto hbt (by omega)⟩
            | false =>
              repeat (first | go_values | go_skip | go_guarded | go_step | go_upon)
              go_meet
              case rel => exact ⟨H, hOf_eq hH1 (by omega) (by rw [hWe]; exact HAL.out) (by rw [hWe]; exact qb), hH1, hHv, HB.out.kept HK.out, HF.out.1.kept HK.out, HF.out.2.1.kept HK.out, HF.out.2.2.trans HK.out⟩
      · have dH : decide ((v : Int) + (H : Int) < (vs : Int)) = false := by simp; omega
        repeat (first | go_values | go_skip | go_guarded | go_step | go_upon)
        go_meet
        case rel => exact ⟨H, hOf_eq hH1 (by omega) (by rw [hWe]; exact HAL.out) (by rw [hWe]; exact row_out HBD.out h0 (by omega) hW1), hH1, hHv, HB, HF⟩
  repeat (first | go_values | go_skip | go_guarded | go_step | go_upon)
  go_loopg [] (8) (fun gk wr => ∃ W : Nat, gk + W = 9 ∧ 1 ≤ W ∧ u + W ≤ us ∧ Hid (∀ i, i < W → G (u + i) v = G u v) ∧ Hid (Loc wr (w.heap.size + 1) [.int .i64 (way : Int), .int .i64 (at_ : Int), .int .i64 (u : Int), .int .i64 (v : Int), .int .i64 (W : Int), .int .i64 1, .int .i64 (G u v)]) ∧ Hid (Loc wr w.heap.size [.int .i64 0, .int .i64 0, .int .i64 0, .int .i64 0, .int .i64 0, .int .i64 0, .int .i64 0] ∧ NumO wr lo hi (.slice (some ⟨g, 0, none⟩) (us * vs) cap) (gridL us vs G) ∧ Kept w wr))
  case atStart => exact ⟨1, by omega, by omega, by omega, fun i hi => by obtain rfl : i = 0 := (by omega); rfl, HB1, HR1.out, HO1.out, HK1.out⟩
  case round =>
    clear HB1 HR1 HO1 HK1
    rename World => wa
    obtain ⟨W, hgk, hW1, hWu, HAL, HB, HF⟩ := hrel
    have q2 := HB.out.cell 2 rfl
    have q4 := HB.out.cell 4 rfl
    have q6 := HB.out.cell 6 rfl
    have ql := HB.out.lt
    have q4f := HB.out.frozen 4
    by_cases hlt : u + W < us
    · obtain ⟨hg2, hl2⟩ := gridL_at (vs := vs) (G := G) hlt hv
      rw [show v * us + (u + W) = k + W by rw [HKE.out]; omega] at hg2 hl2
      obtain ⟨c0, -⟩ := HF.out.2.1.cells hg2
      have cl := cell_ltG c0
      have dW : decide ((u : Int) + (W : Int) < (us : Int)) = true := by simp; omega
      have zk3 : (k : Int) + (W : Int) < (us : Int) * (vs : Int) := by have : ((k + W : Nat) : Int) < ((us * vs : Nat) : Int) := (by omega); push_cast at this; exact this
      clear hg2
      by_cases hs : G (u + W) v = G u v
      · have ds : (G (u + W) v == G u v) = true := by simpa using hs
        rw [hs] at c0
        repeat (first | go_values | go_skip | go_guarded | go_step | go_upon)
        refine wp_region_kept (by kernel_rfl) (by kernel_rfl) ?_
        have hcc := KW.cell_eq wa
        repeat (go_big_quiet_step (fail))
        refine wpQuiet_nil ?_
        rintro y1 ⟨⟨w8, k9⟩, h9⟩
        change y1 = w8 at h9
        subst h9
        clear hcc
        have q4 := Kept.cell k9 q4
        have q4f : y1.frozen? ⟨w.heap.size + 1, 4, none⟩ = false := by rw [k9.frozen_eq _ _ ql]; exact q4f
        repeat (first | go_values | go_skip | go_guarded | go_step | go_upon)
        go_roundg (gk - 1)
        case measure => omega
        case rel =>
          have hBn := (HB.out.kept k9).set 4 (.int .i64 ((W : Int) + 1))
          have hRn := (HF.out.1.kept k9).other (j := 4) (show w.heap.size ≠ w.heap.size + 1 by omega) (.int .i64 ((W : Int) + 1))
          have hbt : But (w.heap.size + 1) (w.heap.size + 2) y1 (y1.setCell ⟨w.heap.size + 1, 4, none⟩ (.int .i64 ((W : Int) + 1))) := (But.refl _ _ _).setCell (by simp) (by simp) _
          exact ⟨W + 1, by omega, by omega, by omega, fun i hi => by rcases Nat.lt_succ_iff_lt_or_eq.1 hi with h | rfl; exact HAL.out i h; exact hs, hBn, hRn, own_far (HF.out.2.1.kept k9) hgw hbt (by omega), (HF.out.2.2.trans k9).onto hbt (by omega)⟩
      · have ds : (G (u + W) v == G u v) = false := by simpa using hs
        repeat (first | go_values | go_skip | go_guarded | go_step | go_upon)
        refine wp_region_kept (by kernel_rfl) (by kernel_rfl) ?_
        have hcc := KW.cell_eq wa
        repeat (go_big_quiet_step (fail))
        refine wpQuiet_nil ?_
        rintro y1 ⟨⟨w8, k9⟩, h9⟩
        change y1 = w8 at h9
        subst h9
        clear hcc
        repeat (first | go_values | go_skip | go_guarded | go_step | go_upon)
        go_meet
        case rel => exact ⟨W, wOf_eq hW1 (by omega) HAL.out hs, hW1, hWu, HB.out.kept k9, HF.out.1.kept k9, HF.out.2.1.kept k9, HF.out.2.2.trans k9⟩
    · have dW : decide ((u : Int) + (W : Int) < (us : Int)) = false := by simp; omega
      repeat (first | go_values | go_skip | go_guarded | go_step | go_upon)
      refine wp_region_kept (by kernel_rfl) (by kernel_rfl) ?_
      have hcc := KW.cell_eq wa
      repeat (go_big_quiet_step (fail))
      refine wpQuiet_nil ?_
      rintro y1 ⟨⟨w8, k9⟩, h9⟩
      change y1 = w8 at h9
      subst h9
      clear hcc
      repeat (first | go_values | go_skip | go_guarded | go_step | go_upon)
      go_meet
      case rel => exact ⟨W, wOf_eq hW1 (by omega) HAL.out (fun e => h0 (by rw [← e]; exact HBD.out _ _ (.inl (by omega)))), hW1, hWu, HB.out.kept k9, HF.out.1.kept k9, HF.out.2.1.kept k9, HF.out.2.2.trans k9⟩

end Go.Proofs.Ytnfkgnbhdhpnmaa
