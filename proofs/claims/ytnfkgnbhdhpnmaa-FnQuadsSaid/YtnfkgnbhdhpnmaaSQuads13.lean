/-
  All quads, in the specification.
-/
import Derived.Test.YtnfkgnbhdhpnmaaSQuad13
import Derived.Test.YtnfkgnbhdhpnmaaLay13
import Derived.Deep.CutBlock
namespace Go.Proofs.Ytnfkgnbhdhpnmaa
open Go.ChangeShapes Go.WideShapes Go.ChangeAt Go.RowKit

set_option maxRecDepth 100000
set_option linter.unusedVariables false
theorem info_quad : (Try.prog.info? 33).map (fun i => (i.zero, i.size, i.bytes)) = some (some (.agg #[.int .i64 0, .int .i64 0, .int .i64 0, .int .i64 0, .int .i64 0, .int .i64 0, .int .i64 0]), 7, 56) := by kernel_rfl
theorem layQ_nn {way at_ us : Nat} {G0 : Grid} (h : ∀ x y, 0 ≤ G0 x y) : ∀ k x y, 0 ≤ (layQ way at_ us G0 k).1 x y
  | 0, x, y => h x y
  | k + 1, x, y => by
    by_cases e : (layQ way at_ us G0 k).1 (k % us) (k / us) = 0
    · rw [layQ_no e]; exact layQ_nn h k x y
    · rw [layQ_yes e]
      show 0 ≤ cutG _ _ _ _ _ x y
      unfold cutG
      split
      · exact Int.le_refl _
      · exact layQ_nn h k x y
theorem face_nn {A B D : Nat} {l : List Int} {way at_ : Nat} (hg : BlocksP (A : Int) (B : Int) (D : Int) l) (h : ∀ u v, u < usN A B way → v < vsN B D way → 0 ≤ cellQ A B way at_ u v ∧ cellQ A B way at_ u v < l.length) (x y : Nat) : 0 ≤ face A B D l way at_ x y := by
  unfold face
  split
  · rename_i hh
    split
    · exact (getI_in hg (h x y hh.1 hh.2).1 (h x y hh.1 hh.2).2).1
    · exact Int.le_refl _
  · exact Int.le_refl _
/-- A layer's kinds, laid face by face. -/
def fillG (f : Grid) (v u : Nat) : Grid := fun x y => if y < v ∨ (y = v ∧ x < u) then f x y else 0
theorem fill_zero {f : Grid} {us vs : Nat} : gridL us vs (fillG f 0 0) = List.replicate (us * vs) 0 := by
  rw [List.eq_replicate_iff]
  refine ⟨gridL_len _ _ _, fun x hx => ?_⟩
  unfold gridL fillG at hx
  obtain ⟨k, _, rfl⟩ := List.mem_map.1 hx
  rw [if_neg (by simp)]
theorem fill_row {f : Grid} {us vs v : Nat} : gridL us vs (fillG f v us) = gridL us vs (fillG f (v + 1) 0) := gridL_ext fun x y hx hy => by
  unfold fillG
  by_cases h : y < v ∨ (y = v ∧ x < us)
  · rw [if_pos h, if_pos (by omega)]
  · rw [if_neg h, if_neg (by omega)]
theorem fill_step {f : Grid} {v u : Nat} {x : Int} (h : x = f u v) : (fun a b => if a = u ∧ b = v then x else fillG f v u a b) = fillG f v (u + 1) := by
  funext a b
  unfold fillG
  by_cases e : a = u ∧ b = v
  · obtain ⟨rfl, rfl⟩ := e
    rw [if_pos ⟨rfl, rfl⟩, if_pos (by omega), h]
  · rw [if_neg e]
    by_cases h2 : b < v ∨ (b = v ∧ a < u)
    · rw [if_pos h2, if_pos (by omega)]
    · rw [if_neg h2, if_neg (by omega)]
theorem fill_skip {f : Grid} {v u : Nat} (h : f u v = 0) : fillG f v u = fillG f v (u + 1) := by
  funext a b
  unfold fillG
  by_cases h2 : b < v ∨ (b = v ∧ a < u)
  · rw [if_pos h2, if_pos (by omega)]
  · rw [if_neg h2]
    by_cases h3 : b < v ∨ (b = v ∧ a < u + 1)
    · obtain ⟨rfl, rfl⟩ : a = u ∧ b = v := by omega
      rw [if_pos h3, h]
    · rw [if_neg h3]
theorem fill_all {f : Grid} {us vs : Nat} : gridL us vs (fillG f vs 0) = gridL us vs f := gridL_ext fun x y hx hy => by
  unfold fillG
  rw [if_pos (.inl hy)]
set_option maxHeartbeats 16000000 in
theorem squads (a b d : Int) (l : List Int) (ao : Option Addr) (cap : Nat) (w : World) (hv : NumAt w (.slice ao l.length cap) l) (hl : l.length ≤ 1048576) :
    Calls Try.prog 30 #[.agg #[.int .i64 a, .int .i64 b, .int .i64 d, .slice ao l.length cap]] w fun e w' => ∃ v', e = .returned (.tuple #[v', .bool (quadsA a b d l).2]) ∧ QuadO w' w.heap.size w'.heap.size v' (quadsA a b d l).1 ∧ Kept w w' := by
  by_cases hg : BlocksP a b d l
  · have dg : decide (BlocksP a b d l) = true := decide_eq_true hg
    rw [show quadsA a b d l = (quadsL a.toNat b.toNat d.toNat l 6, true) from if_pos hg]
    obtain ⟨A, rfl⟩ := Int.eq_ofNat_of_zero_le (show 0 ≤ a by have := hg.1; omega)
    obtain ⟨B, rfl⟩ := Int.eq_ofNat_of_zero_le (show 0 ≤ b by have := hg.2.1; omega)
    obtain ⟨D, rfl⟩ := Int.eq_ofNat_of_zero_le (show 0 ≤ d by have := hg.2.2.1; omega)
    simp only [Int.toNat_natCast]
    have HG : Hid (BlocksP (A : Int) (B : Int) (D : Int) l) := hg
    have hdim : (1 ≤ A ∧ A ≤ 8) ∧ (1 ≤ B ∧ B ≤ 8) ∧ (1 ≤ D ∧ D ≤ 8) := by have h1 := hg.1; have h2 := hg.2.1; have h3 := hg.2.2.1; omega
    have hvol := hg.edge.vol
    have hl5 := hg.len
    have hl512 : l.length ≤ 512 ∧ 0 < l.length := by omega
    clear hvol hl5 hg
    go_enter Try.func30, Try.ntmps30
    repeat (first | (go_at_call 17; refine (sgood _ _ _ _ _ _ _ (hv.kept ((But.refl _ _ _).alloc _)) (by omega)).mono ?_; rintro e u1 ⟨rfl, k1⟩; rw [dg]; have K1 : Kept w u1 := ((But.refl _ _ _).alloc _).trans k1; have L1 := (Loc.new w [.int .i64 (A : Int), .int .i64 (B : Int), .int .i64 (D : Int), .slice ao l.length cap] 25).kept k1; have v0 := L1.cell 0 rfl; have v1 := L1.cell 1 rfl; have v2 := L1.cell 2 rfl; have v3 := L1.cell 3 rfl; have vl := L1.lt; (try dsimp only)) | go_values | go_skip | go_guarded | go_step | go_upon)
    obtain ⟨W1, hW1⟩ : ∃ W, W = u1.alloc (.cells #[.int .i64 (A : Int), .int .i64 (B : Int), .int .i64 (D : Int)] 3) := ⟨_, rfl⟩
    have kW : Kept u1 W1 := by rw [hW1]; exact (But.refl _ _ _).alloc _
    have HS : Hid (Loc W1 u1.heap.size [.int .i64 (A : Int), .int .i64 (B : Int), .int .i64 (D : Int)]) := by show Loc _ _ _; rw [hW1]; exact Loc.new _ _ _
    have HLB : Hid (Loc W1 w.heap.size [.int .i64 (A : Int), .int .i64 (B : Int), .int .i64 (D : Int), .slice ao l.length cap]) := L1.kept kW
    have HKW : Hid (Kept w W1) := K1.trans kW
    rw [← hW1]
    obtain ⟨Sd, hSd⟩ : ∃ Sd, Sd = u1.heap.size := ⟨_, rfl⟩
    rw [← hSd] at HS ⊢
    clear hSd hW1 kW K1 L1 k1 v0 v1 v2 v3 vl dg
    go_loopw [5, 6] (fun x i wr => ∃ (way m : Nat) (ao' : Option Addr) (c' : Nat), way ≤ 6 ∧ i = .int .i64 way ∧ Hid (m = (quadsL A B D l way).length) ∧ x = .slice ao' m c' ∧ Hid ((wr).ownsRow W1.heap.size 33 7 (.slice ao' m c') m ((quadsL A B D l way).flatMap quadC)) ∧ Hid (Kept W1 wr)) (fun _ i _ => 6 - (intOf i).toNat)
    case atStart => exact ⟨0, 0, none, 0, by omega, rfl, rfl, rfl, World.ownsRow_nil _ _ _ _, But.refl _ _ _⟩
    case round =>
      rename World => wa
      obtain ⟨way, m, ao', c', hway, rfl, HM, rfl, HO, HK⟩ := hrel
      by_cases hlw : way < 6
      · obtain ⟨us, hus⟩ : ∃ us, us = usN A B way := ⟨_, rfl⟩
        obtain ⟨vs, hvs⟩ : ∃ vs, vs = vsN B D way := ⟨_, rfl⟩
        obtain ⟨sd, hsd⟩ : ∃ sd, sd = sideN A B D way := ⟨_, rfl⟩
        obtain ⟨ax, hax⟩ : ∃ ax, ax = way / 2 := ⟨_, rfl⟩
        have hq0 := (HS.out.kept HK.out).cell 0 rfl
        have hq1 := (HS.out.kept HK.out).cell 1 rfl
        have hq2 := (HS.out.kept HK.out).cell 2 rfl
        have HUS : Hid (us = usN A B way ∧ vs = vsN B D way ∧ sd = sideN A B D way ∧ ax = way / 2) := ⟨hus, hvs, hsd, hax⟩
        have hdv : (way : Int) / 2 = (ax : Int) := by rw [hax]; omega
        clear hus hvs hsd hax
        have dw : decide ((way : Int) < 6) = true := by simp; omega
        have htd : (way : Int).tdiv 2 = (ax : Int) := by rw [Int.tdiv_eq_ediv_of_nonneg (by omega)]; exact hdv
        repeat (go_not_at_block 2; first | go_values | go_skip | go_guarded | go_step | go_upon)
        go_cut [8, 9] from 39 to 48 (fun x y wx => x = .int .i64 (us : Int) ∧ y = .int .i64 (vs : Int) ∧ wx = wa)
        case first =>
          by_cases h1 : way < 2
          · have hx0 : ax = 0 := by have := HUS.out.2.2.2; omega
            have e1 : us = B := by have := HUS.out.1; rw [this]; unfold usN; rw [if_pos h1]
            have e2 : vs = D := by have := HUS.out.2.1; rw [this]; unfold vsN; rw [if_pos (by omega)]
            subst hx0
            repeat (first | go_values | go_skip | go_guarded | go_step | go_upon)
            go_meet
            case rel => exact ⟨by rw [e1], by rw [e2], rfl⟩
          · by_cases h2 : way < 4
            · have hx0 : ax = 1 := by have := HUS.out.2.2.2; omega
              have e1 : us = A := by have := HUS.out.1; rw [this]; unfold usN; rw [if_neg h1]
              have e2 : vs = D := by have := HUS.out.2.1; rw [this]; unfold vsN; rw [if_pos h2]
              subst hx0
              repeat (first | go_values | go_skip | go_guarded | go_step | go_upon)
              go_meet
              case rel => exact ⟨by rw [e1], by rw [e2], rfl⟩
            · have hx0 : ax = 2 := by have := HUS.out.2.2.2; omega
              have e1 : us = A := by have := HUS.out.1; rw [this]; unfold usN; rw [if_neg h1]
              have e2 : vs = B := by have := HUS.out.2.1; rw [this]; unfold vsN; rw [if_neg h2]
              subst hx0
              repeat (first | go_values | go_skip | go_guarded | go_step | go_upon)
              go_meet
              case rel => exact ⟨by rw [e1], by rw [e2], rfl⟩
        case rest =>
          obtain ⟨rfl, rfl, rfl⟩ := hcut
          clear hq0 hq1 hq2 dw hdv htd
          have HDM : Hid ((1 ≤ us ∧ us ≤ 8) ∧ (1 ≤ vs ∧ vs ≤ 8) ∧ (1 ≤ sd ∧ sd ≤ 8) ∧ ax ≤ 2) := by
            have h1 := dims_le hdim.1.2 hdim.2.1.2 hdim.2.2.2 way
            have h2 := dims_pos hdim.1.1 hdim.2.1.1 hdim.2.2.1 way
            obtain ⟨e1, e2, e3, e4⟩ := HUS.out
            show _ ∧ _
            rw [e1, e2, e3]
            omega
          have HSX : Hid ((ax = 0 → sd = A) ∧ (ax = 1 → sd = B) ∧ (ax = 2 → sd = D)) := by
            obtain ⟨e1, e2, e3, e4⟩ := HUS.out
            show _ ∧ _
            rw [e3]
            unfold sideN
            refine ⟨fun h => by rw [if_pos (by omega)], fun h => by rw [if_neg (by omega), if_pos (by omega)], fun h => by rw [if_neg (by omega), if_neg (by omega)]⟩
          obtain ⟨PRE, hPRE⟩ : ∃ PRE, PRE = quadsL A B D l way := ⟨_, rfl⟩
          have HPRE : Hid (PRE = quadsL A B D l way) := hPRE
          rw [← hPRE] at HM HO
          clear hPRE
          have hpl : PRE.length ≤ 3072 := by have := quadsL_len hdim.1.2 hdim.2.1.2 hdim.2.2.2 l way; rw [HPRE.out]; omega
          repeat (first | go_values | go_skip | go_guarded | go_step | go_upon)
          go_loopw [5, 10] (fun x i wr => ∃ (at_ m : Nat) (ao' : Option Addr) (c' : Nat), at_ ≤ sd ∧ i = .int .i64 at_ ∧ Hid (m = (PRE ++ quadsW A B D l way at_).length) ∧ x = .slice ao' m c' ∧ Hid ((wr).ownsRow W1.heap.size 33 7 (.slice ao' m c') m ((PRE ++ quadsW A B D l way at_).flatMap quadC)) ∧ Hid (Kept W1 wr)) (fun _ i _ => sd - (intOf i).toNat)
          case atStart => exact ⟨0, m, ao', c', by omega, rfl, by show m = _; rw [HM.out]; simp [quadsW], rfl, by show World.ownsRow _ _ _ _ _ _ _; simpa [quadsW] using HO.out, HK⟩
          case round =>
            clear HM HO HK
            rename World => wb
            obtain ⟨at_, m, ao', c', hat, rfl, HM, rfl, HO, HK⟩ := hrel
            have hsd8 : sd ≤ 8 := HDM.out.2.2.1.2
            have hq0 := (HS.out.kept HK.out).cell 0 rfl
            have hq1 := (HS.out.kept HK.out).cell 1 rfl
            have hq2 := (HS.out.kept HK.out).cell 2 rfl
            have hqa : wb.cell? ⟨Sd, ax, none⟩ = some (.int .i64 (sd : Int)) := by
              have h4 := HDM.out.2.2.2
              obtain ⟨e0, e1, e2⟩ := HSX.out
              obtain rfl | rfl | rfl : ax = 0 ∨ ax = 1 ∨ ax = 2 := by omega
              · rw [e0 rfl]; exact hq0
              · rw [e1 rfl]; exact hq1
              · rw [e2 rfl]; exact hq2
            have hax3 : (ax : Int) < 3 := by have := HDM.out.2.2.2; omega
            clear hq0 hq1 hq2
            by_cases hla : at_ < sd
            · have da : decide ((at_ : Int) < (sd : Int)) = true := by simp; omega
              obtain ⟨⟨hu1, hu8⟩, ⟨hv1, hv8⟩, -, -⟩ := HDM.out
              have hNV : us * vs ≤ 64 := Nat.mul_le_mul hu8 hv8
              have zuv : 0 ≤ (us : Int) * (vs : Int) ∧ (us : Int) * (vs : Int) ≤ 64 := by have h9 : ((us * vs : Nat) : Int) ≤ 64 := (by omega); push_cast at h9; exact ⟨Int.mul_nonneg (by omega) (by omega), h9⟩
              obtain ⟨zuv1, zuv2⟩ := zuv
              obtain ⟨i0, hi, hz0, hz1, hz2⟩ := info_parts info_num
              obtain ⟨NV, hNVe⟩ : ∃ NV, NV = us * vs := ⟨_, rfl⟩
              have HNV : Hid (NV = us * vs) := hNVe
              have hNV64 : NV ≤ 64 := by omega
              have htoN : ((us : Int) * (vs : Int)).toNat = NV := by
                have h9 : ((us * vs : Nat) : Int) = (us : Int) * (vs : Int) := (by push_cast; rfl)
                rw [← h9, hNVe]
                rfl
              have hmk : (Instr.makeSlice 23 (.int .i64 ((us : Int) * (vs : Int))) (.int .i64 ((us : Int) * (vs : Int)))).run Try.prog wb = .ok (.slice (some ⟨wb.heap.size, 0, none⟩) NV NV) (wb.alloc (.cells (madeCells #[.int .i64 0] NV) 3)) := by
                have h := run_make (P := Try.prog) wb 23 3 i0 _ Try.underlying23 hi hz0 .i64 .i64 ((us : Int) * (vs : Int)) ((us : Int) * (vs : Int)) (by omega) (by omega) (by rw [hz2]; omega) (by omega)
                rw [h, hz1, htoN]
                simp [Value.cells]
              have hm0 := row_made wb wb.heap.size 3 #[.int .i64 0] 1 (by omega) numC num0 numC_len rfl NV (Nat.le_refl _) (by unfold maxLen; omega)
              rw [Nat.mul_one] at hm0
              obtain ⟨F, hF⟩ : ∃ F, F = wb.heap.size := ⟨_, rfl⟩
              obtain ⟨W2, hW2⟩ : ∃ W, W = wb.alloc (.cells (madeCells #[.int .i64 0] NV) 3) := ⟨_, rfl⟩
              obtain ⟨f, hf⟩ : ∃ f, f = face A B D l way at_ := ⟨_, rfl⟩
              have HFE : Hid (f = face A B D l way at_) := hf
              have HG0 : Hid (NumO W2 F (F + 1) (.slice (some ⟨F, 0, none⟩) NV NV) (gridL us vs (fillG f 0 0))) := by
                show NumO _ _ _ _ _
                rw [fill_zero, hW2, hF, ← hNVe]
                unfold NumO
                rw [List.length_replicate]
                exact hm0
              have HK2 : Hid (Kept wb W2) := by show Kept _ _; rw [hW2]; exact (But.refl _ _ _).alloc _
              have HFS : Hid (F = wb.heap.size) := hF
              rw [← hW2, ← hF] at hmk
              clear hm0 hi hz0 hz1 hz2 i0 hF hW2 hf hNVe htoN
              repeat (first | go_values | go_skip | go_guarded | go_step | go_upon)
              clear hmk hqa hax3 da
              go_loopw [12] (fun x wr => ∃ v : Nat, v ≤ vs ∧ x = .int .i64 v ∧ Hid (NumO wr F (F + 1) (.slice (some ⟨F, 0, none⟩) NV NV) (gridL us vs (fillG f v 0))) ∧ Hid (But F (F + 1) W2 wr)) (fun x _ => vs - (intOf x).toNat)
              case atStart => exact ⟨0, by omega, rfl, HG0, But.refl _ _ _⟩
              case round =>
                clear HG0
                rename World => wc
                obtain ⟨v, hvv, rfl, HGV, HKV⟩ := hrel
                by_cases hlv : v < vs
                · have dv : decide ((v : Int) < (vs : Int)) = true := by simp; omega
                  repeat (first | go_values | go_skip | go_guarded | go_step | go_upon)
                  clear dv
                  go_loopw [13] (fun x wr => ∃ u : Nat, u ≤ us ∧ x = .int .i64 u ∧ Hid (NumO wr F (F + 1) (.slice (some ⟨F, 0, none⟩) NV NV) (gridL us vs (fillG f v u))) ∧ Hid (But F (F + 1) W2 wr)) (fun x _ => us - (intOf x).toNat)
                  case atStart => exact ⟨0, by omega, rfl, HGV, HKV⟩
                  case round =>
                    clear HGV HKV
                    rename World => wd
                    obtain ⟨u, huu, rfl, HGV, HKV⟩ := hrel
                    by_cases hlu : u < us
                    · have du : decide ((u : Int) < (us : Int)) = true := by simp; omega
                      have KD : Kept W1 wd := (HK.out.trans HK2.out).onto HKV.out (by have := HK.out.size; have := HFS.out; omega)
                      have v0 := (HLB.out.kept KD).cell 0 rfl
                      have v1 := (HLB.out.kept KD).cell 1 rfl
                      have v2 := (HLB.out.kept KD).cell 2 rfl
                      have v3 := (HLB.out.kept KD).cell 3 rfl
                      have hup : u < usN A B way := by rw [← HUS.out.1]; exact hlu
                      have hvp : v < vsN B D way := by rw [← HUS.out.2.1]; exact hlv
                      have hap : at_ < sideN A B D way := by rw [← HUS.out.2.2.1]; exact hla
                      have hcn := num_lt HG.out (lay_here hap hup hvp)
                      obtain ⟨N, hN⟩ := Int.eq_ofNat_of_zero_le hcn.1
                      have hcq : cellQ A B way at_ u v = (N : Int) := hN
                      have hNl : N < l.length := by have := hcn.2; omega
                      have hfv : f u v = if openM (A : Int) (B : Int) (D : Int) l (N : Int) way = true then getI l (N : Int) else 0 := by
                        rw [HFE.out]
                        unfold face
                        rw [if_pos ⟨hup, hvp⟩, hcq]
                      have HLY : Hid (∀ x : World, Calls Try.prog 51 #[.agg #[.int .i64 (A : Int), .int .i64 (B : Int), .int .i64 (D : Int), .slice ao l.length cap], .int .i64 (ax : Int), .int .i64 (at_ : Int), .int .i64 (u : Int), .int .i64 (v : Int)] x fun e w' => e = .returned (.int .i64 (N : Int)) ∧ Kept x w') := fun x => by
                        have h := slayer A B D way at_ u v ax (.slice ao l.length cap) x HG.out.edge hlw HUS.out.2.2.2 hap hup hvp
                        rw [hcq] at h
                        exact h
                      have HOP : Hid (∀ x : World, Kept w x → Calls Try.prog 43 #[.agg #[.int .i64 (A : Int), .int .i64 (B : Int), .int .i64 (D : Int), .slice ao l.length cap], .int .i64 (N : Int), .int .i64 (way : Int)] x fun e w' => e = .returned (.bool (openM (A : Int) (B : Int) (D : Int) l (N : Int) way)) ∧ Kept x w') := fun x hx => sopen (A : Int) (B : Int) (D : Int) (N : Int) way l ao cap x (hv.kept hx) (by omega) (by omega) HG.out hlw
                      have HKD : Hid (Kept w wd) := HKW.out.trans KD
                      have HFV : Hid _ := hfv
                      clear hcn hN hcq hfv hup hvp hap KD
                      cases qo : openM (A : Int) (B : Int) (D : Int) l (N : Int) way with
                      | false =>
                        have hf0 : f u v = 0 := by rw [HFV.out, qo]; rfl
                        repeat (first
                          | (go_at_call 51; refine (HLY.out _).mono ?_; rintro e y1 ⟨rfl, k1⟩; clear v0 v1 v2 v3; have v0 := ((HLB.out.kept ((HK.out.trans HK2.out).onto HKV.out (by have := HK.out.size; have := HFS.out; omega))).kept k1).cell 0 rfl; have v1 := ((HLB.out.kept ((HK.out.trans HK2.out).onto HKV.out (by have := HK.out.size; have := HFS.out; omega))).kept k1).cell 1 rfl; have v2 := ((HLB.out.kept ((HK.out.trans HK2.out).onto HKV.out (by have := HK.out.size; have := HFS.out; omega))).kept k1).cell 2 rfl; have v3 := ((HLB.out.kept ((HK.out.trans HK2.out).onto HKV.out (by have := HK.out.size; have := HFS.out; omega))).kept k1).cell 3 rfl; (try dsimp only))
                          | (go_at_call 43; refine (HOP.out _ (HKD.out.trans k1)).mono ?_; rintro e y2 ⟨rfl, k2⟩; rw [qo]; (try dsimp only))
                          | go_values | go_skip | go_guarded | go_step | go_upon)
                        exact ⟨⟨u + 1, hlu, by go_num, by show NumO _ _ _ _ _; rw [← fill_skip hf0]; exact HGV.out.kept (k1.trans k2), HKV.out.transK (k1.trans k2)⟩, by simp [intOf]; omega⟩
                      | true =>
                        have hf0 : getI l (N : Int) = f u v := by rw [HFV.out, qo]; rfl
                        obtain ⟨hg2, hl2⟩ := gridL_at (vs := vs) (G := fillG f v u) hlu hlv
                        obtain ⟨lg, lo_, hao, e0, el⟩ := cell_of (hv.kept HKD.out) (k := (N : Int)) (by omega) (by omega)
                        simp only [Int.toNat_natCast] at e0
                        have hvu : v * us ≤ 64 := Nat.mul_le_mul (show v ≤ 8 by omega) hu8
                        have zk3 : (v : Int) * (us : Int) + (u : Int) < (NV : Int) := by have : ((v * us + u : Nat) : Int) < ((NV : Nat) : Int) := (by have := HNV.out; omega); push_cast at this; exact this
                        have zk4 : (0 : Int) ≤ (v : Int) * (us : Int) ∧ (v : Int) * (us : Int) ≤ 64 := by have h9 : ((v * us : Nat) : Int) ≤ 64 := (by omega); push_cast at h9; exact ⟨Int.mul_nonneg (by omega) (by omega), h9⟩
                        obtain ⟨zk5, zk6⟩ := zk4
                        have htn : ((v : Int) * (us : Int) + (u : Int)).toNat = v * us + u := by have h9 : ((v * us + u : Nat) : Int) = (v : Int) * (us : Int) + (u : Int) := (by push_cast; rfl); rw [← h9]; rfl
                        have HST : Hid (∀ y : World, NumO y F (F + 1) (.slice (some ⟨F, 0, none⟩) NV NV) (gridL us vs (fillG f v u)) → NumO (y.setCell ⟨F, v * us + u, none⟩ (.int .i64 (getI l (N : Int)))) F (F + 1) (.slice (some ⟨F, 0, none⟩) NV NV) (gridL us vs (fillG f v (u + 1)))) := fun y hy => by
                          have h := hy.set (by rw [gridL_len]; exact HNV.out) hg2 (getI l (N : Int))
                          rw [gridL_set hlu hlv, fill_step hf0] at h
                          exact h
                        have HG2 : Hid ((gridL us vs (fillG f v u))[v * us + u]? = some (fillG f v u u v)) := hg2
                        subst hao
                        clear hg2 hl2 hvu hf0
                        repeat (first
                          | (go_at_call 51; refine (HLY.out _).mono ?_; rintro e y1 ⟨rfl, k1⟩; clear v0 v1 v2 v3; have v0 := ((HLB.out.kept ((HK.out.trans HK2.out).onto HKV.out (by have := HK.out.size; have := HFS.out; omega))).kept k1).cell 0 rfl; have v1 := ((HLB.out.kept ((HK.out.trans HK2.out).onto HKV.out (by have := HK.out.size; have := HFS.out; omega))).kept k1).cell 1 rfl; have v2 := ((HLB.out.kept ((HK.out.trans HK2.out).onto HKV.out (by have := HK.out.size; have := HFS.out; omega))).kept k1).cell 2 rfl; have v3 := ((HLB.out.kept ((HK.out.trans HK2.out).onto HKV.out (by have := HK.out.size; have := HFS.out; omega))).kept k1).cell 3 rfl; (try dsimp only))
                          | (go_at_call 43; refine (HOP.out _ (HKD.out.trans k1)).mono ?_; rintro e y2 ⟨rfl, k2⟩; rw [qo]; have v3' := Kept.cell k2 v3; have e2' := Kept.cell (k1.trans k2) e0; obtain ⟨g0', gz'⟩ := (HGV.out.kept (k1.trans k2)).cells HG2.out; have gz0 := gz' (v * us + u); have vl2 := cell_ltG v3'; have el2 := cell_ltG e2'; have gl2 := cell_ltG g0'; clear gz'; (try dsimp only))
                          | go_values | go_skip | go_guarded | go_step | go_upon)
                        exact ⟨⟨u + 1, hlu, by go_num, HST.out _ (HGV.out.kept (k1.trans k2)), (HKV.out.transK (k1.trans k2)).setCell (by simp) (by simp) _⟩, by simp [intOf]; omega⟩
                    · have hue : u = us := by omega
                      subst hue
                      have du : decide ((u : Int) < (u : Int)) = false := by simp
                      repeat (first | go_values | go_skip | go_guarded | go_step | go_upon)
                      exact ⟨⟨v + 1, hlv, by go_num, by show NumO _ _ _ _ _; rw [← fill_row]; exact HGV.out, HKV⟩, by simp [intOf]; omega⟩
                · have hve : v = vs := by omega
                  subst hve
                  have dv : decide ((v : Int) < (v : Int)) = false := by simp
                  have HG1 : Hid (NumO wc F (F + 1) (.slice (some ⟨F, 0, none⟩) NV NV) (gridL us v (layQ way at_ us f 0).1)) := by
                    show NumO _ _ _ _ _
                    have h := HGV.out
                    rw [fill_all] at h
                    exact h
                  have HKC : Hid (Kept wb wc) := HK2.out.onto HKV.out (by rw [HFS.out]; exact Nat.le_refl _)
                  repeat (first | go_values | go_skip | go_guarded | go_step | go_upon)
                  obtain ⟨PR2, hPR2⟩ : ∃ P, P = PRE ++ quadsW A B D l way at_ := ⟨_, rfl⟩
                  have HPR2 : Hid (PR2 = PRE ++ quadsW A B D l way at_) := hPR2
                  rw [← hPR2] at HM HO
                  have hp2 : PR2.length ≤ 3584 := by rw [hPR2, List.length_append]; have h1 := quadsW_len hdim.1.2 hdim.2.1.2 hdim.2.2.2 l way at_; have h2 := HDM.out.2.2.1.2; omega
                  have HNN : Hid (∀ k x y, 0 ≤ (layQ way at_ us f k).1 x y) := layQ_nn (fun x y => by rw [HFE.out]; exact face_nn HG.out (fun u v hu hv => (num_lt HG.out (lay_here (by rw [← HUS.out.2.2.1]; exact hla) hu hv))) x y)
                  have HBD : Hid (∀ k, Bd us v (layQ way at_ us f k).1) := layQ_bd (by rw [HFE.out, HUS.out.1, HUS.out.2.1]; exact face_bd A B D l way at_)
                  obtain ⟨i0, hi0, hz0, hz1, hz2⟩ := info_parts info_quad
                  clear hPR2 dv HGV HKV
                  go_loopw [5, 95] (fun x i wr => ∃ (k m : Nat) (ao' : Option Addr) (c' : Nat), k ≤ NV ∧ i = .int .i64 k ∧ Hid (m = (PR2 ++ (layQ way at_ us f k).2).length) ∧ x = .slice ao' m c' ∧ Hid ((wr).ownsRow W1.heap.size 33 7 (.slice ao' m c') m ((PR2 ++ (layQ way at_ us f k).2).flatMap quadC)) ∧ Hid (NumO wr F (F + 1) (.slice (some ⟨F, 0, none⟩) NV NV) (gridL us v (layQ way at_ us f k).1)) ∧ Hid (Kept W1 wr)) (fun _ i _ => NV - (intOf i).toNat)
                  case atStart => exact ⟨0, m, ao', c', by omega, rfl, by show m = _; rw [HM.out]; simp [layQ], rfl, by show World.ownsRow _ _ _ _ _ _ _; have h := own_kept HO.out HKC.out; simpa [layQ] using h, HG1, HK.out.trans HKC.out⟩
                  case round =>
                    clear HG1 HM HO HKC
                    rename World => we
                    obtain ⟨k, m, ao', c', hk, rfl, HM, rfl, HO, HGK, HKE⟩ := hrel
                    have hml : m ≤ 3648 := by have h1 := HM.out; rw [List.length_append] at h1; have h2 := layQ_len (way := way) (at_ := at_) (us := us) (G0 := f) k; omega
                    by_cases hlk : k < NV
                    · obtain ⟨G, hG⟩ : ∃ G, G = (layQ way at_ us f k).1 := ⟨_, rfl⟩
                      have HGE : Hid (G = (layQ way at_ us f k).1) := hG
                      rw [← hG] at HGK
                      clear hG
                      obtain ⟨c0, -⟩ := HGK.out.cells (gridL_get (show k < us * v by rw [← HNV.out]; exact hlk))
                      have hnn : 0 ≤ G (k % us) (k / us) := by rw [HGE.out]; exact HNN.out k _ _
                      by_cases hz : G (k % us) (k / us) = 0
                      · have dz : decide ((0 : Int) < G (k % us) (k / us)) = false := by simp; omega
                        rw [hz] at c0
                        have hno : layQ way at_ us f (k + 1) = layQ way at_ us f k := layQ_no (by rw [← HGE.out]; exact hz)
                        have HNO : Hid _ := hno
                        clear hno dz hz
                        repeat (first | go_values | go_skip | go_guarded | go_step | go_upon)
                        exact ⟨⟨k + 1, m, ao', c', hlk, by go_num, by show m = _; rw [HNO.out]; exact HM.out, rfl, by show World.ownsRow _ _ _ _ _ _ _; rw [HNO.out]; exact HO.out, by show NumO _ _ _ _ _; rw [HNO.out, ← HGE.out]; exact HGK.out, HKE⟩, by simp [intOf]; omega⟩
                      · have dz : decide ((0 : Int) < G (k % us) (k / us)) = true := by simp; omega
                        have hkd : k / us * us + k % us = k := by rw [Nat.mul_comm]; exact Nat.div_add_mod k us
                        have hkl2 : k < us * v := by rw [← HNV.out]; exact hlk
                        have HSQ : Hid (∀ x : World, NumO x F (F + 1) (.slice (some ⟨F, 0, none⟩) NV NV) (gridL us v G) → Calls Try.prog 52 #[.slice (some ⟨F, 0, none⟩) NV NV, .int .i64 (us : Int), .int .i64 (v : Int), .int .i64 (k : Int), .int .i64 (way : Int), .int .i64 (at_ : Int)] x fun e w' => e = .returned (.agg (quadC (quadAt way at_ G (k % us) (k / us))).toArray) ∧ NumO w' F (F + 1) (.slice (some ⟨F, 0, none⟩) NV NV) (gridL us v (cutG G (k % us) (k / us) (wOf G (k % us) (k / us)) (hOf G (k % us) (k / us)))) ∧ But F (F + 1) x w') := fun x hx => by
                          rw [HNV.out] at hx ⊢
                          have h := squad us v way at_ (k % us) (k / us) F (us * v) F (F + 1) G x hx (by rw [HGE.out]; exact HBD.out k) (Nat.mod_lt _ (by omega)) (Nat.div_lt_of_lt_mul hkl2) hu8 (by omega) hz
                          rw [hkd] at h
                          exact h
                        obtain ⟨qd, hqd⟩ : ∃ q, q = quadAt way at_ G (k % us) (k / us) := ⟨_, rfl⟩
                        have HQD : Hid (qd = quadAt way at_ G (k % us) (k / us)) := hqd
                        rw [← hqd] at HSQ
                        obtain ⟨g1, g2, g3, g4, g5, g6, g7⟩ := qd
                        have hys := layQ_yes (way := way) (at_ := at_) (us := us) (G0 := f) (k := k) (by rw [← HGE.out]; exact hz)
                        rw [← HGE.out, ← hqd] at hys
                        have HYS : Hid _ := hys
                        clear hys hqd hkd hkl2 hz hnn
                        have hap := ap_types (RowO.top HO.out) HGK.out (by decide)
                        have HAP : Hid (∀ g, (Value.slice ao' m c').ownBlock = some g → g ≠ F) := fun g hg e => hap g hg (by rw [e]; rfl)
                        have hFW : W1.heap.size ≤ F := by have h1 := HFS.out; have h2 := HK.out.size; omega
                        clear hap
                        repeat (first
                          | (go_at_call 52; refine (HSQ.out _ HGK.out).mono ?_; rintro e y1 ⟨rfl, og, bg⟩; have HOG : Hid (NumO y1 F (F + 1) (.slice (some ⟨F, 0, none⟩) NV NV) (gridL us v (cutG G (k % us) (k / us) (wOf G (k % us) (k / us)) (hOf G (k % us) (k / us))))) := og; have HO1 : Hid (y1.ownsRow W1.heap.size 33 7 (.slice ao' m c') m ((PR2 ++ (layQ way at_ us f k).2).flatMap quadC)) := own_but HO.out bg (fun g hg => by have h1 := HAP.out g hg; omega); have HK1 : Hid (Kept W1 y1) := HKE.out.onto bg hFW; have hsz1 : W1.heap.size ≤ y1.heap.size := HK1.out.size; clear og bg; (try dsimp only [quadC]))
                          | (at_builtin
                             refine wpList_append_own _ rfl _ _ 27 rfl W1.heap.size 33 i0 (.agg #[.int .i64 0, .int .i64 0, .int .i64 0, .int .i64 0, .int .i64 0, .int .i64 0, .int .i64 0]) 7 56 Try.underlying27 hi0 hz0 hz1 hz2 rfl (by decide) _ _ _ rfl (own_kept HO1.out ((But.refl _ _ y1).alloc _)) ⟨y1.heap.size, 0, none⟩ 1 1 [.int .i64 g1, .int .i64 g2, .int .i64 g3, .int .i64 g4, .int .i64 g5, .int .i64 g6, .int .i64 g7] rfl rfl (news1 (Loc.new y1 [.int .i64 g1, .int .i64 g2, .int .i64 g3, .int .i64 g4, .int .i64 g5, .int .i64 g6, .int .i64 g7] 33)) (by simp [Value.oneCell']) (by unfold maxLen; omega) (by omega) (by simp; omega) ?_
                             intro v' w2 hown' hgrow _
                             obtain ⟨ao5, cap5, hf5, _⟩ := own_form hown'
                             subst hf5
                             have HK5 : Hid (Kept W1 w2) := (HK1.out.alloc _).grown hgrow (by intro x hx; have := own_lt HO1.out hx; omega)
                             have HW : Hid (w2.ownsRow W1.heap.size 33 7 (.slice ao5 (m + 1) cap5) (m + 1) ((PR2 ++ (layQ way at_ us f k).2).flatMap quadC ++ quadC (g1, g2, g3, g4, g5, g6, g7))) := hown'
                             have HGN : Hid (NumO w2 F (F + 1) (.slice (some ⟨F, 0, none⟩) NV NV) (gridL us v (cutG G (k % us) (k / us) (wOf G (k % us) (k / us)) (hOf G (k % us) (k / us))))) := RowO.grown (RowO.kept HOG.out ((But.refl _ _ y1).alloc _)) hgrow (fun g hg hg' => by cases hg; exact HAP.out _ hg' rfl)
                             clear hgrow hown')
                          | go_values | go_skip | go_guarded | go_step | go_upon)
                        refine ⟨⟨k + 1, m + 1, ao5, cap5, hlk, by go_num, ?_, rfl, ?_, ?_, HK5⟩, by simp [intOf]; omega⟩
                        · show m + 1 = _
                          rw [HYS.out, HM.out]
                          simp
                          omega
                        · show World.ownsRow _ _ _ _ _ _ _
                          rw [HYS.out, ← List.append_assoc, List.flatMap_append]
                          simpa using HW.out
                        · show NumO _ _ _ _ _
                          rw [HYS.out]
                          exact HGN.out
                    · have hke : k = NV := by omega
                      subst hke
                      repeat (first | go_values | go_skip | go_guarded | go_step | go_upon)
                      refine ⟨⟨at_ + 1, m, ao', c', hla, by go_num, ?_, rfl, ?_, HKE⟩, by simp [intOf]; omega⟩
                      · show m = _
                        rw [quadsW_succ, ← HUS.out.1, ← HUS.out.2.1, ← HFE.out, ← List.append_assoc, ← HPR2.out, ← HNV.out]; exact HM.out
                      · show World.ownsRow _ _ _ _ _ _ _
                        rw [quadsW_succ, ← HUS.out.1, ← HUS.out.2.1, ← HFE.out, ← List.append_assoc, ← HPR2.out, ← HNV.out]; exact HO.out
            · have hae : at_ = sd := by omega
              subst hae
              have da : decide ((at_ : Int) < (at_ : Int)) = false := by simp
              repeat (first | go_values | go_skip | go_guarded | go_step | go_upon)
              refine ⟨⟨way + 1, m, ao', c', hlw, by go_num, ?_, rfl, ?_, HK⟩, by simp [intOf]; omega⟩
              · show m = _
                rw [quadsL_succ, ← HPRE.out, ← HUS.out.2.2.1]; exact HM.out
              · show World.ownsRow _ _ _ _ _ _ _
                rw [quadsL_succ, ← HPRE.out, ← HUS.out.2.2.1]; exact HO.out
      · have hwe : way = 6 := by omega
        subst hwe
        repeat (first | go_values | go_skip | go_guarded | go_step | go_upon)
        go_returns
        refine ⟨_, rfl, ?_, HKW.out.trans HK.out⟩
        have h := RowO.top HO.out
        have hm := HM.out
        have hz := HKW.out.size
        exact QuadO.mono (lo := W1.heap.size) (hi := wa.heap.size) (show QuadO wa W1.heap.size wa.heap.size (.slice ao' m c') (quadsL A B D l 6) by unfold QuadO; rw [← hm]; exact h) hz (Nat.le_refl _)
  · have dg : decide (BlocksP a b d l) = false := decide_eq_false hg
    rw [show quadsA a b d l = ([], false) from if_neg hg]
    go_enter Try.func30, Try.ntmps30
    repeat (first | (go_at_call 17; refine (sgood _ _ _ _ _ _ _ (hv.kept ((But.refl _ _ _).alloc _)) (by omega)).mono ?_; rintro e u1 ⟨rfl, k1⟩; rw [dg]; have K1 : Kept w u1 := ((But.refl _ _ _).alloc _).trans k1; have L1 := (Loc.new w [.int .i64 a, .int .i64 b, .int .i64 d, .slice ao l.length cap] 25).kept k1; have v0 := L1.cell 0 rfl; have v1 := L1.cell 1 rfl; have v2 := L1.cell 2 rfl; have v3 := L1.cell 3 rfl; have vl := L1.lt; (try dsimp only)) | go_values | go_skip | go_guarded | go_step | go_upon)
    go_returns
    exact ⟨_, rfl, RowO.top (World.ownsRow_nil _ _ _ _), K1⟩

end Go.Proofs.Ytnfkgnbhdhpnmaa
