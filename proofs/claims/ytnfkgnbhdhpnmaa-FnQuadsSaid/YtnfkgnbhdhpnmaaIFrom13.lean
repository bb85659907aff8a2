/-
  The quad that begins at a face, in the program.
-/
import Derived.Test.YtnfkgnbhdhpnmaaITake13
import Derived.Test.YtnfkgnbhdhpnmaaPlace13
import Derived.Test.YtnfkgnbhdhpnmaaSQuad13
import Derived.Deep.LoopGhost
import Derived.Deep.RegionHeld3
namespace Go.Proofs.Ytnfkgnbhdhpnmaa
open Go.ChangeShapes Go.WideShapes Go.ChangeAt Go.RowKit

set_option maxRecDepth 100000
set_option linter.unusedVariables false
set_option maxHeartbeats 16000000 in
theorem ifromL (A B D way at_ T u v : Nat) (tk : Nat → Bool) (l : List Int) (ao : Option Addr) (cap : Nat) (w : World) (hg : BlocksP (A : Int) (B : Int) (D : Int) l) (hw : way < 6) (ha : at_ < sideN A B D way) (hu : u < usN A B way) (hv : v < vsN B D way) (h0 : maskG (face A B D l way at_) tk u v ≠ 0) (hva : NumAt w (.slice ao l.length cap) l) (htk : TK w T tk) (hl : l.length ≤ 1048576) :
    Calls Try.prog 63 #[.agg #[.int .i64 (A : Int), .int .i64 (B : Int), .int .i64 (D : Int), .slice ao l.length cap, .int .i64 (way : Int), .int .i64 (at_ : Int), .slice (some ⟨T, 0, none⟩) 64 64], .int .i64 (u : Int), .int .i64 (v : Int)] w fun e w' => e = .returned (.agg (quadC (quadAt way at_ (maskG (face A B D l way at_) tk) u v)).toArray) ∧ Kept w w' := by
  have hdl := dims_le (A := A) (B := B) (D := D) (by have := hg.1; omega) (by have := hg.2.1; omega) (by have := hg.2.2.1; omega) way
  obtain ⟨us, hus⟩ : ∃ us, us = usN A B way := ⟨_, rfl⟩
  obtain ⟨vs, hvs⟩ : ∃ vs, vs = vsN B D way := ⟨_, rfl⟩
  obtain ⟨G, hG⟩ : ∃ G, G = maskG (face A B D l way at_) tk := ⟨_, rfl⟩
  have hb : Bd us vs G := fun x y h => by
    rw [hG]
    unfold maskG
    split
    · rfl
    · exact face_bd A B D l way at_ x y (by rw [← hus, ← hvs]; exact h)
  have hus8 : us ≤ 8 := by omega
  have hvs8 : vs ≤ 8 := by omega
  have hatb : at_ ≤ 8 := by omega
  rw [← hus] at hu
  rw [← hvs] at hv
  rw [← hG] at h0 ⊢
  have HKA : Hid (∀ (x : World) (a b : Nat), a ≤ 8 → b ≤ 8 → Kept w x → Calls Try.prog 62 #[.agg #[.int .i64 (A : Int), .int .i64 (B : Int), .int .i64 (D : Int), .slice ao l.length cap, .int .i64 (way : Int), .int .i64 (at_ : Int), .slice (some ⟨T, 0, none⟩) 64 64], .int .i64 (a : Int), .int .i64 (b : Int)] x fun e w' => e = .returned (.int .i64 (G a b)) ∧ Kept x w') := fun x a b h1 h2 hx => by rw [hG]; exact ikindL A B D way at_ T a b tk l ao cap x hg hw ha h1 h2 (hva.kept hx) (htk.kept hx) hl
  have HRA : Hid (∀ (x : World) (W H y : Nat), u + W ≤ 8 → y ≤ 8 → Kept w x → Calls Try.prog 71 #[.agg #[.int .i64 (A : Int), .int .i64 (B : Int), .int .i64 (D : Int), .slice ao l.length cap, .int .i64 (way : Int), .int .i64 (at_ : Int), .slice (some ⟨T, 0, none⟩) 64 64], .agg #[.int .i64 (way : Int), .int .i64 (at_ : Int), .int .i64 (u : Int), .int .i64 (v : Int), .int .i64 (W : Int), .int .i64 (H : Int), .int .i64 (G u v)], .int .i64 (y : Int)] x fun e w' => e = .returned (.bool (rowB G u y (G u v) W)) ∧ Kept x w') := fun x W H y h1 h2 hx => by rw [hG]; exact irowL A B D way at_ T u y W way at_ v H _ tk l ao cap x hg hw ha h1 h2 (hva.kept hx) (htk.kept hx) hl
  have HBD : Hid (Bd us vs G) := hb
  clear hG hdl hus hvs hb hva htk hl hg ha
  have HK0 : Hid (∀ x : World, Kept w x → Calls Try.prog 62 #[.agg #[.int .i64 (A : Int), .int .i64 (B : Int), .int .i64 (D : Int), .slice ao l.length cap, .int .i64 (way : Int), .int .i64 (at_ : Int), .slice (some ⟨T, 0, none⟩) 64 64], .int .i64 (u : Int), .int .i64 (v : Int)] x fun e w' => e = .returned (.int .i64 (G u v)) ∧ Kept x w') := fun x hx => HKA.out x u v (by omega) (by omega) hx
  go_enter Try.func63, Try.ntmps63
  repeat (first | go_values | go_skip | go_guarded | go_step | go_upon)
  obtain ⟨X, hX⟩ : ∃ X, X = (w.alloc (.cells #[.int .i64 (A : Int), .int .i64 (B : Int), .int .i64 (D : Int), .slice ao l.length cap, .int .i64 (way : Int), .int .i64 (at_ : Int), .slice (some ⟨T, 0, none⟩) 64 64] 63)).alloc (.cells #[.int .i64 0, .int .i64 0, .int .i64 0, .int .i64 0, .int .i64 0, .int .i64 0, .int .i64 0] 33) := ⟨_, rfl⟩
  have kX : Kept w X := by rw [hX]; exact ((But.refl _ _ _).alloc _).alloc _
  have HL : Loc X w.heap.size [.int .i64 (A : Int), .int .i64 (B : Int), .int .i64 (D : Int), .slice ao l.length cap, .int .i64 (way : Int), .int .i64 (at_ : Int), .slice (some ⟨T, 0, none⟩) 64 64] := by rw [hX]; exact (Loc.new w _ _).alloc _
  have HR : Loc X (w.heap.size + 1) [.int .i64 0, .int .i64 0, .int .i64 0, .int .i64 0, .int .i64 0, .int .i64 0, .int .i64 0] := by rw [hX]; have h := Loc.new (w.alloc (.cells #[.int .i64 (A : Int), .int .i64 (B : Int), .int .i64 (D : Int), .slice ao l.length cap, .int .i64 (way : Int), .int .i64 (at_ : Int), .slice (some ⟨T, 0, none⟩) 64 64] 63)) [.int .i64 0, .int .i64 0, .int .i64 0, .int .i64 0, .int .i64 0, .int .i64 0, .int .i64 0] 33; simpa only [World.size_alloc] using h
  rw [← hX]
  clear hX
  have v0 := HL.cell 0 rfl
  have v1 := HL.cell 1 rfl
  have v2 := HL.cell 2 rfl
  have v3 := HL.cell 3 rfl
  have v4 := HL.cell 4 rfl
  have v5 := HL.cell 5 rfl
  have v6 := HL.cell 6 rfl
  have vl := HL.lt
  have HS : Hid (∀ w' : World, Kept X w' → w'.cell? ⟨w.heap.size, 0, none⟩ = some (.int .i64 (A : Int)) ∧ w'.cell? ⟨w.heap.size, 1, none⟩ = some (.int .i64 (B : Int)) ∧ w'.cell? ⟨w.heap.size, 2, none⟩ = some (.int .i64 (D : Int)) ∧ w'.cell? ⟨w.heap.size, 3, none⟩ = some (.slice ao l.length cap) ∧ w'.cell? ⟨w.heap.size, 4, none⟩ = some (.int .i64 (way : Int)) ∧ w'.cell? ⟨w.heap.size, 5, none⟩ = some (.int .i64 (at_ : Int)) ∧ w'.cell? ⟨w.heap.size, 6, none⟩ = some (.slice (some ⟨T, 0, none⟩) 64 64)) := fun w' k => ⟨Kept.cell k v0, Kept.cell k v1, Kept.cell k v2, Kept.cell k v3, Kept.cell k v4, Kept.cell k v5, Kept.cell k v6⟩
  have hXl : X.heap.size ≠ w.heap.size := by omega
  go_region_held3 (fun w' => w'.cell? ⟨w.heap.size, 0, none⟩ = some (.int .i64 (A : Int)) ∧ w'.cell? ⟨w.heap.size, 1, none⟩ = some (.int .i64 (B : Int)) ∧ w'.cell? ⟨w.heap.size, 2, none⟩ = some (.int .i64 (D : Int)) ∧ w'.cell? ⟨w.heap.size, 3, none⟩ = some (.slice ao l.length cap) ∧ w'.cell? ⟨w.heap.size, 4, none⟩ = some (.int .i64 (way : Int)) ∧ w'.cell? ⟨w.heap.size, 5, none⟩ = some (.int .i64 (at_ : Int)) ∧ w'.cell? ⟨w.heap.size, 6, none⟩ = some (.slice (some ⟨T, 0, none⟩) 64 64)) (exact HS.out _ (by (repeat (first | with_reducible exact K1 | with_reducible exact But.refl _ _ _ | with_reducible apply But.alloc | with_reducible apply But.drew | with_reducible refine But.setNew ?_ (by simp) _)))) (first | (go_at_call 62; refine (HK0.out _ (kX.trans (by (repeat (first | with_reducible exact K1 | with_reducible exact But.refl _ _ _ | with_reducible apply But.alloc | with_reducible apply But.drew | with_reducible refine But.setNew ?_ (by simp) _))))).mono ?_; rintro e y0 ⟨rfl, k0⟩; have K1 : Kept X y0 := (by (repeat (first | with_reducible exact K1 | with_reducible exact But.refl _ _ _ | with_reducible apply But.alloc | with_reducible apply But.drew | with_reducible refine But.setNew ?_ (by simp) _)) : Kept X _).trans k0; (try have L7 : Loc y0 X.heap.size [.int .i64 0, .int .i64 0, .int .i64 0, .int .i64 0, .int .i64 0, .int .i64 0, .int .i64 0] := (Loc.new X.drew [.int .i64 0, .int .i64 0, .int .i64 0, .int .i64 0, .int .i64 0, .int .i64 0, .int .i64 0] 33).kept k0); (try have z0 := L7.cell 0 rfl); (try have z1 := L7.cell 1 rfl); (try have z2 := L7.cell 2 rfl); (try have z3 := L7.cell 3 rfl); (try have z4 := L7.cell 4 rfl); (try have z5 := L7.cell 5 rfl); (try have z6 := L7.cell 6 rfl); (try have f0 := L7.frozen 0); (try have f1 := L7.frozen 1); (try have f2 := L7.frozen 2); (try have f3 := L7.frozen 3); (try have f4 := L7.frozen 4); (try have f5 := L7.frozen 5); (try have f6 := L7.frozen 6)))
  · obtain ⟨Z, hZ⟩ : ∃ Z, Z = y0.alloc (.cells #[.int .i64 (way : Int), .int .i64 (at_ : Int), .int .i64 (u : Int), .int .i64 (v : Int), .int .i64 1, .int .i64 1, .int .i64 (G u v)] 33) := ⟨_, rfl⟩
    obtain ⟨Bq, hBq⟩ : ∃ b, b = y0.heap.size := ⟨_, rfl⟩
    have kZ : Kept X Z := by rw [hZ]; exact K1.alloc _
    have HB1 : Hid (Loc Z Bq [.int .i64 (way : Int), .int .i64 (at_ : Int), .int .i64 (u : Int), .int .i64 (v : Int), .int .i64 1, .int .i64 1, .int .i64 (G u v)]) := by show Loc _ _ _; rw [hZ, hBq]; exact Loc.new _ _ _
    have hB2 : w.heap.size + 2 ≤ Bq := by have := K1.size; have := HR.lt; omega
    have HF1 : Hid (Loc Z w.heap.size [.int .i64 (A : Int), .int .i64 (B : Int), .int .i64 (D : Int), .slice ao l.length cap, .int .i64 (way : Int), .int .i64 (at_ : Int), .slice (some ⟨T, 0, none⟩) 64 64] ∧ Loc Z (w.heap.size + 1) [.int .i64 0, .int .i64 0, .int .i64 0, .int .i64 0, .int .i64 0, .int .i64 0, .int .i64 0] ∧ Kept w Z) := ⟨HL.kept kZ, HR.kept kZ, kX.trans kZ⟩
    rw [← hZ, ← hBq]
    clear hZ hBq kZ K1 k0 HL HR kX v0 v1 v2 v3 v4 v5 v6 vl HS HK0 hXl
    repeat (first | go_values | go_skip | go_guarded | go_step | go_upon)
    go_loopg [] (8) (fun gk wr => ∃ W : Nat, gk + W = 9 ∧ 1 ≤ W ∧ u + W ≤ us ∧ Hid (∀ i, i < W → G (u + i) v = G u v) ∧ Hid (Loc wr Bq [.int .i64 (way : Int), .int .i64 (at_ : Int), .int .i64 (u : Int), .int .i64 (v : Int), .int .i64 (W : Int), .int .i64 1, .int .i64 (G u v)]) ∧ Hid (Loc wr w.heap.size [.int .i64 (A : Int), .int .i64 (B : Int), .int .i64 (D : Int), .slice ao l.length cap, .int .i64 (way : Int), .int .i64 (at_ : Int), .slice (some ⟨T, 0, none⟩) 64 64] ∧ Loc wr (w.heap.size + 1) [.int .i64 0, .int .i64 0, .int .i64 0, .int .i64 0, .int .i64 0, .int .i64 0, .int .i64 0] ∧ Kept w wr))
    case atStart => exact ⟨1, by omega, by omega, by omega, fun i hi => by obtain rfl : i = 0 := (by omega); rfl, HB1, HF1⟩
    case round =>
      clear HB1 HF1
      rename World => wa
      obtain ⟨W, hgk, hW1, hWu, HAL, HB, HF⟩ := hrel
      have q4 := HB.out.cell 4 rfl
      have q6 := HB.out.cell 6 rfl
      have ql := HB.out.lt
      have q4f := HB.out.frozen 4
      have v0 := HF.out.1.cell 0 rfl
      have v1 := HF.out.1.cell 1 rfl
      have v2 := HF.out.1.cell 2 rfl
      have v3 := HF.out.1.cell 3 rfl
      have v4 := HF.out.1.cell 4 rfl
      have v5 := HF.out.1.cell 5 rfl
      have v6 := HF.out.1.cell 6 rfl
      have vl := HF.out.1.lt
      have HK1 : Hid (∀ x : World, Kept w x → Calls Try.prog 62 #[.agg #[.int .i64 (A : Int), .int .i64 (B : Int), .int .i64 (D : Int), .slice ao l.length cap, .int .i64 (way : Int), .int .i64 (at_ : Int), .slice (some ⟨T, 0, none⟩) 64 64], .int .i64 ((u : Int) + (W : Int)), .int .i64 (v : Int)] x fun e w' => e = .returned (.int .i64 (G (u + W) v)) ∧ Kept x w') := fun x hx => by
        have h := HKA.out x (u + W) v (by omega) (by omega) hx
        have e9 : ((u + W : Nat) : Int) = (u : Int) + (W : Int) := by push_cast; rfl
        rw [e9] at h
        exact h
      by_cases hs : G (u + W) v = G u v
      · have hlt : u + W < us := by
          rcases Nat.lt_or_ge (u + W) us with h | h
          · exact h
          · exact absurd (hs.symm.trans (HBD.out _ _ (.inl h))) h0
        have ds : (G (u + W) v == G u v) = true := by simpa using hs
        repeat (first | go_values | go_skip | go_guarded | go_step | go_upon)
        refine wp_region_kept (by kernel_rfl) (by kernel_rfl) ?_
        have hcc := KW.cell_eq wa
        repeat (go_big_quiet_step (first | (go_at_call 62; with_reducible exact kw_call (HK1.out _ (HF.out.2.2.trans (KW.k _))))))
        refine wpQuiet_nil ?_
        rintro y1 ⟨⟨w8, k9⟩, h9⟩
        change y1 = w8 at h9
        subst h9
        clear hcc
        clear v0 v1 v2 v3 v4 v5 v6
        have q4 := Kept.cell k9 q4
        have q4f : y1.frozen? ⟨Bq, 4, none⟩ = false := by rw [k9.frozen_eq _ _ ql]; exact q4f
        repeat (first | go_values | go_skip | go_guarded | go_step | go_upon)
        go_roundg (gk - 1)
        case measure => omega
        case rel =>
          exact ⟨W + 1, by omega, by omega, by omega, fun i hi => by rcases Nat.lt_succ_iff_lt_or_eq.1 hi with h | rfl; exact HAL.out i h; exact hs, (HB.out.kept k9).set 4 (.int .i64 ((W : Int) + 1)), (HF.out.1.kept k9).other (j := 4) (by omega) _, (HF.out.2.1.kept k9).other (j := 4) (by omega) _, (HF.out.2.2.trans k9).setNew (by simp; omega) _⟩
      · have ds : (G (u + W) v == G u v) = false := by simpa using hs
        have hWe : wOf G u v = W := wOf_eq hW1 (by omega) HAL.out hs
        repeat (first | go_values | go_skip | go_guarded | go_step | go_upon)
        refine wp_region_kept (by kernel_rfl) (by kernel_rfl) ?_
        have hcc := KW.cell_eq wa
        repeat (go_big_quiet_step (first | (go_at_call 62; with_reducible exact kw_call (HK1.out _ (HF.out.2.2.trans (KW.k _))))))
        refine wpQuiet_nil ?_
        rintro y1 ⟨⟨w8, k9⟩, h9⟩
        change y1 = w8 at h9
        subst h9
        clear hcc
        clear v0 v1 v2 v3 v4 v5 v6 q4 q6 q4f vl ql
        repeat (first | go_values | go_skip | go_guarded | go_step | go_upon)
        have HB3 : Hid (Loc y1 Bq [.int .i64 (way : Int), .int .i64 (at_ : Int), .int .i64 (u : Int), .int .i64 (v : Int), .int .i64 (W : Int), .int .i64 1, .int .i64 (G u v)]) := HB.out.kept k9
        have HF3 : Hid (Loc y1 w.heap.size [.int .i64 (A : Int), .int .i64 (B : Int), .int .i64 (D : Int), .slice ao l.length cap, .int .i64 (way : Int), .int .i64 (at_ : Int), .slice (some ⟨T, 0, none⟩) 64 64] ∧ Loc y1 (w.heap.size + 1) [.int .i64 0, .int .i64 0, .int .i64 0, .int .i64 0, .int .i64 0, .int .i64 0, .int .i64 0] ∧ Kept w y1) := ⟨HF.out.1.kept k9, HF.out.2.1.kept k9, HF.out.2.2.trans k9⟩
        clear HB HF HK1 k9
        go_loopg [] (8) (fun gk2 wr => ∃ H : Nat, gk2 + H = 9 ∧ 1 ≤ H ∧ v + H ≤ vs ∧ Hid (∀ i, 1 ≤ i → i < H → rowB G u (v + i) (G u v) W = true) ∧ Hid (Loc wr Bq [.int .i64 (way : Int), .int .i64 (at_ : Int), .int .i64 (u : Int), .int .i64 (v : Int), .int .i64 (W : Int), .int .i64 (H : Int), .int .i64 (G u v)]) ∧ Hid (Loc wr w.heap.size [.int .i64 (A : Int), .int .i64 (B : Int), .int .i64 (D : Int), .slice ao l.length cap, .int .i64 (way : Int), .int .i64 (at_ : Int), .slice (some ⟨T, 0, none⟩) 64 64] ∧ Loc wr (w.heap.size + 1) [.int .i64 0, .int .i64 0, .int .i64 0, .int .i64 0, .int .i64 0, .int .i64 0, .int .i64 0] ∧ Kept w wr))
        case atStart => exact ⟨1, by omega, by omega, by omega, fun i h1 hi => by omega, HB3, HF3⟩
        case round =>
          clear HB3 HF3
          rename World => wb
          obtain ⟨H, hgk2, hH1, hHv, HAR, HB2, HF2⟩ := hrel
          have p0 := HB2.out.cell 0 rfl
          have p1 := HB2.out.cell 1 rfl
          have p2 := HB2.out.cell 2 rfl
          have p3 := HB2.out.cell 3 rfl
          have p4 := HB2.out.cell 4 rfl
          have p5 := HB2.out.cell 5 rfl
          have p6 := HB2.out.cell 6 rfl
          have v0 := HF2.out.1.cell 0 rfl
          have v1 := HF2.out.1.cell 1 rfl
          have v2 := HF2.out.1.cell 2 rfl
          have v3 := HF2.out.1.cell 3 rfl
          have v4 := HF2.out.1.cell 4 rfl
          have v5 := HF2.out.1.cell 5 rfl
          have v6 := HF2.out.1.cell 6 rfl
          have vl := HF2.out.1.lt
          have pl := HB2.out.lt
          have HR1 : Hid (∀ x : World, Kept w x → Calls Try.prog 71 #[.agg #[.int .i64 (A : Int), .int .i64 (B : Int), .int .i64 (D : Int), .slice ao l.length cap, .int .i64 (way : Int), .int .i64 (at_ : Int), .slice (some ⟨T, 0, none⟩) 64 64], .agg #[.int .i64 (way : Int), .int .i64 (at_ : Int), .int .i64 (u : Int), .int .i64 (v : Int), .int .i64 (W : Int), .int .i64 (H : Int), .int .i64 (G u v)], .int .i64 ((v : Int) + (H : Int))] x fun e w' => e = .returned (.bool (rowB G u (v + H) (G u v) W)) ∧ Kept x w') := fun x hx => by
            have h := HRA.out x W H (v + H) (by omega) (by omega) hx
            have e9 : ((v + H : Nat) : Int) = (v : Int) + (H : Int) := by push_cast; rfl
            rw [e9] at h
            exact h
          cases qb : rowB G u (v + H) (G u v) W with
          | true =>
            have hlt : v + H < vs := by
              rcases Nat.lt_or_ge (v + H) vs with h | h
              · exact h
              · rw [row_out HBD.out h0 h hW1] at qb
                cases qb
            repeat (first | (go_at_call 71; refine (HR1.out _ HF2.out.2.2).mono ?_; rintro e y2 ⟨rfl, k2⟩; rw [qb]; clear p0 p1 p2 p3 p4 p5 p6 v0 v1 v2 v3 v4 v5 v6; have LQ := HB2.out.kept k2; have LR := HF2.out.2.1.kept k2; have p0 := LQ.cell 0 rfl; have p1 := LQ.cell 1 rfl; have p2 := LQ.cell 2 rfl; have p3 := LQ.cell 3 rfl; have p4 := LQ.cell 4 rfl; have p5 := LQ.cell 5 rfl; have p6 := LQ.cell 6 rfl; have p5f := LQ.frozen 5; have r0 := LR.cell 0 rfl; have r1 := LR.cell 1 rfl; have r2 := LR.cell 2 rfl; have r3 := LR.cell 3 rfl; have r4 := LR.cell 4 rfl; have r5 := LR.cell 5 rfl; have r6 := LR.cell 6 rfl; have z0 := LR.frozen 0; have z1 := LR.frozen 1; have z2 := LR.frozen 2; have z3 := LR.frozen 3; have z4 := LR.frozen 4; have z5 := LR.frozen 5; have z6 := LR.frozen 6; (try dsimp only)) | go_values | go_skip | go_guarded | go_step | go_upon)
            go_roundg (gk - 1)
            case measure => omega
            case rel =>
              exact ⟨H + 1, by omega, by omega, by omega, fun i h1 hi => by rcases Nat.lt_succ_iff_lt_or_eq.1 hi with h | rfl; exact HAR.out i h1 h; exact qb, LQ.set 5 (.int .i64 ((H : Int) + 1)), (HF2.out.1.kept k2).other (j := 5) (by omega) _, LR.other (j := 5) (by omega) _, (HF2.out.2.2.trans k2).setNew (by simp; omega) _⟩
          | false =>
            repeat (first | (go_at_call 71; refine (HR1.out _ HF2.out.2.2).mono ?_; rintro e y2 ⟨rfl, k2⟩; rw [qb]; clear p0 p1 p2 p3 p4 p5 p6 v0 v1 v2 v3 v4 v5 v6; have LQ := HB2.out.kept k2; have LR := HF2.out.2.1.kept k2; have p0 := LQ.cell 0 rfl; have p1 := LQ.cell 1 rfl; have p2 := LQ.cell 2 rfl; have p3 := LQ.cell 3 rfl; have p4 := LQ.cell 4 rfl; have p5 := LQ.cell 5 rfl; have p6 := LQ.cell 6 rfl; have p5f := LQ.frozen 5; have r0 := LR.cell 0 rfl; have r1 := LR.cell 1 rfl; have r2 := LR.cell 2 rfl; have r3 := LR.cell 3 rfl; have r4 := LR.cell 4 rfl; have r5 := LR.cell 5 rfl; have r6 := LR.cell 6 rfl; have z0 := LR.frozen 0; have z1 := LR.frozen 1; have z2 := LR.frozen 2; have z3 := LR.frozen 3; have z4 := LR.frozen 4; have z5 := LR.frozen 5; have z6 := LR.frozen 6; (try dsimp only)) | go_values | go_skip | go_guarded | go_step | go_upon)
            have hHe : hOf G u v = H := hOf_eq hH1 (by omega) (by rw [hWe]; exact HAR.out) (by rw [hWe]; exact qb)
            refine bodyPost_ret (v := .agg #[.int .i64 (way : Int), .int .i64 (at_ : Int), .int .i64 (u : Int), .int .i64 (v : Int), .int .i64 (W : Int), .int .i64 (H : Int), .int .i64 (G u v)]) (by simp [results, Try.results63, go_sem, r0, r1, r2, r3, r4, r5, r6]) rfl ?_
            refine ⟨by unfold quadAt; rw [hWe, hHe]; rfl, ?_⟩
            have h := HF2.out.2.2.trans k2
            exact ((((((h.setNew (by simp) _).setNew (by simp) _).setNew (by simp) _).setNew (by simp) _).setNew (by simp) _).setNew (by simp) _).setNew (by simp) _
  · obtain ⟨Z, hZ⟩ : ∃ Z, Z = ((((((y0.setCell ⟨X.heap.size, 0, none⟩ (.int .i64 (way : Int))).setCell ⟨X.heap.size, 1, none⟩ (.int .i64 (at_ : Int))).setCell ⟨X.heap.size, 2, none⟩ (.int .i64 (u : Int))).setCell ⟨X.heap.size, 3, none⟩ (.int .i64 (v : Int))).setCell ⟨X.heap.size, 4, none⟩ (.int .i64 1)).setCell ⟨X.heap.size, 5, none⟩ (.int .i64 1)).setCell ⟨X.heap.size, 6, none⟩ (.int .i64 (G u v)) := ⟨_, rfl⟩
    have HB0 : Loc Z X.heap.size [.int .i64 (way : Int), .int .i64 (at_ : Int), .int .i64 (u : Int), .int .i64 (v : Int), .int .i64 1, .int .i64 1, .int .i64 (G u v)] := by rw [hZ]; exact ((((((L7.set 0 _).set 1 _).set 2 _).set 3 _).set 4 _).set 5 _).set 6 _
    have kZ : Kept X Z := by rw [hZ]; exact ((((((K1.setNew (by simp) _).setNew (by simp) _).setNew (by simp) _).setNew (by simp) _).setNew (by simp) _).setNew (by simp) _).setNew (by simp) _
    rw [← hZ]
    clear hZ z0 z1 z2 z3 z4 z5 z6 f0 f1 f2 f3 f4 f5 f6 L7
    obtain ⟨Bq, hBq⟩ : ∃ b, b = X.heap.size := ⟨_, rfl⟩
    have HB1 : Hid (Loc Z Bq [.int .i64 (way : Int), .int .i64 (at_ : Int), .int .i64 (u : Int), .int .i64 (v : Int), .int .i64 1, .int .i64 1, .int .i64 (G u v)]) := by show Loc _ _ _; rw [hBq]; exact HB0
    have hB2 : w.heap.size + 2 ≤ Bq := by have := HR.lt; omega
    have HF1 : Hid (Loc Z w.heap.size [.int .i64 (A : Int), .int .i64 (B : Int), .int .i64 (D : Int), .slice ao l.length cap, .int .i64 (way : Int), .int .i64 (at_ : Int), .slice (some ⟨T, 0, none⟩) 64 64] ∧ Loc Z (w.heap.size + 1) [.int .i64 0, .int .i64 0, .int .i64 0, .int .i64 0, .int .i64 0, .int .i64 0, .int .i64 0] ∧ Kept w Z) := ⟨HL.kept kZ, HR.kept kZ, kX.trans kZ⟩
    rw [← hBq]
    clear hBq kZ K1 k0 HL HR kX v0 v1 v2 v3 v4 v5 v6 vl HS HK0 hXl HB0
    repeat (first | go_values | go_skip | go_guarded | go_step | go_upon)
    go_loopg [] (8) (fun gk wr => ∃ W : Nat, gk + W = 9 ∧ 1 ≤ W ∧ u + W ≤ us ∧ Hid (∀ i, i < W → G (u + i) v = G u v) ∧ Hid (Loc wr Bq [.int .i64 (way : Int), .int .i64 (at_ : Int), .int .i64 (u : Int), .int .i64 (v : Int), .int .i64 (W : Int), .int .i64 1, .int .i64 (G u v)]) ∧ Hid (Loc wr w.heap.size [.int .i64 (A : Int), .int .i64 (B : Int), .int .i64 (D : Int), .slice ao l.length cap, .int .i64 (way : Int), .int .i64 (at_ : Int), .slice (some ⟨T, 0, none⟩) 64 64] ∧ Loc wr (w.heap.size + 1) [.int .i64 0, .int .i64 0, .int .i64 0, .int .i64 0, .int .i64 0, .int .i64 0, .int .i64 0] ∧ Kept w wr))
    case atStart => exact ⟨1, by omega, by omega, by omega, fun i hi => by obtain rfl : i = 0 := (by omega); rfl, HB1, HF1⟩
    case round =>
      clear HB1 HF1
      rename World => wa
      obtain ⟨W, hgk, hW1, hWu, HAL, HB, HF⟩ := hrel
      have q4 := HB.out.cell 4 rfl
      have q6 := HB.out.cell 6 rfl
      have ql := HB.out.lt
      have q4f := HB.out.frozen 4
      have v0 := HF.out.1.cell 0 rfl
      have v1 := HF.out.1.cell 1 rfl
      have v2 := HF.out.1.cell 2 rfl
      have v3 := HF.out.1.cell 3 rfl
      have v4 := HF.out.1.cell 4 rfl
      have v5 := HF.out.1.cell 5 rfl
      have v6 := HF.out.1.cell 6 rfl
      have vl := HF.out.1.lt
      have HK1 : Hid (∀ x : World, Kept w x → Calls Try.prog 62 #[.agg #[.int .i64 (A : Int), .int .i64 (B : Int), .int .i64 (D : Int), .slice ao l.length cap, .int .i64 (way : Int), .int .i64 (at_ : Int), .slice (some ⟨T, 0, none⟩) 64 64], .int .i64 ((u : Int) + (W : Int)), .int .i64 (v : Int)] x fun e w' => e = .returned (.int .i64 (G (u + W) v)) ∧ Kept x w') := fun x hx => by
        have h := HKA.out x (u + W) v (by omega) (by omega) hx
        have e9 : ((u + W : Nat) : Int) = (u : Int) + (W : Int) := by push_cast; rfl
        rw [e9] at h
        exact h
      by_cases hs : G (u + W) v = G u v
      · have hlt : u + W < us := by
          rcases Nat.lt_or_ge (u + W) us with h | h
          · exact h
          · exact absurd (hs.symm.trans (HBD.out _ _ (.inl h))) h0
        have ds : (G (u + W) v == G u v) = true := by simpa using hs
        repeat (first | go_values | go_skip | go_guarded | go_step | go_upon)
        refine wp_region_kept (by kernel_rfl) (by kernel_rfl) ?_
        have hcc := KW.cell_eq wa
        repeat (go_big_quiet_step (first | (go_at_call 62; with_reducible exact kw_call (HK1.out _ (HF.out.2.2.trans (KW.k _))))))
        refine wpQuiet_nil ?_
        rintro y1 ⟨⟨w8, k9⟩, h9⟩
        change y1 = w8 at h9
        subst h9
        clear hcc
        clear v0 v1 v2 v3 v4 v5 v6
        have q4 := Kept.cell k9 q4
        have q4f : y1.frozen? ⟨Bq, 4, none⟩ = false := by rw [k9.frozen_eq _ _ ql]; exact q4f
        repeat (first | go_values | go_skip | go_guarded | go_step | go_upon)
        go_roundg (gk - 1)
        case measure => omega
        case rel =>
          exact ⟨W + 1, by omega, by omega, by omega, fun i hi => by rcases Nat.lt_succ_iff_lt_or_eq.1 hi with h | rfl; exact HAL.out i h; exact hs, (HB.out.kept k9).set 4 (.int .i64 ((W : Int) + 1)), (HF.out.1.kept k9).other (j := 4) (by omega) _, (HF.out.2.1.kept k9).other (j := 4) (by omega) _, (HF.out.2.2.trans k9).setNew (by simp; omega) _⟩
      · have ds : (G (u + W) v == G u v) = false := by simpa using hs
        have hWe : wOf G u v = W := wOf_eq hW1 (by omega) HAL.out hs
        repeat (first | go_values | go_skip | go_guarded | go_step | go_upon)
        refine wp_region_kept (by kernel_rfl) (by kernel_rfl) ?_
        have hcc := KW.cell_eq wa
        repeat (go_big_quiet_step (first | (go_at_call 62; with_reducible exact kw_call (HK1.out _ (HF.out.2.2.trans (KW.k _))))))
        refine wpQuiet_nil ?_
        rintro y1 ⟨⟨w8, k9⟩, h9⟩
        change y1 = w8 at h9
        subst h9
        clear hcc
        clear v0 v1 v2 v3 v4 v5 v6 q4 q6 q4f vl ql
        repeat (first | go_values | go_skip | go_guarded | go_step | go_upon)
        have HB3 : Hid (Loc y1 Bq [.int .i64 (way : Int), .int .i64 (at_ : Int), .int .i64 (u : Int), .int .i64 (v : Int), .int .i64 (W : Int), .int .i64 1, .int .i64 (G u v)]) := HB.out.kept k9
        have HF3 : Hid (Loc y1 w.heap.size [.int .i64 (A : Int), .int .i64 (B : Int), .int .i64 (D : Int), .slice ao l.length cap, .int .i64 (way : Int), .int .i64 (at_ : Int), .slice (some ⟨T, 0, none⟩) 64 64] ∧ Loc y1 (w.heap.size + 1) [.int .i64 0, .int .i64 0, .int .i64 0, .int .i64 0, .int .i64 0, .int .i64 0, .int .i64 0] ∧ Kept w y1) := ⟨HF.out.1.kept k9, HF.out.2.1.kept k9, HF.out.2.2.trans k9⟩
        clear HB HF HK1 k9
        go_loopg [] (8) (fun gk2 wr => ∃ H : Nat, gk2 + H = 9 ∧ 1 ≤ H ∧ v + H ≤ vs ∧ Hid (∀ i, 1 ≤ i → i < H → rowB G u (v + i) (G u v) W = true) ∧ Hid (Loc wr Bq [.int .i64 (way : Int), .int .i64 (at_ : Int), .int .i64 (u : Int), .int .i64 (v : Int), .int .i64 (W : Int), .int .i64 (H : Int), .int .i64 (G u v)]) ∧ Hid (Loc wr w.heap.size [.int .i64 (A : Int), .int .i64 (B : Int), .int .i64 (D : Int), .slice ao l.length cap, .int .i64 (way : Int), .int .i64 (at_ : Int), .slice (some ⟨T, 0, none⟩) 64 64] ∧ Loc wr (w.heap.size + 1) [.int .i64 0, .int .i64 0, .int .i64 0, .int .i64 0, .int .i64 0, .int .i64 0, .int .i64 0] ∧ Kept w wr))
        case atStart => exact ⟨1, by omega, by omega, by omega, fun i h1 hi => by omega, HB3, HF3⟩
        case round =>
          clear HB3 HF3
          rename World => wb
          obtain ⟨H, hgk2, hH1, hHv, HAR, HB2, HF2⟩ := hrel
          have p0 := HB2.out.cell 0 rfl
          have p1 := HB2.out.cell 1 rfl
          have p2 := HB2.out.cell 2 rfl
          have p3 := HB2.out.cell 3 rfl
          have p4 := HB2.out.cell 4 rfl
          have p5 := HB2.out.cell 5 rfl
          have p6 := HB2.out.cell 6 rfl
          have v0 := HF2.out.1.cell 0 rfl
          have v1 := HF2.out.1.cell 1 rfl
          have v2 := HF2.out.1.cell 2 rfl
          have v3 := HF2.out.1.cell 3 rfl
          have v4 := HF2.out.1.cell 4 rfl
          have v5 := HF2.out.1.cell 5 rfl
          have v6 := HF2.out.1.cell 6 rfl
          have vl := HF2.out.1.lt
          have pl := HB2.out.lt
          have HR1 : Hid (∀ x : World, Kept w x → Calls Try.prog 71 #[.agg #[.int .i64 (A : Int), .int .i64 (B : Int), .int .i64 (D : Int), .slice ao l.length cap, .int .i64 (way : Int), .int .i64 (at_ : Int), .slice (some ⟨T, 0, none⟩) 64 64], .agg #[.int .i64 (way : Int), .int .i64 (at_ : Int), .int .i64 (u : Int), .int .i64 (v : Int), .int .i64 (W : Int), .int .i64 (H : Int), .int .i64 (G u v)], .int .i64 ((v : Int) + (H : Int))] x fun e w' => e = .returned (.bool (rowB G u (v + H) (G u v) W)) ∧ Kept x w') := fun x hx => by
            have h := HRA.out x W H (v + H) (by omega) (by omega) hx
            have e9 : ((v + H : Nat) : Int) = (v : Int) + (H : Int) := by push_cast; rfl
            rw [e9] at h
            exact h
          cases qb : rowB G u (v + H) (G u v) W with
          | true =>
            have hlt : v + H < vs := by
              rcases Nat.lt_or_ge (v + H) vs with h | h
              · exact h
              · rw [row_out HBD.out h0 h hW1] at qb
                cases qb
            repeat (first | (go_at_call 71; refine (HR1.out _ HF2.out.2.2).mono ?_; rintro e y2 ⟨rfl, k2⟩; rw [qb]; clear p0 p1 p2 p3 p4 p5 p6 v0 v1 v2 v3 v4 v5 v6; have LQ := HB2.out.kept k2; have LR := HF2.out.2.1.kept k2; have p0 := LQ.cell 0 rfl; have p1 := LQ.cell 1 rfl; have p2 := LQ.cell 2 rfl; have p3 := LQ.cell 3 rfl; have p4 := LQ.cell 4 rfl; have p5 := LQ.cell 5 rfl; have p6 := LQ.cell 6 rfl; have p5f := LQ.frozen 5; have r0 := LR.cell 0 rfl; have r1 := LR.cell 1 rfl; have r2 := LR.cell 2 rfl; have r3 := LR.cell 3 rfl; have r4 := LR.cell 4 rfl; have r5 := LR.cell 5 rfl; have r6 := LR.cell 6 rfl; have z0 := LR.frozen 0; have z1 := LR.frozen 1; have z2 := LR.frozen 2; have z3 := LR.frozen 3; have z4 := LR.frozen 4; have z5 := LR.frozen 5; have z6 := LR.frozen 6; (try dsimp only)) | go_values | go_skip | go_guarded | go_step | go_upon)
            go_roundg (gk - 1)
            case measure => omega
            case rel =>
              exact ⟨H + 1, by omega, by omega, by omega, fun i h1 hi => by rcases Nat.lt_succ_iff_lt_or_eq.1 hi with h | rfl; exact HAR.out i h1 h; exact qb, LQ.set 5 (.int .i64 ((H : Int) + 1)), (HF2.out.1.kept k2).other (j := 5) (by omega) _, LR.other (j := 5) (by omega) _, (HF2.out.2.2.trans k2).setNew (by simp; omega) _⟩
          | false =>
            repeat (first | (go_at_call 71; refine (HR1.out _ HF2.out.2.2).mono ?_; rintro e y2 ⟨rfl, k2⟩; rw [qb]; clear p0 p1 p2 p3 p4 p5 p6 v0 v1 v2 v3 v4 v5 v6; have LQ := HB2.out.kept k2; have LR := HF2.out.2.1.kept k2; have p0 := LQ.cell 0 rfl; have p1 := LQ.cell 1 rfl; have p2 := LQ.cell 2 rfl; have p3 := LQ.cell 3 rfl; have p4 := LQ.cell 4 rfl; have p5 := LQ.cell 5 rfl; have p6 := LQ.cell 6 rfl; have p5f := LQ.frozen 5; have r0 := LR.cell 0 rfl; have r1 := LR.cell 1 rfl; have r2 := LR.cell 2 rfl; have r3 := LR.cell 3 rfl; have r4 := LR.cell 4 rfl; have r5 := LR.cell 5 rfl; have r6 := LR.cell 6 rfl; have z0 := LR.frozen 0; have z1 := LR.frozen 1; have z2 := LR.frozen 2; have z3 := LR.frozen 3; have z4 := LR.frozen 4; have z5 := LR.frozen 5; have z6 := LR.frozen 6; (try dsimp only)) | go_values | go_skip | go_guarded | go_step | go_upon)
            have hHe : hOf G u v = H := hOf_eq hH1 (by omega) (by rw [hWe]; exact HAR.out) (by rw [hWe]; exact qb)
            refine bodyPost_ret (v := .agg #[.int .i64 (way : Int), .int .i64 (at_ : Int), .int .i64 (u : Int), .int .i64 (v : Int), .int .i64 (W : Int), .int .i64 (H : Int), .int .i64 (G u v)]) (by simp [results, Try.results63, go_sem, r0, r1, r2, r3, r4, r5, r6]) rfl ?_
            refine ⟨by unfold quadAt; rw [hWe, hHe]; rfl, ?_⟩
            have h := HF2.out.2.2.trans k2
            exact ((((((h.setNew (by simp) _).setNew (by simp) _).setNew (by simp) _).setNew (by simp) _).setNew (by simp) _).setNew (by simp) _).setNew (by simp) _

end Go.Proofs.Ytnfkgnbhdhpnmaa
