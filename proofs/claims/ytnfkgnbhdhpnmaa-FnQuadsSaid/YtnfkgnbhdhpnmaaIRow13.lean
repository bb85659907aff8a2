/-
  Whether a row goes on, in the program.
-/
import Derived.Test.YtnfkgnbhdhpnmaaIKind13
namespace Go.Proofs.Ytnfkgnbhdhpnmaa
open Go.ChangeShapes Go.WideShapes Go.ChangeAt Go.RowKit

set_option maxRecDepth 100000
set_option linter.unusedVariables false
set_option maxHeartbeats 8000000 in
theorem irowL (A B D way at_ T u0 v W : Nat) (q1 q2 q4 q6 K : Int) (tk : Nat → Bool) (l : List Int) (ao : Option Addr) (cap : Nat) (w : World) (hg : BlocksP (A : Int) (B : Int) (D : Int) l) (hw : way < 6) (ha : at_ < sideN A B D way) (hu : u0 + W ≤ 8) (hv : v ≤ 8) (hva : NumAt w (.slice ao l.length cap) l) (htk : TK w T tk) (hl : l.length ≤ 1048576) :
    Calls Try.prog 71 #[.agg #[.int .i64 (A : Int), .int .i64 (B : Int), .int .i64 (D : Int), .slice ao l.length cap, .int .i64 (way : Int), .int .i64 (at_ : Int), .slice (some ⟨T, 0, none⟩) 64 64], .agg #[.int .i64 q1, .int .i64 q2, .int .i64 (u0 : Int), .int .i64 q4, .int .i64 (W : Int), .int .i64 q6, .int .i64 K], .int .i64 (v : Int)] w fun e w' => e = .returned (.bool (rowB (maskG (face A B D l way at_) tk) u0 v K W)) ∧ Kept w w' := by
  obtain ⟨G, hG⟩ : ∃ G, G = maskG (face A B D l way at_) tk := ⟨_, rfl⟩
  rw [← hG]
  have HKA : Hid (∀ (x : World) (i : Nat), i < W → Kept w x → Calls Try.prog 62 #[.agg #[.int .i64 (A : Int), .int .i64 (B : Int), .int .i64 (D : Int), .slice ao l.length cap, .int .i64 (way : Int), .int .i64 (at_ : Int), .slice (some ⟨T, 0, none⟩) 64 64], .int .i64 ((u0 + i : Nat) : Int), .int .i64 (v : Int)] x fun e w' => e = .returned (.int .i64 (G (u0 + i) v)) ∧ Kept x w') := fun x i hi hx => by rw [hG]; exact ikindL A B D way at_ T (u0 + i) v tk l ao cap x hg hw ha (by omega) hv (hva.kept hx) (htk.kept hx) hl
  clear hG
  go_enter Try.func71, Try.ntmps71
  repeat (first | go_values | go_skip | go_guarded | go_step | go_upon)
  go_loopw [10] (fun i wr => ∃ j : Nat, j ≤ W ∧ i = .int .i64 j ∧ Hid (∀ i, i < j → G (u0 + i) v = K) ∧ Hid (Kept w wr ∧ Loc wr w.heap.size [.int .i64 (A : Int), .int .i64 (B : Int), .int .i64 (D : Int), .slice ao l.length cap, .int .i64 (way : Int), .int .i64 (at_ : Int), .slice (some ⟨T, 0, none⟩) 64 64] ∧ Loc wr (w.heap.size + 1) [.int .i64 q1, .int .i64 q2, .int .i64 (u0 : Int), .int .i64 q4, .int .i64 (W : Int), .int .i64 q6, .int .i64 K])) (fun i _ => W - (intOf i).toNat)
  case atStart => exact ⟨0, by omega, rfl, fun i hi => by omega, ((But.refl _ _ _).alloc _).alloc _, (Loc.new w _ _).alloc _, by have h := Loc.new (w.alloc (.cells #[.int .i64 (A : Int), .int .i64 (B : Int), .int .i64 (D : Int), .slice ao l.length cap, .int .i64 (way : Int), .int .i64 (at_ : Int), .slice (some ⟨T, 0, none⟩) 64 64] 63)) [.int .i64 q1, .int .i64 q2, .int .i64 (u0 : Int), .int .i64 q4, .int .i64 (W : Int), .int .i64 q6, .int .i64 K] 33; simpa only [World.size_alloc] using h⟩
  case round =>
    obtain ⟨j, hj, rfl, HA, HF⟩ := hrel
    have v0 := HF.out.2.1.cell 0 rfl
    have v1 := HF.out.2.1.cell 1 rfl
    have v2 := HF.out.2.1.cell 2 rfl
    have v3 := HF.out.2.1.cell 3 rfl
    have v4 := HF.out.2.1.cell 4 rfl
    have v5 := HF.out.2.1.cell 5 rfl
    have v6 := HF.out.2.1.cell 6 rfl
    have p2 := HF.out.2.2.cell 2 rfl
    have p6 := HF.out.2.2.cell 6 rfl
    have vl := HF.out.2.1.lt
    have pl := HF.out.2.2.lt
    by_cases hlj : j < W
    · have HK1 : Hid (∀ x : World, Kept w x → Calls Try.prog 62 #[.agg #[.int .i64 (A : Int), .int .i64 (B : Int), .int .i64 (D : Int), .slice ao l.length cap, .int .i64 (way : Int), .int .i64 (at_ : Int), .slice (some ⟨T, 0, none⟩) 64 64], .int .i64 ((u0 : Int) + (j : Int)), .int .i64 (v : Int)] x fun e w' => e = .returned (.int .i64 (G (u0 + j) v)) ∧ Kept x w') := fun x hx => by
        have h := HKA.out x j hlj hx
        have e9 : ((u0 + j : Nat) : Int) = (u0 : Int) + (j : Int) := by push_cast; rfl
        rw [e9] at h
        exact h
      by_cases hs : G (u0 + j) v = K
      · have ds : (G (u0 + j) v != K) = false := by simpa using hs
        repeat (first | go_values | go_skip | go_guarded | go_step | go_upon)
        refine wp_region_kept (by kernel_rfl) (by kernel_rfl) ?_
        have hcc := KW.cell_eq wr
        repeat (go_big_quiet_step (first | (go_at_call 62; with_reducible exact kw_call (HK1.out _ (HF.out.1.trans (KW.k _))))))
        refine wpQuiet_nil ?_
        rintro y1 ⟨⟨w8, k1⟩, h9⟩
        change y1 = w8 at h9
        subst h9
        clear hcc
        repeat (first | go_values | go_skip | go_guarded | go_step | go_upon)
        exact ⟨⟨j + 1, hlj, by go_num, fun i hi => by rcases Nat.lt_succ_iff_lt_or_eq.1 hi with h | rfl; exact HA.out i h; exact hs, HF.out.1.trans k1, HF.out.2.1.kept k1, HF.out.2.2.kept k1⟩, by simp [intOf]; omega⟩
      · have ds : (G (u0 + j) v != K) = true := by simpa using hs
        repeat (first | go_values | go_skip | go_guarded | go_step | go_upon)
        refine wp_region_kept (by kernel_rfl) (by kernel_rfl) ?_
        have hcc := KW.cell_eq wr
        repeat (go_big_quiet_step (first | (go_at_call 62; with_reducible exact kw_call (HK1.out _ (HF.out.1.trans (KW.k _))))))
        refine wpQuiet_nil ?_
        rintro y1 ⟨⟨w8, k1⟩, h9⟩
        change y1 = w8 at h9
        subst h9
        clear hcc
        repeat (first | go_values | go_skip | go_guarded | go_step | go_upon)
        go_ret
        refine ⟨ret_bool ?_, HF.out.1.trans k1⟩
        cases h : rowB G u0 v K W with
        | false => rfl
        | true => exact absurd (rowB_iff.1 h j hlj) hs
    · have hje : j = W := by omega
      subst hje
      repeat (first | go_values | go_skip | go_guarded | go_step | go_upon)
      go_ret
      exact ⟨ret_bool (rowB_iff.2 HA.out).symm, HF.out.1⟩

end Go.Proofs.Ytnfkgnbhdhpnmaa
