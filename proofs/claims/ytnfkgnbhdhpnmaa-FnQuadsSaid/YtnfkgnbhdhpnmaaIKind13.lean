/-
  The kind of a face that is not taken, in the program.
-/
import Derived.Test.YtnfkgnbhdhpnmaaIQuad13
import Derived.Test.YtnfkgnbhdhpnmaaOpen13
namespace Go.Proofs.Ytnfkgnbhdhpnmaa
open Go.ChangeShapes Go.WideShapes Go.ChangeAt Go.RowKit

set_option maxRecDepth 100000
set_option linter.unusedVariables false
set_option maxHeartbeats 8000000 in
theorem ikindL (A B D way at_ T u v : Nat) (tk : Nat → Bool) (l : List Int) (ao : Option Addr) (cap : Nat) (w : World) (hg : BlocksP (A : Int) (B : Int) (D : Int) l) (hw : way < 6) (ha : at_ < sideN A B D way) (hu : u ≤ 8) (hv : v ≤ 8) (hva : NumAt w (.slice ao l.length cap) l) (htk : TK w T tk) (hl : l.length ≤ 1048576) :
    Calls Try.prog 62 #[.agg #[.int .i64 (A : Int), .int .i64 (B : Int), .int .i64 (D : Int), .slice ao l.length cap, .int .i64 (way : Int), .int .i64 (at_ : Int), .slice (some ⟨T, 0, none⟩) 64 64], .int .i64 (u : Int), .int .i64 (v : Int)] w fun e w' => e = .returned (.int .i64 (maskG (face A B D l way at_) tk u v)) ∧ Kept w w' := by
  obtain ⟨us, hus⟩ : ∃ us, us = usN A B way := ⟨_, rfl⟩
  obtain ⟨vs, hvs⟩ : ∃ vs, vs = vsN B D way := ⟨_, rfl⟩
  obtain ⟨sd, hsd⟩ : ∃ sd, sd = sideN A B D way := ⟨_, rfl⟩
  obtain ⟨pa, hpa⟩ : ∃ p, p = apA A B way := ⟨_, rfl⟩
  obtain ⟨pu, hpu⟩ : ∃ p, p = apU A way := ⟨_, rfl⟩
  obtain ⟨pv, hpv⟩ : ∃ p, p = apV A B way := ⟨_, rfl⟩
  have HAX : Hid (∀ x : World, Calls Try.prog 61 #[.agg #[.int .i64 (A : Int), .int .i64 (B : Int), .int .i64 (D : Int), .slice ao l.length cap, .int .i64 (way : Int), .int .i64 (at_ : Int), .slice (some ⟨T, 0, none⟩) 64 64]] x fun e w' => e = .returned (.tuple #[.agg #[.int .i64 (sd : Int), .int .i64 (pa : Int)], .agg #[.int .i64 (us : Int), .int .i64 (pu : Int)], .agg #[.int .i64 (vs : Int), .int .i64 (pv : Int)]]) ∧ Kept x w') := fun x => by
    rw [hsd, hpa, hus, hpu, hvs, hpv]
    exact iaxesL A B D way at_ T (way / 2) l ao cap x hg.edge hw rfl
  have HE : Hid (us = usN A B way ∧ vs = vsN B D way ∧ sd = sideN A B D way ∧ pa = apA A B way ∧ pu = apU A way ∧ pv = apV A B way) := ⟨hus, hvs, hsd, hpa, hpu, hpv⟩
  clear hus hvs hsd hpa hpu hpv
  have hmz : ∀ c : Int, (us ≤ u ∨ vs ≤ v ∨ tk (v * 8 + u) = true) → maskG (face A B D l way at_) tk u v = 0 := fun _ h => by
    unfold maskG
    split
    · rfl
    · rename_i hn
      exact face_bd A B D l way at_ u v (by rw [← HE.out.1, ← HE.out.2.1]; rcases h with h | h | h; exact .inl h; exact .inr h; exact absurd h hn)
  by_cases h1 : us ≤ u
  · have d1 : decide (us ≤ u) = true := decide_eq_true h1
    rw [hmz 0 (.inl h1)]
    clear hmz
    go_enter Try.func62, Try.ntmps62
    repeat (first | (go_at_call 61; refine (HAX.out _).mono ?_; rintro e u1 ⟨rfl, k1⟩; have K1 : Kept w u1 := ((But.refl _ _ _).alloc _).trans k1; have L1 := (Loc.new w [.int .i64 (A : Int), .int .i64 (B : Int), .int .i64 (D : Int), .slice ao l.length cap, .int .i64 (way : Int), .int .i64 (at_ : Int), .slice (some ⟨T, 0, none⟩) 64 64] 63).kept k1; have v0 := L1.cell 0 rfl; have v1 := L1.cell 1 rfl; have v2 := L1.cell 2 rfl; have v3 := L1.cell 3 rfl; have v4 := L1.cell 4 rfl; have v5 := L1.cell 5 rfl; have v6 := L1.cell 6 rfl; have vl := L1.lt; (try dsimp only)) | go_values | go_skip | go_guarded | go_step | go_upon)
    go_ret
    exact ⟨rfl, ((K1.alloc _).alloc _).alloc _⟩
  · have d1 : decide (us ≤ u) = false := decide_eq_false h1
    by_cases h2 : vs ≤ v
    · have d2 : decide (vs ≤ v) = true := decide_eq_true h2
      rw [hmz 0 (.inr (.inl h2))]
      clear hmz
      go_enter Try.func62, Try.ntmps62
      repeat (first | (go_at_call 61; refine (HAX.out _).mono ?_; rintro e u1 ⟨rfl, k1⟩; have K1 : Kept w u1 := ((But.refl _ _ _).alloc _).trans k1; have L1 := (Loc.new w [.int .i64 (A : Int), .int .i64 (B : Int), .int .i64 (D : Int), .slice ao l.length cap, .int .i64 (way : Int), .int .i64 (at_ : Int), .slice (some ⟨T, 0, none⟩) 64 64] 63).kept k1; have v0 := L1.cell 0 rfl; have v1 := L1.cell 1 rfl; have v2 := L1.cell 2 rfl; have v3 := L1.cell 3 rfl; have v4 := L1.cell 4 rfl; have v5 := L1.cell 5 rfl; have v6 := L1.cell 6 rfl; have vl := L1.lt; (try dsimp only)) | go_values | go_skip | go_guarded | go_step | go_upon)
      go_ret
      exact ⟨rfl, ((K1.alloc _).alloc _).alloc _⟩
    · have d2 : decide (vs ≤ v) = false := decide_eq_false h2
      have hdl := dims_le (A := A) (B := B) (D := D) (by have := hg.1; omega) (by have := hg.2.1; omega) (by have := hg.2.2.1; omega) way
      have hv8 : v < 8 ∧ u < 8 := by obtain ⟨e1, e2, -⟩ := HE.out; omega
      have hi64 : v * 8 + u < 64 := by omega
      have c0 := htk (v * 8 + u) hi64
      have cl := cell_ltG c0
      have zi : (v : Int) * 8 + (u : Int) < 64 := by omega
      have hti : ((v : Int) * 8 + (u : Int)).toNat = v * 8 + u := by omega
      cases qt : tk (v * 8 + u) with
      | true =>
        rw [qt] at c0
        rw [hmz 0 (.inr (.inr qt))]
        clear hmz
        go_enter Try.func62, Try.ntmps62
        repeat (first | (go_at_call 61; refine (HAX.out _).mono ?_; rintro e u1 ⟨rfl, k1⟩; have K1 : Kept w u1 := ((But.refl _ _ _).alloc _).trans k1; have L1 := (Loc.new w [.int .i64 (A : Int), .int .i64 (B : Int), .int .i64 (D : Int), .slice ao l.length cap, .int .i64 (way : Int), .int .i64 (at_ : Int), .slice (some ⟨T, 0, none⟩) 64 64] 63).kept k1; have v0 := L1.cell 0 rfl; have v1 := L1.cell 1 rfl; have v2 := L1.cell 2 rfl; have v3 := L1.cell 3 rfl; have v4 := L1.cell 4 rfl; have v5 := L1.cell 5 rfl; have v6 := L1.cell 6 rfl; have vl := L1.lt; have c1 := Kept.cell K1 c0; have c1l := cell_ltG c1; have vl2 : w.heap.size < u1.heap.size + 1 := (by omega); have vl3 : w.heap.size < u1.heap.size + 1 + 1 := (by omega); have c1l2 : T < u1.heap.size + 1 := (by omega); have c1l3 : T < u1.heap.size + 1 + 1 := (by omega); (try dsimp only)) | go_values | go_skip | go_guarded | go_step | go_upon)
        go_ret
        exact ⟨rfl, ((K1.alloc _).alloc _).alloc _⟩
      | false =>
        rw [qt] at c0
        clear hmz
        have hup : u < usN A B way := by rw [← HE.out.1]; omega
        have hvp : v < vsN B D way := by rw [← HE.out.2.1]; omega
        have hcn := num_lt hg (lay_here ha hup hvp)
        obtain ⟨N, hN⟩ := Int.eq_ofNat_of_zero_le hcn.1
        have hNl : N < l.length := by have := hcn.2; omega
        have hcs := cellQ_sum A B way at_ u v
        have hcq : cellQ A B way at_ u v = (N : Int) := hN
        rw [hcq, ← HE.out.2.2.2.1, ← HE.out.2.2.2.2.1, ← HE.out.2.2.2.2.2] at hcs
        have hNe : (at_ : Int) * (pa : Int) + (u : Int) * (pu : Int) + (v : Int) * (pv : Int) = (N : Int) := by rw [hcs]; push_cast; rfl
        have hm : maskG (face A B D l way at_) tk u v = if openM (A : Int) (B : Int) (D : Int) l (N : Int) way = true then getI l (N : Int) else 0 := by
          unfold maskG face
          rw [qt, if_neg (by simp), if_pos ⟨hup, hvp⟩, hcq]
        rw [hm]
        have hvol := hg.edge.vol
        have hln := hg.len
        have hN5 : (N : Int) ≤ 512 := by omega
        have p1 : 0 ≤ (at_ : Int) * (pa : Int) := Int.mul_nonneg (by omega) (by omega)
        have p2 : 0 ≤ (u : Int) * (pu : Int) := Int.mul_nonneg (by omega) (by omega)
        have p3 : 0 ≤ (v : Int) * (pv : Int) := Int.mul_nonneg (by omega) (by omega)
        have p4 : (at_ : Int) * (pa : Int) ≤ 512 := by omega
        have p5 : (u : Int) * (pu : Int) ≤ 512 := by omega
        have p6 : (v : Int) * (pv : Int) ≤ 512 := by omega
        have HOP : Hid (∀ x : World, Kept w x → Calls Try.prog 42 #[.agg #[.int .i64 (A : Int), .int .i64 (B : Int), .int .i64 (D : Int), .slice ao l.length cap], .int .i64 (N : Int), .int .i64 (way : Int)] x fun e w' => e = .returned (.bool (openM (A : Int) (B : Int) (D : Int) l (N : Int) way)) ∧ Kept x w') := fun x hx => iopen (A : Int) (B : Int) (D : Int) (N : Int) way l ao cap x (hva.kept hx) (by omega) (by omega) hg hw
        obtain ⟨lg, lo_, hao, e0, el⟩ := cell_of hva (k := (N : Int)) (by omega) (by omega)
        simp only [Int.toNat_natCast] at e0
        subst hao
        clear hcn hN hcs hcq hm hvol hln hup hvp hdl hg
        cases qo : openM (A : Int) (B : Int) (D : Int) l (N : Int) way with
        | false =>
          go_enter Try.func62, Try.ntmps62
          repeat (first | (go_at_call 61; refine (HAX.out _).mono ?_; rintro e u1 ⟨rfl, k1⟩; have K1 : Kept w u1 := ((But.refl _ _ _).alloc _).trans k1; have L1 := (Loc.new w [.int .i64 (A : Int), .int .i64 (B : Int), .int .i64 (D : Int), .slice (some ⟨lg, lo_, none⟩) l.length cap, .int .i64 (way : Int), .int .i64 (at_ : Int), .slice (some ⟨T, 0, none⟩) 64 64] 63).kept k1; have v0 := L1.cell 0 rfl; have v1 := L1.cell 1 rfl; have v2 := L1.cell 2 rfl; have v3 := L1.cell 3 rfl; have v4 := L1.cell 4 rfl; have v5 := L1.cell 5 rfl; have v6 := L1.cell 6 rfl; have vl := L1.lt; have c1 := Kept.cell K1 c0; have c1l := cell_ltG c1; have vl2 : w.heap.size < u1.heap.size + 1 := (by omega); have vl3 : w.heap.size < u1.heap.size + 1 + 1 := (by omega); have c1l2 : T < u1.heap.size + 1 := (by omega); have c1l3 : T < u1.heap.size + 1 + 1 := (by omega); have e1 := Kept.cell K1 e0; have e1l := cell_ltG e1; have e1l2 : lg < u1.heap.size + 1 := (by omega); have e1l3 : lg < u1.heap.size + 1 + 1 := (by omega); (try dsimp only)) | go_values | go_skip | go_guarded | go_step | go_upon)
          go_at_call 42
          refine (HOP.out _ (((K1.alloc _).alloc _).alloc _)).mono ?_
          rintro e y1 ⟨rfl, k2⟩
          rw [qo]
          have KY : Kept w y1 := (((K1.alloc _).alloc _).alloc _).trans k2
          have L2 := L1.kept ((((But.refl _ _ _).alloc _).alloc _).alloc _ |>.trans k2)
          clear v0 v1 v2 v3 v4 v5 v6
          have v3 := L2.cell 3 rfl
          have e2 := Kept.cell KY e0
          (try dsimp only)
          repeat (first | go_values | go_skip | go_guarded | go_step | go_upon)
          go_ret
          exact ⟨rfl, KY⟩
        | true =>
          go_enter Try.func62, Try.ntmps62
          repeat (first | (go_at_call 61; refine (HAX.out _).mono ?_; rintro e u1 ⟨rfl, k1⟩; have K1 : Kept w u1 := ((But.refl _ _ _).alloc _).trans k1; have L1 := (Loc.new w [.int .i64 (A : Int), .int .i64 (B : Int), .int .i64 (D : Int), .slice (some ⟨lg, lo_, none⟩) l.length cap, .int .i64 (way : Int), .int .i64 (at_ : Int), .slice (some ⟨T, 0, none⟩) 64 64] 63).kept k1; have v0 := L1.cell 0 rfl; have v1 := L1.cell 1 rfl; have v2 := L1.cell 2 rfl; have v3 := L1.cell 3 rfl; have v4 := L1.cell 4 rfl; have v5 := L1.cell 5 rfl; have v6 := L1.cell 6 rfl; have vl := L1.lt; have c1 := Kept.cell K1 c0; have c1l := cell_ltG c1; have vl2 : w.heap.size < u1.heap.size + 1 := (by omega); have vl3 : w.heap.size < u1.heap.size + 1 + 1 := (by omega); have c1l2 : T < u1.heap.size + 1 := (by omega); have c1l3 : T < u1.heap.size + 1 + 1 := (by omega); have e1 := Kept.cell K1 e0; have e1l := cell_ltG e1; have e1l2 : lg < u1.heap.size + 1 := (by omega); have e1l3 : lg < u1.heap.size + 1 + 1 := (by omega); (try dsimp only)) | go_values | go_skip | go_guarded | go_step | go_upon)
          go_at_call 42
          refine (HOP.out _ (((K1.alloc _).alloc _).alloc _)).mono ?_
          rintro e y1 ⟨rfl, k2⟩
          rw [qo]
          have KY : Kept w y1 := (((K1.alloc _).alloc _).alloc _).trans k2
          have L2 := L1.kept ((((But.refl _ _ _).alloc _).alloc _).alloc _ |>.trans k2)
          clear v0 v1 v2 v3 v4 v5 v6
          have v3 := L2.cell 3 rfl
          have e2 := Kept.cell KY e0
          (try dsimp only)
          repeat (first | go_values | go_skip | go_guarded | go_step | go_upon)
          go_ret
          exact ⟨rfl, KY⟩

end Go.Proofs.Ytnfkgnbhdhpnmaa
