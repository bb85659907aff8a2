/-
  What MulTurn and DivTurn answer, in the program and in its specification: the same at every argument.
-/
import Derived.Test.YthbhoppmdcfgeaaTurn
import Derived.Deep.RegionWith
namespace Go.Proofs.Ythbhoppmdcfgeaa
open Go.ChangeShapes Go.WideShapes Go.ChangeAt Go.RowKit Ieee

theorem gtrans {a b c : World} (h : Grown a b) (k : Grown b c) : Grown a c :=
  ⟨World.keptBut_trans h.1 k.1, fun x => (k.2.1 x).trans (h.2.1 x), Nat.le_trans h.2.2 k.2.2⟩
theorem gblock {W w1 : World} (h : Grown W w1) (b : Nat) (hb : b < W.heap.size) : w1.heap[b]? = W.heap[b]? := by
  have hk := h.1.2.2 b hb
  cases e1 : W.heap[b]? with
  | none => rw [e1] at hk; simpa using hk
  | some o =>
    rw [e1] at hk
    cases e2 : w1.heap[b]? with
    | none => rw [e2] at hk; cases o <;> simp at hk
    | some o' =>
      rw [e2] at hk
      cases o <;> cases o' <;> simp at hk ⊢ <;> first
        | exact hk
        | (obtain ⟨h1, h2, h3, h4⟩ := hk; exact ⟨Array.ext_getElem? h4, h1, h2⟩)
        | skip
theorem gcell {W w1 : World} (h : Grown W w1) : (∀ b o, b < W.heap.size → w1.cell? ⟨b, o, none⟩ = W.cell? ⟨b, o, none⟩) :=
  fun b o hb => World.cell?_of_block (w := W) (a := ⟨b, o, none⟩) (gblock h b hb)

def turnO (a b : Option Nat) : Nat × Nat × Bool :=
  match a, b with
  | some r, some i => turnM r i
  | _, _ => (0, 0, false)
theorem turnM_nrm (r i : Nat) : turnM r i = turnO (nrm r) (nrm i) := by
  have hf : ∀ x, nanB x = true → fin x = false := by intro x hx; simp [nanB, fin] at *; omega
  unfold nrm turnO
  cases hr : nanB r <;> cases hi : nanB i
  · rfl
  · simp [turnM, hf i hi]
  · simp [turnM, hf r hr]
  · simp [turnM, hf r hr]

def mulO (a b c d : Nat) : Nat × Nat × Bool := turnO (opN .sub (opN .mul (nrm a) (nrm c)) (opN .mul (nrm b) (nrm d))) (opN .add (opN .mul (nrm a) (nrm d)) (opN .mul (nrm b) (nrm c)))
def mulM (a b c d : Nat) : Nat × Nat × Bool := if (good a && good b) && (good c && good d) then mulO a b c d else (0, 0, false)

abbrev turnA (a b : Nat) : Value := .agg #[.float .f64 a, .float .f64 b]

set_option maxHeartbeats 1000000 in
theorem specMul (a b c d : Nat) (ha : a < 18446744073709551616) (hb : b < 18446744073709551616) (hc : c < 18446744073709551616) (hd : d < 18446744073709551616) (w : World) :
    Calls Try.prog 28 #[turnA a b, turnA c d] w fun e w' => e = .returned (turnV (mulM a b c d)) ∧ Grown w w' := by
  cases h1 : (good a && good b)
  · go_enter Try.func28, Try.ntmps28
    go_wp2_with (go_at_call 56; refine (l2Good a b ha hb _).mono ?_; rw [h1]; rintro e w1 ⟨rfl, rfl⟩)
    go_returns
    exact ⟨by simp [mulM, h1], by go_grown⟩
  · cases h2 : (good c && good d)
    · go_enter Try.func28, Try.ntmps28
      go_wp2_with fail
      go_at_call 56; refine (l2Good a b ha hb _).mono ?_; rw [h1]; rintro e w1 ⟨rfl, rfl⟩
      go_wp2_with fail
      go_at_call 56; refine (l2Good c d hc hd _).mono ?_; rw [h2]; rintro e w1 ⟨rfl, rfl⟩
      go_wp2
      go_returns
      exact ⟨by simp [mulM, h1, h2], by go_grown⟩
    · go_enter Try.func28, Try.ntmps28
      go_wp2_with fail
      go_at_call 56; refine (l2Good a b ha hb _).mono ?_; rw [h1]; rintro e w1 ⟨rfl, rfl⟩
      go_wp2_with fail
      go_at_call 56; refine (l2Good c d hc hd _).mono ?_; rw [h2]; rintro e w1 ⟨rfl, rfl⟩
      go_wp2_with fail
      go_at_call 57; refine (l2Turn _ _ (fop_lt _ _ _ _) (fop_lt _ _ _ _) _).mono ?_; rintro e w1 ⟨rfl, rfl⟩
      go_wp2
      go_returns
      refine ⟨?_, by repeat (first | with_reducible exact Grown.refl _ | with_reducible apply drewN_grown | with_reducible apply Grown.drew | with_reducible apply Grown.alloc)⟩
      simp only [turnM_nrm, nrm_fop, mulM, mulO, h1, h2, Bool.and_self, if_true]

set_option maxHeartbeats 1000000 in
theorem implMul (a b c d : Nat) (ha : a < 18446744073709551616) (hb : b < 18446744073709551616) (hc : c < 18446744073709551616) (hd : d < 18446744073709551616) (w : World) :
    Calls Try.prog 17 #[turnA a b, turnA c d] w fun e w' => e = .returned (turnV (mulM a b c d)) ∧ Grown w w' := by
  cases h1 : (good a && good b)
  · go_enter Try.func17, Try.ntmps17
    go_wp2_with (go_at_call 44; refine (goodTurn a b ha hb _).mono ?_; rw [h1]; rintro e w1 ⟨rfl, rfl⟩)
    go_returns
    exact ⟨by simp [mulM, h1], by go_grown⟩
  · cases h2 : (good c && good d)
    · go_enter Try.func17, Try.ntmps17
      go_wp2_with fail
      go_at_call 44; refine (goodTurn a b ha hb _).mono ?_; rw [h1]; rintro e w1 ⟨rfl, rfl⟩
      go_wp2_with fail
      go_at_call 44; refine (goodTurn c d hc hd _).mono ?_; rw [h2]; rintro e w1 ⟨rfl, rfl⟩
      go_wp2
      go_returns
      exact ⟨by simp [mulM, h1, h2], by go_grown⟩
    · go_enter Try.func17, Try.ntmps17
      go_wp2_with fail
      go_at_call 44; refine (goodTurn a b ha hb _).mono ?_; rw [h1]; rintro e w1 ⟨rfl, rfl⟩
      go_wp2_with fail
      go_at_call 44; refine (goodTurn c d hc hd _).mono ?_; rw [h2]; rintro e w1 ⟨rfl, rfl⟩
      go_wp2_with fail
      go_region_with (first
        | (go_at_call 47; refine (complexOf _ _ _).mono ?_; rintro e w1 ⟨rfl, rfl⟩)
        | (go_at_call 46; refine (timesTold _ _ _ _ _).mono ?_; rintro e w1 ⟨⟨r, i, rfl, hr, hi, hr', hi'⟩, ⟨n, rfl⟩⟩)
        | (go_at_call 45; refine (turnOf _ _ (by assumption) (by assumption) _).mono ?_; rintro e w1 ⟨rfl, rfl⟩))
      all_goals
        go_wp2
        go_returns
        refine ⟨?_, by repeat (first | with_reducible exact Grown.refl _ | with_reducible apply drewN_grown | with_reducible apply Grown.drew | with_reducible apply Grown.alloc)⟩
        simp only [turnM_nrm, hr, hi, mulM, mulO, h1, h2, Bool.and_self, if_true]

/-- The quotient: d is what stands below. -/
def divD (c d : Nat) : Option Nat := opN .add (opN .mul (nrm c) (nrm c)) (opN .mul (nrm d) (nrm d))
def divX (a b c d : Nat) : Option Nat := opN .add (opN .mul (nrm a) (nrm c)) (opN .mul (nrm b) (nrm d))
def divY (a b c d : Nat) : Option Nat := opN .sub (opN .mul (nrm b) (nrm c)) (opN .mul (nrm a) (nrm d))
/-- Finite, and no nought. -/
def finO (o : Option Nat) : Bool := match o with
  | some x => fin x
  | none => false
def zeroO (o : Option Nat) : Bool := match o with
  | some x => zeroB x
  | none => false
def divM (a b c d : Nat) : Nat × Nat × Bool :=
  if (good a && good b) && (good c && good d) then
    (if zeroO (divD c d) || !finO (divD c d) then (0, 0, false) else turnO (opN .quo (divX a b c d) (divD c d)) (opN .quo (divY a b c d) (divD c d)))
  else (0, 0, false)
theorem finO_nrm (x : Nat) : finO (nrm x) = fin x := by
  unfold nrm
  cases h : nanB x
  · rfl
  · simp [nanB, fin, finO] at *; omega
theorem zeroO_nrm (x : Nat) : zeroO (nrm x) = zeroB x := by
  unfold nrm
  cases h : nanB x
  · rfl
  · simp [nanB, zeroB, zeroO] at *; omega
theorem quo_fin (x d : Option Nat) (hd : finO d = true) (hz : zeroO d = false) (h : finO x = false) : finO (opN .quo x d) = false := by
  cases d with
  | none => simp [finO] at hd
  | some d =>
    cases x with
    | none => rfl
    | some x =>
      simp only [finO, zeroO] at hd hz h
      show finO (floatBits .quo .f64 x d) = false
      have hr : floatBits .quo .f64 x d = ((double.read x).quotient 54 (double.read d)).map double.write := rfl
      rw [hr]
      rcases read_cases d with ⟨n, f, hq, hy1, _, _, _, hn⟩ | ⟨hq, hq2⟩ | ⟨t, hq, hq2⟩
      · rcases read_cases x with ⟨m, e, hp, hp2, _⟩ | ⟨hp, _⟩ | ⟨t, hp, _⟩
        · simp [fin] at h; omega
        · rw [hp, hq]
          simp only [Datum.quotient, Option.map_some, Format.write, finO]
          have := (word_read ((x / 9223372036854775808 % 2 == 1) ^^ (d / 9223372036854775808 % 2 == 1)) 9218868437227405312 (by omega)).1
          have e2 : double.infRung = 9218868437227405312 := rfl
          rw [e2, fin, this]; rfl
        · rw [hp, hq]; rfl
      · simp [fin] at hd; omega
      · simp [fin] at hd; omega
theorem turnO_bad (x y : Option Nat) (h : finO x = false ∨ finO y = false) : turnO x y = (0, 0, false) := by
  cases x with
  | none => rfl
  | some x =>
    cases y with
    | none => rfl
    | some y =>
      simp only [finO] at h
      simp only [turnO, turnM]
      rcases h with h | h <;> simp [h]

set_option maxHeartbeats 2000000 in
theorem implDiv (a b c d : Nat) (ha : a < 18446744073709551616) (hb : b < 18446744073709551616) (hc : c < 18446744073709551616) (hd : d < 18446744073709551616) (w : World) :
    Calls Try.prog 32 #[turnA a b, turnA c d] w fun e w' => e = .returned (turnV (divM a b c d)) ∧ Grown w w' := by
  have olt : ∀ (op : BinOp) (x y : Option Nat), ∀ r, opN op x y = some r → r < 18446744073709551616 := fun op x y r h => (opN_lt h).1
  have eD : opN .sub (opN .mul (nrm c) (nrm c)) (opN .mul (nrm d) (nrm (flip d))) = divD c d := by
    rw [opN_mul_flip _ _ hd, opN_sub_flip _ _ (olt _ _ _)]; rfl
  have eX : opN .sub (opN .mul (nrm a) (nrm c)) (opN .mul (nrm b) (nrm (flip d))) = divX a b c d := by
    rw [opN_mul_flip _ _ hd, opN_sub_flip _ _ (olt _ _ _)]; rfl
  have eY : opN .add (opN .mul (nrm a) (nrm (flip d))) (opN .mul (nrm b) (nrm c)) = divY a b c d := by
    rw [opN_mul_flip _ _ hd, opN_add_flip _ _ (olt _ _ _)]; rfl
  cases h1 : (good a && good b)
  · go_enter Try.func32, Try.ntmps32
    go_wp2_with (go_at_call 44; refine (goodTurn a b ha hb _).mono ?_; rw [h1]; rintro e w1 ⟨rfl, rfl⟩)
    go_returns
    exact ⟨by simp [divM, h1], by go_grown⟩
  · cases h2 : (good c && good d)
    · go_enter Try.func32, Try.ntmps32
      go_wp2_with fail
      go_at_call 44; refine (goodTurn a b ha hb _).mono ?_; rw [h1]; rintro e w1 ⟨rfl, rfl⟩
      go_wp2_with fail
      go_at_call 44; refine (goodTurn c d hc hd _).mono ?_; rw [h2]; rintro e w1 ⟨rfl, rfl⟩
      go_wp2
      go_returns
      exact ⟨by simp [divM, h1, h2], by go_grown⟩
    · go_enter Try.func32, Try.ntmps32
      go_wp2_with fail
      go_at_call 44; refine (goodTurn a b ha hb _).mono ?_; rw [h1]; rintro e w1 ⟨rfl, rfl⟩
      go_wp2_with fail
      go_at_call 44; refine (goodTurn c d hc hd _).mono ?_; rw [h2]; rintro e w1 ⟨rfl, rfl⟩
      go_wp2_with fail
      go_at_call 47; refine (complexOf _ _ _).mono ?_; rintro e w1 ⟨rfl, rfl⟩
      go_wp2_with fail
      go_at_call 47; refine (complexOf _ _ _).mono ?_; rintro e w1 ⟨rfl, rfl⟩
      go_wp2_with fail
      go_at_call 58; refine (mirrored _ _ _).mono ?_; rintro e w1 ⟨rfl, rfl⟩
      go_wp2_with fail
      go_at_call 46; refine (timesTold _ _ _ _ _).mono ?_; rintro e w1 ⟨⟨r, i, rfl, hr, hi, hr', hi'⟩, ⟨n, rfl⟩⟩
      go_wp2_with fail
      go_at_call 58; refine (mirrored _ _ _).mono ?_; rintro e w1 ⟨rfl, rfl⟩
      go_wp2_with fail
      go_at_call 46; refine (timesTold _ _ _ _ _).mono ?_; rintro e w1 ⟨⟨x, y, rfl, hx, hy, hx', hy'⟩, ⟨m, rfl⟩⟩
      rw [eD] at hx; rw [eX] at hr; rw [eY] at hi
      clear hy eD eX eY olt
      cases hz : zeroB x
      · cases hf : fin x
        · go_wp2_with (go_at_call 40; refine (isFinite x hx' _).mono ?_; rw [hf]; rintro e w1 ⟨rfl, rfl⟩)
          go_returns
          refine ⟨?_, by repeat (first | with_reducible exact Grown.refl _ | with_reducible apply drewN_grown | with_reducible apply Grown.drew | with_reducible apply Grown.alloc)⟩
          simp only [divM, h1, h2, ← hx, finO_nrm, hf, Bool.and_self, if_true, Bool.not_false, Bool.or_true]
        · go_wp2_with fail
          go_at_call 40; refine (isFinite x hx' _).mono ?_; rw [hf]; rintro e w1 ⟨rfl, rfl⟩
          go_wp2_with fail
          go_at_call 45; refine (turnOf _ _ (fop_lt _ _ _ _) (fop_lt _ _ _ _) _).mono ?_; rintro e w1 ⟨rfl, rfl⟩
          go_wp2
          go_returns
          refine ⟨?_, by repeat (first | with_reducible exact Grown.refl _ | with_reducible apply drewN_grown | with_reducible apply Grown.drew | with_reducible apply Grown.alloc)⟩
          simp only [turnM_nrm, nrm_fop, hr, hi, hx, divM, h1, h2, Bool.and_self, if_true]
          simp [← hx, finO_nrm, zeroO_nrm, hf, hz]
      · go_wp2
        go_returns
        refine ⟨?_, by repeat (first | with_reducible exact Grown.refl _ | with_reducible apply drewN_grown | with_reducible apply Grown.drew | with_reducible apply Grown.alloc)⟩
        simp only [divM, h1, h2, ← hx, zeroO_nrm, hz, Bool.and_self, if_true, Bool.true_or]
end Go.Proofs.Ythbhoppmdcfgeaa
