/-
  NextFocus of the program.
-/
import Derived.Test.YtaofilinejanjaaFocI18
namespace Go.Proofs.Ytaofilinejanjaa
open Go.ChangeShapes Go.WideShapes Go.ChangeAt Go.RowKit

set_option maxRecDepth 100000
set_option linter.unusedVariables false

set_option maxHeartbeats 16000000 in
theorem ifoc (l : List PlacedD) (at' way : Int) (v : Value) (w : World) (hv : PlacedAt w v l) (hn : l.length ≤ 1048576) :
    Calls Try.prog 30 #[v, .int .i64 at', .int .i64 way] w fun e w' => e = .returned (.tuple #[.int .i64 (focA l at' way).1, .bool (focA l at' way).2]) ∧ Kept w w' := by
  obtain ⟨ao, cap, hsl⟩ := row_nil hv
  subst hsl
  rcases (Classical.em (PlsP l)).symm with h1 | h1
  · have dm : dec (PlsP l) = false := dec_no h1
    have NOK : ¬ FocOk l at' way := fun h => h1 h.1
    rw [focA_no NOK]
    clear NOK
    go_enter Try.func30, Try.ntmps30
    repeat (first | (go_at_call 45; refine (igplaced l _ _ hv hn).mono ?_; rintro e w1 ⟨rfl, k1⟩; rw [dm]; dsimp only) | go_values | go_skip | go_guarded | go_step | go_upon)
    go_ret2
    exact ⟨rfl, k1⟩
  have dm : dec (PlsP l) = true := dec_yes h1
  by_cases h2 : at' < 0
  · have d2 : decide (at' < 0) = true := decide_eq_true h2
    have NOK : ¬ FocOk l at' way := fun h => by have := h.2.1; omega
    rw [focA_no NOK]
    clear NOK
    go_enter Try.func30, Try.ntmps30
    repeat (first | (go_at_call 45; refine (igplaced l _ _ hv hn).mono ?_; rintro e w1 ⟨rfl, k1⟩; rw [dm]; dsimp only) | go_values | go_skip | go_guarded | go_step | go_upon)
    go_ret2
    exact ⟨rfl, k1⟩
  have d2 : decide (at' < 0) = false := decide_eq_false h2
  by_cases h3 : (l.length : Int) ≤ at'
  · have d3 : decide ((l.length : Int) ≤ at') = true := decide_eq_true h3
    have NOK : ¬ FocOk l at' way := fun h => by have := h.2.1; omega
    rw [focA_no NOK]
    clear NOK
    go_enter Try.func30, Try.ntmps30
    repeat (first | (go_at_call 45; refine (igplaced l _ _ hv hn).mono ?_; rintro e w1 ⟨rfl, k1⟩; rw [dm]; dsimp only) | go_values | go_skip | go_guarded | go_step | go_upon)
    go_ret2
    exact ⟨rfl, k1⟩
  have d3 : decide ((l.length : Int) ≤ at') = false := decide_eq_false h3
  by_cases h4 : way < 0
  · have d4 : decide (way < 0) = true := decide_eq_true h4
    have NOK : ¬ FocOk l at' way := fun h => by have := h.2.2; omega
    rw [focA_no NOK]
    clear NOK
    go_enter Try.func30, Try.ntmps30
    repeat (first | (go_at_call 45; refine (igplaced l _ _ hv hn).mono ?_; rintro e w1 ⟨rfl, k1⟩; rw [dm]; dsimp only) | go_values | go_skip | go_guarded | go_step | go_upon)
    go_ret2
    exact ⟨rfl, k1⟩
  have d4 : decide (way < 0) = false := decide_eq_false h4
  by_cases h5 : 3 < way
  · have d5 : decide (3 < way) = true := decide_eq_true h5
    have NOK : ¬ FocOk l at' way := fun h => by have := h.2.2; omega
    rw [focA_no NOK]
    clear NOK
    go_enter Try.func30, Try.ntmps30
    repeat (first | (go_at_call 45; refine (igplaced l _ _ hv hn).mono ?_; rintro e w1 ⟨rfl, k1⟩; rw [dm]; dsimp only) | go_values | go_skip | go_guarded | go_step | go_upon)
    go_ret2
    exact ⟨rfl, k1⟩
  have d5 : decide (3 < way) = false := decide_eq_false h5
  obtain ⟨t, rfl⟩ : ∃ t : Nat, at' = (t : Int) := ⟨at'.toNat, by omega⟩
  have htl : t < l.length := by omega
  obtain ⟨a, ha⟩ : ∃ p, l[t]? = some p := ⟨_, List.getElem?_eq_getElem htl⟩
  rw [focA_yes ⟨h1, by omega, by omega⟩ ha]
  have hao := h1.2 t htl a ha
  have hw : 0 ≤ way ∧ way ≤ 3 := by omega
  have H1 : Hid (PlsP l) := h1
  clear h1
  go_enter Try.func30, Try.ntmps30
  repeat (first | (go_at_call 45; refine (igplaced l _ _ hv hn).mono ?_; rintro e w1 ⟨rfl, k1⟩; rw [dm]; dsimp only) | go_values | go_skip | go_guarded | go_step | go_upon)
  clear dm d2 d3 d4 d5 h2 h3 h4 h5
  go_loopw [8, 9, 38] (fun bb ll i wr => ∃ (k : Nat) (BL : Int × Int), k ≤ l.length ∧ i = .int .i64 k ∧ bb = .int .i64 BL.1 ∧ ll = .int .i64 BL.2 ∧ Hid (focK l a way k = BL) ∧ -1 ≤ BL.1 ∧ BL.1 ≤ 1048576 ∧ Kept w wr) (fun bb ll i _ => l.length - (intOf i).toNat)
  case atStart => exact ⟨0, (-1, 0), by omega, rfl, rfl, rfl, (show focK l a way 0 = (-1, 0) from rfl), by omega, by omega, k1⟩
  case round =>
    obtain ⟨j, ⟨B, M⟩, hk, rfl, rfl, rfl, HF, hb1, hb2, hkp⟩ := hrel
    dsimp only at hb1 hb2
    by_cases hlt : j < l.length
    · obtain ⟨p, hp⟩ : ∃ p, l[j]? = some p := ⟨_, List.getElem?_eq_getElem hlt⟩
      have hpo := H1.out.2 j hlt p hp
      obtain ⟨b, o, cap', ee, c0, c1, c2, c3⟩ := placed_get (hv.kept hkp) hp
      cases ee
      obtain ⟨b', o', cap2, ee, r0, r1, r2, r3⟩ := placed_get (hv.kept hkp) ha
      cases ee
      have hbw : b < wr.heap.size := World.block_lt_of_cell? _ _ c0
      have AST : Hid (∀ W, Calls Try.prog 46 #[.agg #[.int .i64 a.1, .int .i64 a.2.1, .int .i64 a.2.2.1, .int .i64 a.2.2.2], .agg #[.int .i64 p.1, .int .i64 p.2.1, .int .i64 p.2.2.1, .int .i64 p.2.2.2], .int .i64 way] W fun e w' => e = .returned (.tuple #[.int .i64 (alM way a p), .int .i64 (acM way a p)]) ∧ Kept W w') := fun W => isteps a p way hao hpo hw W
      have hal : (-200000 ≤ alM way a p ∧ alM way a p ≤ 200000) ∧ (-200000 ≤ acM way a p ∧ acM way a p ≤ 200000) := by
        have := dx_bd hao hpo
        unfold alM acM
        repeat' split
        all_goals omega
      have HFA : Hid (faM way a p = alM way a p + 2 * absM (acM way a p)) := show faM way a p = alM way a p + 2 * absM (acM way a p) from rfl
      have HY := @foc_yes l a p way j hp
      have HNN := @foc_no l a p way j hp
      rw [HF.out] at HY HNN
      have HYS : Hid (0 < alM way a p → (B = -1 ∨ faM way a p < M) → focK l a way (j + 1) = ((j : Int), faM way a p)) := HY
      have HNS : Hid (¬ (0 < alM way a p ∧ (B = -1 ∨ faM way a p < M)) → focK l a way (j + 1) = (B, M)) := HNN
      have HK : Hid (Kept w wr) := hkp
      have hat1 : (0 : Int) ≤ (t : Int) := by omega
      have hat2 : (t : Int) < (l.length : Int) := by omega
      clear hkp hv hp HY HNN HF
      generalize alM way a p = AL at *
      generalize acM way a p = AC at *
      generalize faM way a p = FA at *
      obtain ⟨hal1, hac⟩ := hal
      have hab := abs_bd hac
      have ASZ : Hid (∀ W, Calls Try.prog 47 #[.int .i64 AC] W fun e w' => e = .returned (.int .i64 (absM AC)) ∧ w' = W) := fun W => isize AC W (by omega)
      generalize absM AC = Q at *
      obtain ⟨a0, a1, a2, a3⟩ := a
      obtain ⟨p0, p1, p2, p3⟩ := p
      dsimp only at c0 c1 c2 c3 r0 r1 r2 r3 AST
      have e1 : IntKind.i64.wrap (2 * Q) = 2 * Q := IntWalk.i64_in _ (by omega)
      have e2 : IntKind.i64.wrap (AL + 2 * Q) = FA := by rw [IntWalk.i64_in _ (by omega)]; exact HFA.out.symm
      have hfb : -1000000 ≤ FA ∧ FA ≤ 1000000 := by have := HFA.out; omega
      clear hac hab hpo hao
      by_cases q1 : 0 < AL
      · have d1 : decide (0 < AL) = true := decide_eq_true q1
        by_cases q2 : B = -1
        · have d2 : (B == -1) = true := by simp [q2]
          have HN : Hid (focK l (a0, a1, a2, a3) way (j + 1) = ((j : Int), FA)) := HYS.out q1 (.inl q2)
          clear q2
          repeat (first | go_values | go_skip | go_guarded | go_step | go_upon)
          refine wp_region_kept (by kernel_rfl) (by kernel_rfl) ?_
          have hcc := @KW.cell_eq
          repeat (go_big_quiet_step (first | (go_at_call 46; with_reducible exact kw_call (AST.out _)) | fail))
          refine wpQuiet_nil ?_
          rintro w5 ⟨⟨w8, k5⟩, h9⟩
          change w5 = w8 at h9
          subst h9
          clear hcc
          repeat (first | (go_at_call 47; with_reducible refine (ASZ.out _).mono ?_; rintro e w3 ⟨rfl, hw3⟩; rw [hw3]; clear hw3 w3; dsimp only) | go_values | go_skip | go_guarded | go_step | go_upon)
          exact ⟨⟨j + 1, ((j : Int), FA), hlt, by go_num, rfl, rfl, HN, by dsimp only; omega, by dsimp only; omega, (HK.out.alloc _).trans k5⟩, by simp [intOf]; omega⟩
        · have d2 : (B == -1) = false := by simp [q2]
          by_cases q3 : FA < M
          · have d3 : decide (FA < M) = true := decide_eq_true q3
            have HN : Hid (focK l (a0, a1, a2, a3) way (j + 1) = ((j : Int), FA)) := HYS.out q1 (.inr q3)
            clear q2
            repeat (first | go_values | go_skip | go_guarded | go_step | go_upon)
            refine wp_region_kept (by kernel_rfl) (by kernel_rfl) ?_
            have hcc := @KW.cell_eq
            repeat (go_big_quiet_step (first | (go_at_call 46; with_reducible exact kw_call (AST.out _)) | fail))
            refine wpQuiet_nil ?_
            rintro w5 ⟨⟨w8, k5⟩, h9⟩
            change w5 = w8 at h9
            subst h9
            clear hcc
            repeat (first | (go_at_call 47; with_reducible refine (ASZ.out _).mono ?_; rintro e w3 ⟨rfl, hw3⟩; rw [hw3]; clear hw3 w3; dsimp only) | go_values | go_skip | go_guarded | go_step | go_upon)
            exact ⟨⟨j + 1, ((j : Int), FA), hlt, by go_num, rfl, rfl, HN, by dsimp only; omega, by dsimp only; omega, (HK.out.alloc _).trans k5⟩, by simp [intOf]; omega⟩
          · have d3 : decide (FA < M) = false := decide_eq_false q3
            have HN : Hid (focK l (a0, a1, a2, a3) way (j + 1) = (B, M)) := HNS.out (fun h => h.2.elim q2 q3)
            clear q2
            repeat (first | go_values | go_skip | go_guarded | go_step | go_upon)
            refine wp_region_kept (by kernel_rfl) (by kernel_rfl) ?_
            have hcc := @KW.cell_eq
            repeat (go_big_quiet_step (first | (go_at_call 46; with_reducible exact kw_call (AST.out _)) | fail))
            refine wpQuiet_nil ?_
            rintro w5 ⟨⟨w8, k5⟩, h9⟩
            change w5 = w8 at h9
            subst h9
            clear hcc
            repeat (first | (go_at_call 47; with_reducible refine (ASZ.out _).mono ?_; rintro e w3 ⟨rfl, hw3⟩; rw [hw3]; clear hw3 w3; dsimp only) | go_values | go_skip | go_guarded | go_step | go_upon)
            exact ⟨⟨j + 1, (B, M), hlt, by go_num, rfl, rfl, HN, hb1, hb2, (HK.out.alloc _).trans k5⟩, by simp [intOf]; omega⟩
      · have d1 : decide (0 < AL) = false := decide_eq_false q1
        have HN : Hid (focK l (a0, a1, a2, a3) way (j + 1) = (B, M)) := HNS.out (fun h => q1 h.1)
        repeat (first | go_values | go_skip | go_guarded | go_step | go_upon)
        refine wp_region_kept (by kernel_rfl) (by kernel_rfl) ?_
        have hcc := @KW.cell_eq
        repeat (go_big_quiet_step (first | (go_at_call 46; with_reducible exact kw_call (AST.out _)) | fail))
        refine wpQuiet_nil ?_
        rintro w5 ⟨⟨w8, k5⟩, h9⟩
        change w5 = w8 at h9
        subst h9
        clear hcc
        repeat (first | (go_at_call 47; with_reducible refine (ASZ.out _).mono ?_; rintro e w3 ⟨rfl, hw3⟩; rw [hw3]; clear hw3 w3; dsimp only) | go_values | go_skip | go_guarded | go_step | go_upon)
        exact ⟨⟨j + 1, (B, M), hlt, by go_num, rfl, rfl, HN, hb1, hb2, (HK.out.alloc _).trans k5⟩, by simp [intOf]; omega⟩
    · have hke : j = l.length := by omega
      subst hke
      have HK : Hid (Kept w wr) := hkp
      clear hkp hv
      repeat (first | go_values | go_skip | go_guarded | go_step | go_upon)
      go_ret2
      exact ⟨by rw [HF.out]; rfl, HK.out⟩

end Go.Proofs.Ytaofilinejanjaa
