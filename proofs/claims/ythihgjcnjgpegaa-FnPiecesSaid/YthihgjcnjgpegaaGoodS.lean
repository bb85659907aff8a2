/-
  What the specification's GoodClock answers.
-/
import Derived.Test.YthihgjcnjgpegaaGood0
namespace Go.Proofs.Ythihgjcnjgpegaa
open Go.ChangeShapes Go.WideShapes Go.ChangeAt Go.RowKit

set_option maxRecDepth 100000
set_option maxHeartbeats 8000000 in
theorem specGood (c : ClockD) (v : Value) (w : World) (hv : ClockAt w v c) :
    Calls Try.prog 16 #[v] w fun e w' => e = .returned (.bool (goodC c)) ∧ Kept w w' := by
  obtain ⟨ao, cap, hfm⟩ := hv.form
  subst hfm
  have hr := hv.row
  obtain ⟨now, l⟩ := c
  dsimp only at *
  cases q1 : inB now 0 100000 with
  | false =>
    go_enter Try.func16, Try.ntmps16
    repeat (first | (go_at_call 46; refine (l1In _ _ _ _).mono ?_; rintro e w' ⟨rfl, rfl⟩; (first | rw [q1]); dsimp only) | go_values | go_skip | go_guarded | go_step | go_upon)
    go_ret
    exact ⟨ret_bool (by simp [goodC, q1]), (But.refl _ _ _).alloc _⟩
  | true =>
    by_cases hl : l.length ≤ 20
    case neg =>
      have q2 : decide (20 < (l.length : Int)) = true := by simp; omega
      go_enter Try.func16, Try.ntmps16
      repeat (first | (go_at_call 46; refine (l1In _ _ _ _).mono ?_; rintro e w' ⟨rfl, rfl⟩; (first | rw [q1]); dsimp only) | go_values | go_skip | go_guarded | go_step | go_upon)
      go_ret
      exact ⟨ret_bool (by simp [goodC, hl]), (But.refl _ _ _).alloc _⟩
    case pos =>
      have q2 : decide (20 < (l.length : Int)) = false := by simp; omega
      obtain ⟨G, hG⟩ : ∃ G, goodL now (-1) l = G := ⟨_, rfl⟩
      have hres : goodC (now, l) = G := by simp [goodC, q1, hl, hG]
      rw [hres]
      clear hres
      go_enter Try.func16, Try.ntmps16
      go_wp2_with (go_at_call 46; refine (l1In _ _ _ _).mono ?_; rintro e w' ⟨rfl, rfl⟩; (first | rw [q1]))
      have hnow := (inB_true.1 q1)
      clear q1 q2
      go_loopw [3, 4, 18] (fun _ _ i wr => ∃ k : Nat, k ≤ l.length ∧ i = .int .i64 k ∧ goodL now (lastOf l k) (l.drop k) = G ∧ -1 ≤ lastOf l k ∧ Kept (w.alloc (.cells #[.int .i64 now, .slice ao l.length cap] 25)) wr) (fun _ _ i _ => l.length - (intOf i).toNat)
      case atStart => exact ⟨0, by omega, rfl, hG, by simp [lastOf], But.refl _ _ _⟩
      case round =>
        obtain ⟨k, hk, rfl, hg, hm1, hkp⟩ := hrel
        have K0 : Kept w wr := ((But.refl _ _ w).alloc _).trans hkp
        by_cases hlt : k < l.length
        · obtain ⟨⟨a, b, e, d⟩, hp⟩ : ∃ p, l[k]? = some p := ⟨_, List.getElem?_eq_getElem hlt⟩
          obtain ⟨g, o, cap1, ee, c0, c1, c2, c3⟩ := timer_get (hr.kept K0) hp
          cases ee
          dsimp only at c0 c1 c2 c3
          have L0 := (Loc.new w [.int .i64 now, .slice (some ⟨g, o, none⟩) l.length cap] 25).kept hkp
          have a0 := L0.cell 0 rfl
          have a1 := L0.cell 1 rfl
          have hw0 := L0.lt
          have hgw : g < wr.heap.size := World.block_lt_of_cell? _ _ c0
          rw [goodL_step hp] at hg
          -- the one ahead
          obtain ⟨last, hlast⟩ : ∃ x, lastOf l k = x := ⟨_, rfl⟩
          rw [hlast] at hg hm1
          have HG : Hid (_ = G) := hg
          have HK : Hid (Kept w wr) := K0
          have HKP : Hid _ := hkp
          have HP : Hid _ := hp
          clear hg hkp hp L0 hG
          have hahead : k = 0 ∧ last = -1 ∨ 0 < k ∧ wr.cell? ⟨g, o + (k - 1) * 4, none⟩ = some (.int .i64 last) := by
            rcases Nat.eq_zero_or_pos k with h | h
            · left; subst h; exact ⟨rfl, hlast.symm⟩
            · right
              refine ⟨h, ?_⟩
              obtain ⟨⟨a', b', e', d'⟩, hp'⟩ : ∃ p, l[k - 1]? = some p := ⟨_, List.getElem?_eq_getElem (by omega)⟩
              obtain ⟨g', o', cap1', ee, x0, _⟩ := timer_get (hr.kept K0) hp'
              cases ee
              have := lastOf_succ hp'
              rw [show k - 1 + 1 = k by omega, hlast] at this
              rw [this]
              exact x0
          clear K0 hlast
          have HH : Hid _ := hahead
          clear hahead
          cases r1 : inB a 0 999 with
          | false =>
            repeat (first | go_values | go_skip | go_guarded | go_step | go_upon)
            refine wp_region_kept (by kernel_rfl) (by kernel_rfl) ?_
            have hcc := KW.cell_eq (wr.alloc (.cells #[.int .i64 a, .int .i64 b, .int .i64 e, .int .i64 d] 46))
            repeat (go_big_quiet_step (first | (go_at_call 46; (try rw [hnw]); with_reducible exact kw_same (calls_bool r1 (l1In a 0 999 _)))))
            refine wpQuiet_nil ?_
            rintro _ ⟨⟨w5, k5⟩, rfl⟩
            clear hcc
            try clear hk1
            repeat (first | go_values | go_skip | go_guarded | go_step | go_upon)
            go_ret
            exact ⟨ret_bool (by rw [← HG.out]; have := inB_false.1 r1; simp; omega), (HK.out.alloc _).trans k5⟩
          | true =>
            have r1' := inB_true.1 r1
            by_cases r2 : last < a
            case neg =>
              have hk0 : 0 < k := by
                rcases HH.out with ⟨h, h'⟩ | ⟨h, _⟩
                · omega
                · exact h
              have x0 : wr.cell? ⟨g, o + (k - 1) * 4, none⟩ = some (.int .i64 last) := by
                rcases HH.out with ⟨h, h'⟩ | ⟨_, h⟩
                · omega
                · exact h
              obtain ⟨j, hj⟩ : ∃ j, k - 1 = j := ⟨_, rfl⟩
              rw [hj] at x0
              have hkj : IntKind.i64.wrap ((k : Int) - 1) = (j : Int) := by rw [IntKind.wrap_i64]; omega
              have hk1 : decide (0 < k) = true := by simpa using hk0
              have hjl : (j : Int) < (l.length : Int) := by omega
              have r2' : decide (a ≤ last) = true := by simp; omega
              repeat (first | go_values | go_skip | go_guarded | go_step | go_upon)
              refine wp_region_kept (by kernel_rfl) (by kernel_rfl) ?_
              have hcc := KW.cell_eq (wr.alloc (.cells #[.int .i64 a, .int .i64 b, .int .i64 e, .int .i64 d] 46))
              repeat (go_big_quiet_step (first | (go_at_call 46; (try rw [hnw]); with_reducible exact kw_same (calls_bool r1 (l1In a 0 999 _)))))
              refine wpQuiet_nil ?_
              rintro _ ⟨⟨w5, k5⟩, rfl⟩
              clear hcc
              try clear hk1
              repeat (first | go_values | go_skip | go_guarded | go_step | go_upon)
              go_ret
              exact ⟨ret_bool (by rw [← HG.out]; simp; omega), (HK.out.alloc _).trans k5⟩
            case pos =>
              have hnw : IntKind.i64.wrap (now + 1) = now + 1 := by rw [IntKind.wrap_i64]; omega
              rcases HH.out with ⟨hk0, _⟩ | ⟨hk0, x0⟩
              · have hk1 : decide (0 < k) = false := by simp; omega
                clear hk0
                cases r3 : inB b (now + 1) 200000 with
                | false =>
                  repeat (first | go_values | go_skip | go_guarded | go_step | go_upon)
                  refine wp_region_kept (by kernel_rfl) (by kernel_rfl) ?_
                  have hcc := KW.cell_eq (wr.alloc (.cells #[.int .i64 a, .int .i64 b, .int .i64 e, .int .i64 d] 46))
                  repeat (go_big_quiet_step (first | (go_at_call 46; (try rw [hnw]); with_reducible exact kw_same (calls_bool r1 (l1In a 0 999 _))) | (go_at_call 46; (try rw [hnw]); with_reducible exact kw_same (calls_bool r3 (l1In b (now + 1) 200000 _)))))
                  refine wpQuiet_nil ?_
                  rintro _ ⟨⟨w5, k5⟩, rfl⟩
                  clear hcc
                  try clear hk1
                  repeat (first | go_values | go_skip | go_guarded | go_step | go_upon)
                  go_ret
                  exact ⟨ret_bool (by rw [← HG.out]; simp [waitB, r3]), (HK.out.alloc _).trans k5⟩
                | true =>
                  cases r4 : inB e 0 100000 with
                  | false =>
                    repeat (first | go_values | go_skip | go_guarded | go_step | go_upon)
                    refine wp_region_kept (by kernel_rfl) (by kernel_rfl) ?_
                    have hcc := KW.cell_eq (wr.alloc (.cells #[.int .i64 a, .int .i64 b, .int .i64 e, .int .i64 d] 46))
                    repeat (go_big_quiet_step (first | (go_at_call 46; (try rw [hnw]); with_reducible exact kw_same (calls_bool r1 (l1In a 0 999 _))) | (go_at_call 46; (try rw [hnw]); with_reducible exact kw_same (calls_bool r3 (l1In b (now + 1) 200000 _))) | (go_at_call 46; (try rw [hnw]); with_reducible exact kw_same (calls_bool r4 (l1In e 0 100000 _)))))
                    refine wpQuiet_nil ?_
                    rintro _ ⟨⟨w5, k5⟩, rfl⟩
                    clear hcc
                    try clear hk1
                    repeat (first | go_values | go_skip | go_guarded | go_step | go_upon)
                    go_ret
                    exact ⟨ret_bool (by rw [← HG.out]; simp [waitB, r4]), (HK.out.alloc _).trans k5⟩
                  | true =>
                    cases r5 : inB d 1 1000 with
                    | false =>
                      repeat (first | go_values | go_skip | go_guarded | go_step | go_upon)
                      refine wp_region_kept (by kernel_rfl) (by kernel_rfl) ?_
                      have hcc := KW.cell_eq (wr.alloc (.cells #[.int .i64 a, .int .i64 b, .int .i64 e, .int .i64 d] 46))
                      repeat (go_big_quiet_step (first | (go_at_call 46; (try rw [hnw]); with_reducible exact kw_same (calls_bool r1 (l1In a 0 999 _))) | (go_at_call 46; (try rw [hnw]); with_reducible exact kw_same (calls_bool r3 (l1In b (now + 1) 200000 _))) | (go_at_call 46; (try rw [hnw]); with_reducible exact kw_same (calls_bool r4 (l1In e 0 100000 _))) | (go_at_call 46; (try rw [hnw]); with_reducible exact kw_same (calls_bool r5 (l1In d 1 1000 _)))))
                      refine wpQuiet_nil ?_
                      rintro _ ⟨⟨w5, k5⟩, rfl⟩
                      clear hcc
                      try clear hk1
                      repeat (first | go_values | go_skip | go_guarded | go_step | go_upon)
                      go_ret
                      exact ⟨ret_bool (by rw [← HG.out]; simp [waitB, r5]), (HK.out.alloc _).trans k5⟩
                    | true =>
                      cases r6 : (e == 0) with
                      | true =>
                        cases r7 : (d == 1) with
                        | false =>
                          repeat (first | go_values | go_skip | go_guarded | go_step | go_upon)
                          refine wp_region_kept (by kernel_rfl) (by kernel_rfl) ?_
                          have hcc := KW.cell_eq (wr.alloc (.cells #[.int .i64 a, .int .i64 b, .int .i64 e, .int .i64 d] 46))
                          repeat (go_big_quiet_step (first | (go_at_call 46; (try rw [hnw]); with_reducible exact kw_same (calls_bool r1 (l1In a 0 999 _))) | (go_at_call 46; (try rw [hnw]); with_reducible exact kw_same (calls_bool r3 (l1In b (now + 1) 200000 _))) | (go_at_call 46; (try rw [hnw]); with_reducible exact kw_same (calls_bool r4 (l1In e 0 100000 _))) | (go_at_call 46; (try rw [hnw]); with_reducible exact kw_same (calls_bool r5 (l1In d 1 1000 _)))))
                          refine wpQuiet_nil ?_
                          rintro _ ⟨⟨w5, k5⟩, rfl⟩
                          clear hcc
                          try clear hk1
                          repeat (first | go_values | go_skip | go_guarded | go_step | go_upon)
                          go_ret
                          exact ⟨ret_bool (by rw [← HG.out]; simp [waitB, r6, r7]), (HK.out.alloc _).trans k5⟩
                        | true =>
                          repeat (first | go_values | go_skip | go_guarded | go_step | go_upon)
                          refine wp_region_kept (by kernel_rfl) (by kernel_rfl) ?_
                          have hcc := KW.cell_eq (wr.alloc (.cells #[.int .i64 a, .int .i64 b, .int .i64 e, .int .i64 d] 46))
                          repeat (go_big_quiet_step (first | (go_at_call 46; (try rw [hnw]); with_reducible exact kw_same (calls_bool r1 (l1In a 0 999 _))) | (go_at_call 46; (try rw [hnw]); with_reducible exact kw_same (calls_bool r3 (l1In b (now + 1) 200000 _))) | (go_at_call 46; (try rw [hnw]); with_reducible exact kw_same (calls_bool r4 (l1In e 0 100000 _))) | (go_at_call 46; (try rw [hnw]); with_reducible exact kw_same (calls_bool r5 (l1In d 1 1000 _)))))
                          refine wpQuiet_nil ?_
                          rintro _ ⟨⟨w5, k5⟩, rfl⟩
                          clear hcc
                          try clear hk1
                          repeat (first | go_values | go_skip | go_guarded | go_step | go_upon)
                          refine ⟨⟨k + 1, hlt, by go_num, ?_, ?_, ?_⟩, by simp [intOf]; omega⟩
                          · rw [lastOf_succ HP.out, ← HG.out]; simp [waitB, r3, r4, r5, r6, r7]; omega
                          · rw [lastOf_succ HP.out]; dsimp only; omega
                          · exact (HKP.out.alloc _).trans k5
                      | false =>
                        repeat (first | go_values | go_skip | go_guarded | go_step | go_upon)
                        refine wp_region_kept (by kernel_rfl) (by kernel_rfl) ?_
                        have hcc := KW.cell_eq (wr.alloc (.cells #[.int .i64 a, .int .i64 b, .int .i64 e, .int .i64 d] 46))
                        repeat (go_big_quiet_step (first | (go_at_call 46; (try rw [hnw]); with_reducible exact kw_same (calls_bool r1 (l1In a 0 999 _))) | (go_at_call 46; (try rw [hnw]); with_reducible exact kw_same (calls_bool r3 (l1In b (now + 1) 200000 _))) | (go_at_call 46; (try rw [hnw]); with_reducible exact kw_same (calls_bool r4 (l1In e 0 100000 _))) | (go_at_call 46; (try rw [hnw]); with_reducible exact kw_same (calls_bool r5 (l1In d 1 1000 _)))))
                        refine wpQuiet_nil ?_
                        rintro _ ⟨⟨w5, k5⟩, rfl⟩
                        clear hcc
                        try clear hk1
                        repeat (first | go_values | go_skip | go_guarded | go_step | go_upon)
                        refine ⟨⟨k + 1, hlt, by go_num, ?_, ?_, ?_⟩, by simp [intOf]; omega⟩
                        · rw [lastOf_succ HP.out, ← HG.out]; simp [waitB, r3, r4, r5, r6]; omega
                        · rw [lastOf_succ HP.out]; dsimp only; omega
                        · exact (HKP.out.alloc _).trans k5
              · obtain ⟨j, hj⟩ : ∃ j, k - 1 = j := ⟨_, rfl⟩
                rw [hj] at x0
                have hkj : IntKind.i64.wrap ((k : Int) - 1) = (j : Int) := by rw [IntKind.wrap_i64]; omega
                have hk1 : decide (0 < k) = true := by simpa using hk0
                have hjl : (j : Int) < (l.length : Int) := by omega
                have r2' : decide (a ≤ last) = false := by simp; omega
                cases r3 : inB b (now + 1) 200000 with
                | false =>
                  repeat (first | go_values | go_skip | go_guarded | go_step | go_upon)
                  refine wp_region_kept (by kernel_rfl) (by kernel_rfl) ?_
                  have hcc := KW.cell_eq (wr.alloc (.cells #[.int .i64 a, .int .i64 b, .int .i64 e, .int .i64 d] 46))
                  repeat (go_big_quiet_step (first | (go_at_call 46; (try rw [hnw]); with_reducible exact kw_same (calls_bool r1 (l1In a 0 999 _))) | (go_at_call 46; (try rw [hnw]); with_reducible exact kw_same (calls_bool r3 (l1In b (now + 1) 200000 _)))))
                  refine wpQuiet_nil ?_
                  rintro _ ⟨⟨w5, k5⟩, rfl⟩
                  clear hcc
                  try clear hk1
                  repeat (first | go_values | go_skip | go_guarded | go_step | go_upon)
                  go_ret
                  exact ⟨ret_bool (by rw [← HG.out]; simp [waitB, r3]), (HK.out.alloc _).trans k5⟩
                | true =>
                  cases r4 : inB e 0 100000 with
                  | false =>
                    repeat (first | go_values | go_skip | go_guarded | go_step | go_upon)
                    refine wp_region_kept (by kernel_rfl) (by kernel_rfl) ?_
                    have hcc := KW.cell_eq (wr.alloc (.cells #[.int .i64 a, .int .i64 b, .int .i64 e, .int .i64 d] 46))
                    repeat (go_big_quiet_step (first | (go_at_call 46; (try rw [hnw]); with_reducible exact kw_same (calls_bool r1 (l1In a 0 999 _))) | (go_at_call 46; (try rw [hnw]); with_reducible exact kw_same (calls_bool r3 (l1In b (now + 1) 200000 _))) | (go_at_call 46; (try rw [hnw]); with_reducible exact kw_same (calls_bool r4 (l1In e 0 100000 _)))))
                    refine wpQuiet_nil ?_
                    rintro _ ⟨⟨w5, k5⟩, rfl⟩
                    clear hcc
                    try clear hk1
                    repeat (first | go_values | go_skip | go_guarded | go_step | go_upon)
                    go_ret
                    exact ⟨ret_bool (by rw [← HG.out]; simp [waitB, r4]), (HK.out.alloc _).trans k5⟩
                  | true =>
                    cases r5 : inB d 1 1000 with
                    | false =>
                      repeat (first | go_values | go_skip | go_guarded | go_step | go_upon)
                      refine wp_region_kept (by kernel_rfl) (by kernel_rfl) ?_
                      have hcc := KW.cell_eq (wr.alloc (.cells #[.int .i64 a, .int .i64 b, .int .i64 e, .int .i64 d] 46))
                      repeat (go_big_quiet_step (first | (go_at_call 46; (try rw [hnw]); with_reducible exact kw_same (calls_bool r1 (l1In a 0 999 _))) | (go_at_call 46; (try rw [hnw]); with_reducible exact kw_same (calls_bool r3 (l1In b (now + 1) 200000 _))) | (go_at_call 46; (try rw [hnw]); with_reducible exact kw_same (calls_bool r4 (l1In e 0 100000 _))) | (go_at_call 46; (try rw [hnw]); with_reducible exact kw_same (calls_bool r5 (l1In d 1 1000 _)))))
                      refine wpQuiet_nil ?_
                      rintro _ ⟨⟨w5, k5⟩, rfl⟩
                      clear hcc
                      try clear hk1
                      repeat (first | go_values | go_skip | go_guarded | go_step | go_upon)
                      go_ret
                      exact ⟨ret_bool (by rw [← HG.out]; simp [waitB, r5]), (HK.out.alloc _).trans k5⟩
                    | true =>
                      cases r6 : (e == 0) with
                      | true =>
                        cases r7 : (d == 1) with
                        | false =>
                          repeat (first | go_values | go_skip | go_guarded | go_step | go_upon)
                          refine wp_region_kept (by kernel_rfl) (by kernel_rfl) ?_
                          have hcc := KW.cell_eq (wr.alloc (.cells #[.int .i64 a, .int .i64 b, .int .i64 e, .int .i64 d] 46))
                          repeat (go_big_quiet_step (first | (go_at_call 46; (try rw [hnw]); with_reducible exact kw_same (calls_bool r1 (l1In a 0 999 _))) | (go_at_call 46; (try rw [hnw]); with_reducible exact kw_same (calls_bool r3 (l1In b (now + 1) 200000 _))) | (go_at_call 46; (try rw [hnw]); with_reducible exact kw_same (calls_bool r4 (l1In e 0 100000 _))) | (go_at_call 46; (try rw [hnw]); with_reducible exact kw_same (calls_bool r5 (l1In d 1 1000 _)))))
                          refine wpQuiet_nil ?_
                          rintro _ ⟨⟨w5, k5⟩, rfl⟩
                          clear hcc
                          try clear hk1
                          repeat (first | go_values | go_skip | go_guarded | go_step | go_upon)
                          go_ret
                          exact ⟨ret_bool (by rw [← HG.out]; simp [waitB, r6, r7]), (HK.out.alloc _).trans k5⟩
                        | true =>
                          repeat (first | go_values | go_skip | go_guarded | go_step | go_upon)
                          refine wp_region_kept (by kernel_rfl) (by kernel_rfl) ?_
                          have hcc := KW.cell_eq (wr.alloc (.cells #[.int .i64 a, .int .i64 b, .int .i64 e, .int .i64 d] 46))
                          repeat (go_big_quiet_step (first | (go_at_call 46; (try rw [hnw]); with_reducible exact kw_same (calls_bool r1 (l1In a 0 999 _))) | (go_at_call 46; (try rw [hnw]); with_reducible exact kw_same (calls_bool r3 (l1In b (now + 1) 200000 _))) | (go_at_call 46; (try rw [hnw]); with_reducible exact kw_same (calls_bool r4 (l1In e 0 100000 _))) | (go_at_call 46; (try rw [hnw]); with_reducible exact kw_same (calls_bool r5 (l1In d 1 1000 _)))))
                          refine wpQuiet_nil ?_
                          rintro _ ⟨⟨w5, k5⟩, rfl⟩
                          clear hcc
                          try clear hk1
                          repeat (first | go_values | go_skip | go_guarded | go_step | go_upon)
                          refine ⟨⟨k + 1, hlt, by go_num, ?_, ?_, ?_⟩, by simp [intOf]; omega⟩
                          · rw [lastOf_succ HP.out, ← HG.out]; simp [waitB, r3, r4, r5, r6, r7]; omega
                          · rw [lastOf_succ HP.out]; dsimp only; omega
                          · exact (HKP.out.alloc _).trans k5
                      | false =>
                        repeat (first | go_values | go_skip | go_guarded | go_step | go_upon)
                        refine wp_region_kept (by kernel_rfl) (by kernel_rfl) ?_
                        have hcc := KW.cell_eq (wr.alloc (.cells #[.int .i64 a, .int .i64 b, .int .i64 e, .int .i64 d] 46))
                        repeat (go_big_quiet_step (first | (go_at_call 46; (try rw [hnw]); with_reducible exact kw_same (calls_bool r1 (l1In a 0 999 _))) | (go_at_call 46; (try rw [hnw]); with_reducible exact kw_same (calls_bool r3 (l1In b (now + 1) 200000 _))) | (go_at_call 46; (try rw [hnw]); with_reducible exact kw_same (calls_bool r4 (l1In e 0 100000 _))) | (go_at_call 46; (try rw [hnw]); with_reducible exact kw_same (calls_bool r5 (l1In d 1 1000 _)))))
                        refine wpQuiet_nil ?_
                        rintro _ ⟨⟨w5, k5⟩, rfl⟩
                        clear hcc
                        try clear hk1
                        repeat (first | go_values | go_skip | go_guarded | go_step | go_upon)
                        refine ⟨⟨k + 1, hlt, by go_num, ?_, ?_, ?_⟩, by simp [intOf]; omega⟩
                        · rw [lastOf_succ HP.out, ← HG.out]; simp [waitB, r3, r4, r5, r6]; omega
                        · rw [lastOf_succ HP.out]; dsimp only; omega
                        · exact (HKP.out.alloc _).trans k5
        · have hke : k = l.length := by omega
          subst hke
          have HKP : Hid _ := hkp
          clear hkp
          go_wp2
          go_ret
          refine ⟨ret_bool ?_, K0⟩
          rw [← hg]
          simp [goodL]

end Go.Proofs.Ythihgjcnjgpegaa
