/-
  What the specification of RunClock answers.
-/
import Derived.Test.YthihgjcnjgpegaaRunA
import Derived.Test.YthihgjcnjgpegaaGoodS
import Derived.Test.YthihgjcnjgpegaaFire
import Derived.Test.YthihgjcnjgpegaaDel
import Derived.BigRegion
namespace Go.Proofs.Ythihgjcnjgpegaa
open Go.ChangeShapes Go.WideShapes Go.ChangeAt Go.RowKit

set_option maxRecDepth 100000
def kOf : Option Nat → Int
  | none => -1
  | some k => (k : Int)
def sliceN : Value → Nat
  | .slice _ n _ => n
  | _ => 0
theorem own_cutout {W1 : World} {base g cap n' size a : Nat} {e : TypeId} {cur C1 : Array Value} {xs news : List Value} {N : Nat} (hbs : base ≤ g) (hW : W1.heap[g]? = some (.cells C1 e (0, 0))) (hxs : cur.toList.take N = xs) (ha : a ≤ N) (hNc : N ≤ cur.size) (hfit : a + news.length ≤ cur.size)
    (hC1 : C1 = (cur.toList.take a ++ news ++ cur.toList.drop (a + news.length)).toArray) (hn : n' * size = a + news.length) (hnc : n' ≤ cap) (hcm : cap ≤ maxLen) (hsz : cur.size = cap * size) :
    W1.ownsRow base e size (.slice (some ⟨g, 0, none⟩) n' cap) n' (xs.take a ++ news) := by
  have l1 : (cur.toList.take a).length = a := by simp; omega
  have hx : xs.take a = cur.toList.take a := by rw [← hxs, List.take_take, Nat.min_eq_left ha]
  refine ⟨by rw [List.length_append, hx, l1, hn], .inr ⟨g, cap, C1, rfl, hbs, hW, hnc, hcm, ?_, ?_⟩⟩
  · rw [← hsz, ← Array.length_toList, hC1]
    show ((cur.toList.take a ++ news) ++ _).length = _
    simp only [List.length_append, List.length_drop, Array.length_toList, l1]
    omega
  · rw [hn, hC1, hx]
    show ((cur.toList.take a ++ news) ++ _).take _ = _
    rw [List.take_append_of_le_length (by rw [List.length_append, l1]; omega), List.take_of_length_le (by rw [List.length_append, l1]; omega)]
theorem app_copy {ops : Array Oper} {rest : List Oper} {o : Oper} {a : Act} {w : World} {Q : Exit → Act → World → Prop} (hgd : o.guard = none) (s x : Operand) (ho : o.op = .call { callee := .builtin .append, args := #[s, x], argTypes := #[23, 23] })
    (base g cap0 cap : Nat) (ao : Option Addr) (l : List TimerD) (hs : a.eval s = .slice (some ⟨g, 0, none⟩) 0 cap0) (hx : a.eval x = .slice ao l.length cap) (hown : w.ownsRow base 46 4 (.slice (some ⟨g, 0, none⟩) 0 cap0) 0 []) (hv : TimerAt w (.slice ao l.length cap) l) (hn : l.length ≤ 1048576) (hb : base ≤ w.heap.size)
    (h : ∀ v' w', TimerO w' base w'.heap.size v' l → w.grownBy w' (some g) → wpList Try.prog ops Q rest (a.put o.dst v') w') : wpList Try.prog ops Q (o :: rest) a w := by
  obtain ⟨i0, hi0, hz0, hz1, hz2⟩ := info_parts info46
  cases ao with
  | none =>
    have hl0 : l = [] := by
      have := row_none hv
      cases l with
      | nil => rfl
      | cons p ps => simp [timerC] at this
    subst hl0
    refine wpList_plain hgd fun K hK => ?_
    have hr := run_append_none (P := Try.prog) w 23 o.type 46 i0 Try.underlying23 hi0 (some ⟨g, 0, none⟩) 0 cap0 cap (Nat.zero_le _)
    unfold Oper.wp execOp
    have hx' : a.eval x = .slice none 0 cap := hx
    simp only [ho, resolve, invoke, builtin, Sem.run_bind, Sem.run_pure, Result.andThen_ok, List.map_toArray, List.map_cons, List.map_nil, hs, hx', hr]
    exact hK _ _ (h _ _ (RowO.top hown) ⟨rfl, rfl, rfl, Nat.le_refl _, fun _ _ _ => rfl⟩)
  | some ad =>
    have hc : ∀ j u, (l.flatMap timerC)[j]? = some u → w.cell? (ad.add j) = some u := by
      cases l with
      | nil => intro j u hu; simp at hu
      | cons p ps =>
        obtain ⟨b, o', cap', e, _⟩ := timer_get hv (i := 0) (p := p) rfl
        cases e
        exact row_cells hv
    refine wpList_append_own w hgd s x 23 ho base 46 i0 (.agg #[.int .i64 0, .int .i64 0, .int .i64 0, .int .i64 0]) 4 32 Try.underlying23 hi0 hz0 hz1 hz2 rfl (by decide) _ 0 [] hs hown ad l.length cap (l.flatMap timerC) hx (flat_len 4 timerC timerC_len l) hc (one_timers l) (by unfold maxLen; omega) (by omega) hb ?_
    intro v' w' h1 h2 _
    rw [Nat.zero_add, List.nil_append] at h1
    exact h v' w' (RowO.top h1) h2
set_option maxHeartbeats 8000000 in
theorem specRun (c : ClockD) (u : Int) (v : Value) (w : World) (hv : ClockAt w v c) :
    Calls Try.prog 12 #[v, .int .i64 u] w fun e w' => ∃ v1 v2, e = .returned (.tuple #[v1, v2, .bool (runA c u).2.2]) ∧ ClockO w' w.heap.size w'.heap.size v1 (runA c u).1 ∧ FiredO w' w.heap.size w'.heap.size v2 (runA c u).2.1 ∧ Kept w w' := by
  obtain ⟨ao, cap, hfm⟩ := hv.form
  subst hfm
  have hr := hv.row
  obtain ⟨now, l⟩ := c
  dsimp only at *
  cases hg : goodC (now, l) with
  | false =>
    rw [show runA (now, l) u = ((0, []), [], false) by simp [runA, hg]]
    go_enter Try.func12, Try.ntmps12
    repeat (first | go_values | go_skip | go_guarded | go_step | go_upon)
    go_at_call 16
    refine (specGood (now, l) _ _ (hv.kept (((But.refl _ _ _).alloc _).alloc _))).mono ?_
    rintro e w1 ⟨rfl, k1⟩
    rw [hg]
    have K1 : Kept w w1 := (((But.refl _ _ _).alloc _).alloc _).trans k1
    have L0 := (Loc.alloc (Loc.new w [.int .i64 now, .slice ao l.length cap] 25) (.cells #[.int .i64 0, .slice none 0 0] 25)).kept k1
    have L1 := (Loc.new (w.alloc (.cells #[.int .i64 now, .slice ao l.length cap] 25)) [.int .i64 0, .slice none 0 0] 25).kept k1
    simp only [World.size_alloc] at L1
    have hw1 := L1.lt
    have hw0 := L0.lt
    have s0 := L0.cell 0 rfl
    have s1 := L0.cell 1 rfl
    have r0 := L1.cell 0 rfl
    have r1 := L1.cell 1 rfl
    have rf0 := L1.frozen 0
    have rf1 := L1.frozen 1
    clear k1
    dsimp only
    repeat (first | go_values | go_skip | go_guarded | go_step | go_upon)
    have B0 : But (w.heap.size + 1) (w.heap.size + 2) w1 ((w1.setCell ⟨w.heap.size + 1, 0, none⟩ (.int .i64 0)).setCell ⟨w.heap.size + 1, 1, none⟩ (.slice none 0 0)) := ((But.refl _ _ _).setCell (by simp) (by simp) _).setCell (by simp) (by simp) _
    refine bodyPost_ret (v := .tuple #[.agg #[.int .i64 0, .slice none 0 0], .slice none 0 0, .bool false]) (by simp [results, Try.results12, go_sem, r0, r1]) rfl ?_
    exact ⟨_, _, rfl, zero_clock2 _ _ _, zero_fired _ _ _, K1.onto B0 (by omega)⟩
  | true =>
    cases q1 : inB u now 100000 with
    | false =>
      have hq := inB_false.1 q1
      rw [show runA (now, l) u = ((0, []), [], false) by
        by_cases h : now ≤ u
        · simp [runA, show ¬ u ≤ 100000 by omega]
        · simp [runA, h]]
      go_enter Try.func12, Try.ntmps12
      repeat (first | go_values | go_skip | go_guarded | go_step | go_upon)
      go_at_call 16
      refine (specGood (now, l) _ _ (hv.kept (((But.refl _ _ _).alloc _).alloc _))).mono ?_
      rintro e w1 ⟨rfl, k1⟩
      rw [hg]
      have K1 : Kept w w1 := (((But.refl _ _ _).alloc _).alloc _).trans k1
      have L0 := (Loc.alloc (Loc.new w [.int .i64 now, .slice ao l.length cap] 25) (.cells #[.int .i64 0, .slice none 0 0] 25)).kept k1
      have L1 := (Loc.new (w.alloc (.cells #[.int .i64 now, .slice ao l.length cap] 25)) [.int .i64 0, .slice none 0 0] 25).kept k1
      simp only [World.size_alloc] at L1
      have hw1 := L1.lt
      have hw0 := L0.lt
      have s0 := L0.cell 0 rfl
      have s1 := L0.cell 1 rfl
      have r0 := L1.cell 0 rfl
      have r1 := L1.cell 1 rfl
      have rf0 := L1.frozen 0
      have rf1 := L1.frozen 1
      clear k1
      dsimp only
      repeat (first | (go_at_call 46; refine (l1In _ _ _ _).mono ?_; rintro e w' ⟨rfl, h⟩; rw [h, q1]; clear h; dsimp only) | go_values | go_skip | go_guarded | go_step | go_upon)
      have B0 : But (w.heap.size + 1) (w.heap.size + 2) w1 ((w1.setCell ⟨w.heap.size + 1, 0, none⟩ (.int .i64 0)).setCell ⟨w.heap.size + 1, 1, none⟩ (.slice none 0 0)) := ((But.refl _ _ _).setCell (by simp) (by simp) _).setCell (by simp) (by simp) _
      refine bodyPost_ret (v := .tuple #[.agg #[.int .i64 0, .slice none 0 0], .slice none 0 0, .bool false]) (by simp [results, Try.results12, go_sem, r0, r1]) rfl ?_
      exact ⟨_, _, rfl, zero_clock2 _ _ _, zero_fired _ _ _, K1.onto B0 (by omega)⟩
    | true =>
    have hq := inB_true.1 q1
    obtain ⟨R, hR⟩ : ∃ R, runM u 2000 l = R := ⟨_, rfl⟩
    have HA : Hid (runA (now, l) u = outA u R) := by
      show runA (now, l) u = _
      rw [← hR]
      simp [runA, hg, hq.1, hq.2]
    have hlen : l.length ≤ 20 := good_len hg
    have htb := good_TB hg
    obtain ⟨i0, hi0, hz0, hz1, hz2⟩ := info_parts info46
    go_enter Try.func12, Try.ntmps12
    repeat (first | go_values | go_skip | go_guarded | go_step | go_upon)
    go_at_call 16
    refine (specGood (now, l) _ _ (hv.kept (((But.refl _ _ _).alloc _).alloc _))).mono ?_
    rintro e w1 ⟨rfl, k1⟩
    rw [hg]
    have K1 : Kept w w1 := (((But.refl _ _ _).alloc _).alloc _).trans k1
    have L0 := (Loc.alloc (Loc.new w [.int .i64 now, .slice ao l.length cap] 25) (.cells #[.int .i64 0, .slice none 0 0] 25)).kept k1
    have L1 := (Loc.new (w.alloc (.cells #[.int .i64 now, .slice ao l.length cap] 25)) [.int .i64 0, .slice none 0 0] 25).kept k1
    simp only [World.size_alloc] at L1
    have hw1 := L1.lt
    have hw0 := L0.lt
    have s0 := L0.cell 0 rfl
    have s1 := L0.cell 1 rfl
    have r0 := L1.cell 0 rfl
    have r1 := L1.cell 1 rfl
    have rf0 := L1.frozen 0
    have rf1 := L1.frozen 1
    clear k1
    dsimp only
    repeat (first | (go_at_call 46; refine (l1In _ _ _ _).mono ?_; rintro e w' ⟨rfl, h⟩; rw [h, q1]; clear h; dsimp only) | (at_builtin; refine forgetL (fun w' => w' = _) rfl ?_) | go_values | go_skip | go_guarded | go_step | go_upon)
    intro W7 hW7
    subst hW7
    have k7 : Kept w1 (w1.alloc (.cells #[] 46)) := (But.refl _ _ _).alloc _
    refine app_copy rfl _ _ rfl w1.heap.size w1.heap.size 0 cap ao l rfl rfl (World.ownsRow_made w1 #[] 0 (Nat.le_refl _) (by unfold maxLen; omega) rfl) (hr.kept (K1.trans k7)) (by omega) (by simp) ?_
    intro v2 w2 o2 g2
    obtain ⟨ao2, cap2, hfm⟩ := o2.form
    subst hfm
    have K2 : Kept w1 w2 := k7.grown g2 (fun k h => .inl (by cases h; exact Nat.le_refl _))
    clear k7 g2 s0 s1 r0 r1 rf0 rf1 hi0 hz0 hz1 hz2
    go_wp2_with fail
    go_loopw [7, 8] (fun lv fv wr => ∃ (cur : List TimerD) (fs : List FiredD) (ao3 : Option Addr) (cap3 : Nat) (aof : Option Addr) (capf : Nat), lv = .slice ao3 cur.length cap3 ∧ fv = .slice aof fs.length capf ∧ TimerO wr w1.heap.size wr.heap.size (.slice ao3 cur.length cap3) cur ∧ FiredO wr w1.heap.size wr.heap.size (.slice aof fs.length capf) fs ∧ fs.length ≤ 2000 ∧ R = ahd fs (runM u (2000 - fs.length) cur) ∧ (∀ t ∈ cur, TB t) ∧ cur.length ≤ 20 ∧ Kept w1 wr) (fun _ fv _ => 2001 - sliceN fv)
    case atStart =>
      refine ⟨l, [], ao2, cap2, none, 0, rfl, rfl, o2, zero_fired _ _ _, by simp, ?_, htb, hlen, K2⟩
      rw [ahd_nil, ← hR]
      rfl
    case round =>
      obtain ⟨cur, fs, ao3, cap3, aof, capf, rfl, rfl, ho, hf, hfl, hRR, htb', hcl, hkp⟩ := hrel
      clear htb hR o2 K2 hlen
      have HRR : Hid _ := hRR
      have HTB : Hid _ := htb'
      have HF : Hid (FiredO _ _ _ _ _) := hf
      clear hRR htb' hf
      rename World => wo
      go_wp2_with fail
      go_loopw [9, 10, 11, 29] (fun kv _ _ i ws => ∃ n : Nat, n ≤ cur.length ∧ i = .int .i64 (n : Int) ∧ kv = .int .i64 (kOf (pickTo u cur n)) ∧ Kept wo ws) (fun _ _ _ i _ => cur.length - (intOf i).toNat)
      case atStart => exact ⟨0, by omega, rfl, rfl, But.refl _ _ _⟩
      case round =>
        obtain ⟨n, hn, rfl, rfl, hks⟩ := hrel
        by_cases hlt : n < cur.length
        · have gn := atT_some hlt
          obtain ⟨⟨a, b, e, d⟩, hx⟩ : ∃ t, atT cur n = t := ⟨_, rfl⟩
          rw [hx] at gn
          have os := TimerO.kept ho hks
          obtain ⟨g, o, cap1, ee, c0, c1, c2, c3⟩ := timer_get os.at gn
          cases ee
          dsimp only at c0 c1 c2 c3
          have hgw : g < wr.heap.size := World.block_lt_of_cell? _ _ c0
          have HKS : Hid (Kept wo wr) := hks
          have HX : Hid (atT cur n = (a, b, e, d)) := hx
          have HOS : Hid (TimerO _ _ _ _ _) := os
          clear hx hks os
          by_cases hb : b ≤ u
          · have p1 : decide (b ≤ u) = true := by simpa using hb
            cases hpk : pickTo u cur n with
            | none =>
              have p2 : decide ((-1 : Int) < 0) = true := by decide
              have hnx : pickTo u cur (n + 1) = some n := by simp [pickTo, HX.out, hb, hpk]
              have HN : Hid _ := hnx
              clear hnx
              dsimp only [kOf]
              repeat (first | go_values | go_skip | go_guarded | go_step | go_upon)
              refine wp_region_kept (by kernel_rfl) (by kernel_rfl) ?_
              have hcc := KW.cell_eq (wr.alloc (.cells #[.int .i64 a, .int .i64 b, .int .i64 e, .int .i64 d] 46))
              repeat (go_big_quiet_step (fail))
              refine wpQuiet_nil ?_
              rintro w5 ⟨⟨w6, k5⟩, rfl⟩
              clear hcc
              repeat (first | go_values | go_skip | go_guarded | go_step | go_upon)
              refine ⟨⟨n + 1, hlt, by go_num, by rw [HN.out], (HKS.out.alloc _).trans k5⟩, by simp [intOf]; omega⟩
            | some k =>
              have hkl := (pickTo_some hpk).1
              have gk := atT_some (l := cur) (i := k) (by omega)
              obtain ⟨⟨a', b', e', d'⟩, hy⟩ : ∃ t, atT cur k = t := ⟨_, rfl⟩
              rw [hy] at gk
              obtain ⟨g', o', cap1', ee, f0, f1, f2, f3⟩ := timer_get HOS.out.at gk
              cases ee
              dsimp only at f0 f1 f2 f3
              have p2 : decide ((k : Int) < 0) = false := by simp
              have hk1 : (0 : Int) ≤ (k : Int) := by omega
              have hk2 : (k : Int) < (cur.length : Int) := by omega
              by_cases hbb : b < b'
              · have p3 : decide (b < b') = true := by simpa using hbb
                have hnx : pickTo u cur (n + 1) = some n := by simp [pickTo, HX.out, hb, hpk, hy, hbb]
                have HN : Hid _ := hnx
                clear hnx hpk hy gk
                dsimp only [kOf]
                repeat (first | go_values | go_skip | go_guarded | go_step | go_upon)
                refine wp_region_kept (by kernel_rfl) (by kernel_rfl) ?_
                have hcc := KW.cell_eq (wr.alloc (.cells #[.int .i64 a, .int .i64 b, .int .i64 e, .int .i64 d] 46))
                repeat (go_big_quiet_step (fail))
                refine wpQuiet_nil ?_
                rintro w5 ⟨⟨w6, k5⟩, rfl⟩
                clear hcc
                repeat (first | go_values | go_skip | go_guarded | go_step | go_upon)
                refine ⟨⟨n + 1, hlt, by go_num, by rw [HN.out], (HKS.out.alloc _).trans k5⟩, by simp [intOf]; omega⟩
              · have p3 : decide (b < b') = false := by simpa using hbb
                have hnx : pickTo u cur (n + 1) = some k := by simp [pickTo, HX.out, hb, hpk, hy, hbb]
                have HN : Hid _ := hnx
                clear hnx hpk hy gk
                dsimp only [kOf]
                repeat (first | go_values | go_skip | go_guarded | go_step | go_upon)
                refine wp_region_kept (by kernel_rfl) (by kernel_rfl) ?_
                have hcc := KW.cell_eq (wr.alloc (.cells #[.int .i64 a, .int .i64 b, .int .i64 e, .int .i64 d] 46))
                repeat (go_big_quiet_step (fail))
                refine wpQuiet_nil ?_
                rintro w5 ⟨⟨w6, k5⟩, rfl⟩
                clear hcc
                repeat (first | go_values | go_skip | go_guarded | go_step | go_upon)
                refine ⟨⟨n + 1, hlt, by go_num, by rw [HN.out], (HKS.out.alloc _).trans k5⟩, by simp [intOf]; omega⟩
          · have p1 : decide (b ≤ u) = false := by simpa using hb
            have hnx : pickTo u cur (n + 1) = pickTo u cur n := by simp [pickTo, HX.out, hb]
            have HN : Hid _ := hnx
            clear hnx
            obtain ⟨kk, hkk⟩ : ∃ kk, kOf (pickTo u cur n) = kk := ⟨_, rfl⟩
            rw [hkk]
            have HKK : Hid _ := hkk
            clear hkk
            repeat (first | go_values | go_skip | go_guarded | go_step | go_upon)
            refine wp_region_kept (by kernel_rfl) (by kernel_rfl) ?_
            have hcc := KW.cell_eq (wr.alloc (.cells #[.int .i64 a, .int .i64 b, .int .i64 e, .int .i64 d] 46))
            repeat (go_big_quiet_step (fail))
            refine wpQuiet_nil ?_
            rintro w5 ⟨⟨w6, k5⟩, rfl⟩
            clear hcc
            repeat (first | go_values | go_skip | go_guarded | go_step | go_upon)
            refine ⟨⟨n + 1, hlt, by go_num, by rw [HN.out, HKK.out], (HKS.out.alloc _).trans k5⟩, by simp [intOf]; omega⟩
        · have hke : n = cur.length := by omega
          subst hke
          have K1r := (But.trans K1 (But.trans hkp hks) : Kept w wr)
          have Lr := L1.kept (But.trans hkp hks)
          have hwr := Lr.lt
          have os := (TimerO.kept ho hks).low
          have fsr := (FiredO.kept HF.out hks).low
          have kr := (But.trans hkp hks : Kept w1 wr)
          have skr := kr.size
          cases hpk : pickM u cur with
          | none =>
            have hpk' : pickTo u cur cur.length = none := hpk
            have HR : Hid (R = some (cur, fs)) := by
              show R = _
              rw [HRR.out, runM_none hpk]
              simp [ahd]
            have r0 := Lr.cell 0 rfl
            have r1 := Lr.cell 1 rfl
            have rf0 := Lr.frozen 0
            have rf1 := Lr.frozen 1
            rw [hpk']
            dsimp only [kOf]
            clear hpk hpk'
            repeat (first | go_values | go_skip | go_guarded | go_step | go_upon)
            have BR : But (w.heap.size + 1) (w.heap.size + 2) wr ((wr.setCell ⟨w.heap.size + 1, 0, none⟩ (.int .i64 u)).setCell ⟨w.heap.size + 1, 1, none⟩ (.slice ao3 cur.length cap3)) := ((But.refl _ _ _).setCell (by simp) (by simp) _).setCell (by simp) (by simp) _
            refine bodyPost_ret (v := .tuple #[.agg #[.int .i64 u, .slice ao3 cur.length cap3], .slice aof fs.length capf, .bool true]) (by simp [results, Try.results12, go_sem, r0, r1]) rfl ?_
            rw [HA.out, HR.out]
            refine ⟨_, _, rfl, ⟨_, rfl, ?_⟩, ?_, K1r.onto BR (by omega)⟩
            · exact ((TimerO.but os BR (by omega)).mono (lo' := w.heap.size) (by omega) (Nat.le_refl _)).low
            · exact ((FiredO.but fsr BR (by omega)).mono (lo' := w.heap.size) (by omega) (Nat.le_refl _)).low
          | some k =>
            have hpk' : pickTo u cur cur.length = some k := hpk
            obtain ⟨hkl, hku, -⟩ := pickTo_some hpk'
            rw [hpk']
            dsimp only [kOf]
            have p2 : decide ((k : Int) < 0) = false := by simp
            by_cases hf2 : fs.length = 2000
            · have p3 : (((fs.length : Nat) : Int) == 2000) = true := by simp; omega
              have HR : Hid (R = none) := by
                show R = _
                rw [HRR.out, hf2, Nat.sub_self, runM_full hpk]
                rfl
              have r0 := Lr.cell 0 rfl
              have r1 := Lr.cell 1 rfl
              have rf0 := Lr.frozen 0
              have rf1 := Lr.frozen 1
              clear hpk hpk' hf2
              repeat (first | go_values | go_skip | go_guarded | go_step | go_upon)
              have B0 : But (w.heap.size + 1) (w.heap.size + 2) wr ((wr.setCell ⟨w.heap.size + 1, 0, none⟩ (.int .i64 0)).setCell ⟨w.heap.size + 1, 1, none⟩ (.slice none 0 0)) := ((But.refl _ _ _).setCell (by simp) (by simp) _).setCell (by simp) (by simp) _
              refine bodyPost_ret (v := .tuple #[.agg #[.int .i64 0, .slice none 0 0], .slice none 0 0, .bool false]) (by simp [results, Try.results12, go_sem, r0, r1]) rfl ?_
              rw [HA.out, HR.out]
              exact ⟨_, _, rfl, zero_clock2 _ _ _, zero_fired _ _ _, K1r.onto B0 (by omega)⟩
            · have p3 : (((fs.length : Nat) : Int) == 2000) = false := by simp; omega
              have gk := atT_some hkl
              obtain ⟨⟨a, b, e, d⟩, hx⟩ : ∃ t, atT cur k = t := ⟨_, rfl⟩
              rw [hx] at gk hku
              obtain ⟨t1, t2, t3, t4, t5, t6⟩ := HTB.out _ (at_mem hkl)
              rw [hx] at t1 t2 t3 t4 t5 t6
              dsimp only at t1 t2 t3 t4 t5 t6 hku
              have HR : Hid (R = ahd (fs ++ [(b, a)]) (runM u (2000 - (fs.length + 1)) (nextM cur k))) := by
                show R = _
                rw [HRR.out, show 2000 - fs.length = (2000 - (fs.length + 1)) + 1 by omega, runM_some hpk, ahd_cons, hx]
              have HTB2 : Hid (∀ t ∈ nextM cur k, TB t) := next_TB hq.2 hkl HTB.out (by rw [hx]; exact hku)
              have HX : Hid (atT cur k = (a, b, e, d)) := hx
              obtain ⟨g, cap9, hfs⟩ := own_some os.1 (by omega)
              cases hfs
              obtain ⟨c0, c1, c2, c3, -⟩ := os.cells gk
              dsimp only at c0 c1 c2 c3
              have hgw : g < wr.heap.size := World.block_lt_of_cell? _ _ c0
              have hk1 : (0 : Int) ≤ (k : Int) := by omega
              have hk2 : (k : Int) < (cur.length : Int) := by omega
              clear hpk hpk' hx HRR
              repeat (first | go_values | go_skip | go_guarded | go_step | go_upon)
              obtain ⟨j0, hj0, hy0, hy1, hy2⟩ := info_parts info83
              apply wp_cut2 (F := fun ao4 cap4 W' => FiredO W' w1.heap.size W'.heap.size (.slice ao4 (fs.length + 1) cap4) (fs ++ [(b, a)]) ∧ TimerO W' w1.heap.size wr.heap.size (.slice (some ⟨g, 0, none⟩) cur.length cap3) cur ∧ Kept w1 W' ∧ wr.heap.size ≤ W'.heap.size)
              · go_region_law (refine step_append_at rfl (.tmp 64) (.tmp 76) 28 rfl w1.heap.size 83 j0 (.agg #[.int .i64 0, .int .i64 0]) 2 16 Try.underlying28 hj0 hy0 hy1 hy2 rfl (by decide) (.slice aof fs.length capf) fs.length (fs.flatMap firedC) (by simp [Act.eval]) (own_ks fsr (((But.refl _ _ wr).drew).alloc _)) ⟨wr.heap.size, 0, none⟩ 1 1 (firedC (b, a)) (by simp [Act.eval]) rfl (news2 (Loc.new wr.drew (firedC (b, a)) 83)) (one2 _) (by unfold maxLen; omega) (by omega) (by simp; omega) ?_
                               intro v3 w3 hown hgrow hob
                               have kx : Kept wr (wr.drew.alloc (.cells (firedC (b, a)).toArray 83)) := ((But.refl _ _ wr).drew).alloc _
                               have fx := FiredO.kept fsr kx
                               obtain ⟨hT3, hLoc3, hK3⟩ := app_fired fx rfl hown hgrow
                               obtain ⟨ao4, cap4, hf3⟩ := hT3.form
                               have hl3 : (fs ++ [(b, a)]).length = fs.length + 1 := (by simp)
                               rw [hl3] at hf3
                               subst hf3
                               have ox : TimerO w3 w1.heap.size wr.heap.size (.slice (some ⟨g, 0, none⟩) cur.length cap3) cur := RowO.grown (TimerO.kept os kx) hgrow (ap_types (TimerO.kept os kx) fx (by decide))
                               have HF3 : Hid (FiredO _ _ _ _ _) := hT3
                               have HO3 : Hid (TimerO _ _ _ _ _) := ox
                               have HK3 : Hid (Kept w1 w3 ∧ wr.heap.size ≤ w3.heap.size) := ⟨hK3 _ (kr.trans kx) (Nat.le_refl _), Nat.le_trans kx.size hgrow.size⟩
                               obtain ⟨c0, c1, c2, c3, -⟩ := ox.cells gk
                               dsimp only at c0 c1 c2 c3
                               clear hown hgrow hT3 hLoc3 hob hl3 ox hK3 fx kx)
                all_goals exact ⟨ao4, cap4, rfl, HF3.out, HO3.out, HK3.out.1, HK3.out.2⟩
              · rintro ao4 cap4 w4 ⟨f4, o4, k4, s4⟩
                clear c0 c1 c2 c3
                obtain ⟨c0, c1, c2, c3, cz⟩ := o4.cells gk
                dsimp only at c0 c1 c2 c3
                have hgw4 : g < w4.heap.size := World.block_lt_of_cell? _ _ c0
                have z1 := cz (k * 4 + 1)
                have z3 := cz (k * 4 + 3)
                clear cz
                by_cases hc : 0 < e
                · have q5 : decide (0 < e) = true := by simpa using hc
                  by_cases hd : 1 < d
                  · have q6 : decide (1 < d) = true := by simpa using hd
                    repeat (first | go_values | go_skip | go_guarded | go_step | go_upon)
                    obtain ⟨X, hX⟩ : ∃ X, X = w4.setCell ⟨g, k * 4 + 3, none⟩ (.int .i64 (d - 1)) := ⟨_, rfl⟩
                    have BX : But g (g + 1) w4 X := by rw [hX]; exact (But.refl _ _ _).setCell (by simp) (by simp) _
                    have oX : TimerO X w1.heap.size wr.heap.size (.slice (some ⟨g, 0, none⟩) cur.length cap3) (cur.set k (a, b, e, d - 1)) := by
                      rw [hX]
                      exact o4.set rfl gk 3 (by omega) (.int .i64 (d - 1)) rfl
                    rw [← hX]
                    clear hX c0 c1 c2 c3 z1 z3
                    have gk2 : (cur.set k (a, b, e, d - 1))[k]? = some (a, b, e, d - 1) := by simp [hkl]
                    obtain ⟨c0, c1, c2, c3, cz⟩ := oX.cells gk2
                    dsimp only at c0 c1 c2 c3
                    have z1 := cz (k * 4 + 1)
                    have hgX : g < X.heap.size := World.block_lt_of_cell? _ _ c0
                    have HOX : Hid (TimerO _ _ _ _ _) := oX
                    have HBX : Hid (But g (g + 1) w4 X) := BX
                    clear cz oX BX
                    apply wp_cut0 (F := fun W' => W' = (X.setCell ⟨g, k * 4 + 1, none⟩ (.int .i64 (b + e))).drew)
                    · go_big_region
                      all_goals exact ⟨rfl, by with_reducible rfl⟩
                    · intro w6 hw6
                      have o6 : TimerO w6 w1.heap.size wr.heap.size (.slice (some ⟨g, 0, none⟩) cur.length cap3) (nextM cur k) := by
                        rw [hw6]
                        have h1 := HOX.out.set (by simp) gk2 1 (by omega) (.int .i64 (b + e)) (q := (a, b + e, e, d - 1)) rfl
                        rw [List.set_set] at h1
                        have h2 : nextM cur k = cur.set k (a, b + e, e, d - 1) := by unfold nextM; rw [HX.out]; simp [hc, hd]
                        rw [h2]
                        exact TimerO.kept h1 ((But.refl _ _ _).drew)
                      have b6 : But g (g + 1) w4 w6 := by
                        rw [hw6]
                        exact HBX.out.trans ((But.refl _ _ _).setCell (by simp) (by simp) _).drew
                      clear hw6 c0 c1 c2 c3 z1
                      have f6 : FiredO w6 w1.heap.size w6.heap.size (.slice ao4 (fs.length + 1) cap4) (fs ++ [(b, a)]) := by
                        refine ⟨own_far f4.1 b6 (fun x hx => ?_), fun x hx => Nat.lt_of_lt_of_le (f4.2 x hx) b6.size⟩
                        have hne : x ≠ g := fun he => by
                          subst he
                          exact ap_types f4 o4 (by decide) x hx rfl
                        omega
                      have hga := (own_lt o4.1 (g := g) rfl).1
                      have HE : Hid (TimerO w6 w1.heap.size wr.heap.size (.slice (some ⟨g, 0, none⟩) cur.length cap3) (nextM cur k) ∧ FiredO w6 w1.heap.size w6.heap.size (.slice ao4 (fs.length + 1) cap4) (fs ++ [(b, a)]) ∧ Kept w1 w6) := ⟨o6, f6, k4.onto b6 (by omega)⟩
                      clear o6 f6
                      repeat (first | go_values | go_skip | go_guarded | go_step | go_upon)
                      obtain ⟨o6, f6, k6⟩ := HE.out
                      have hnl : (nextM cur k).length = cur.length := by unfold nextM; rw [HX.out]; simp [hc, hd]
                      refine ⟨⟨nextM cur k, fs ++ [(b, a)], some ⟨g, 0, none⟩, cap3, ao4, cap4, by rw [hnl], by simp, ?_, ?_, by simp; omega, by simpa using HR.out, HTB2.out, by omega, k6⟩, by simp [sliceN]; omega⟩
                      · rw [hnl]; exact o6.low
                      · simpa using f6
                  · have q6 : decide (1 < d) = false := by simpa using hd
                    repeat (first | go_values | go_skip | go_guarded | go_step | go_upon)
                    have hnx : nextM cur k = cur.take k ++ cur.drop (k + 1) := by
                      unfold nextM
                      rw [HX.out, if_neg (by simp; omega), List.eraseIdx_eq_take_drop_succ]
                    obtain ⟨n, hn⟩ : ∃ n, cur.length = n := ⟨_, rfl⟩
                    have o4' : TimerO w4 w1.heap.size wr.heap.size (.slice (some ⟨g, 0, none⟩) cur.length cap3) cur := o4
                    rw [hn] at hkl hk2 hcl ⊢
                    have hga := (own_lt o4.1 (g := g) rfl).1
                    obtain ⟨curA, hbs, hgg, hnc, hcm, hsz, htk, hown⟩ : ∃ curA : Array Value, w1.heap.size ≤ g ∧ w4.heap[g]? = some (.cells curA 46 (0, 0)) ∧ n ≤ cap3 ∧ cap3 ≤ maxLen ∧ curA.size = cap3 * 4 ∧ curA.toList.take (n * 4) = cur.flatMap timerC ∧ w4.ownsRow w1.heap.size 46 4 (.slice (some ⟨g, 0, none⟩) n cap3) n (cur.flatMap timerC) := by
                      have h := o4'.1
                      rw [hn] at h
                      rcases h.2 with ⟨hv', _⟩ | ⟨g', cap', curA, hv', h1, h2, h3, h4, h5, h6⟩
                      · cases hv'
                      · cases hv'
                        exact ⟨curA, h1, h2, h3, h4, h5, h6, h⟩
                    obtain ⟨news, hnews⟩ : ∃ news, news = (cur.flatMap timerC).drop ((k + 1) * 4) := ⟨_, rfl⟩
                    have hxl : (cur.flatMap timerC).length = n * 4 := by rw [flat_len 4 timerC timerC_len, hn]
                    have hnl : news.length = (n - (k + 1)) * 4 := by rw [hnews, List.length_drop, hxl]; omega
                    obtain ⟨A, hA, hsrc⟩ : ∃ A : Addr, (if cap3 = k + 1 then some (⟨g, 0, none⟩ : Addr) else some ⟨g, (k + 1) * 4, none⟩) = some A ∧ Hid (∀ t x, news[t]? = some x → w4.drew.cell? (A.add t) = some x) := by
                      by_cases h : cap3 = k + 1
                      · refine ⟨⟨g, 0, none⟩, by simp [h], fun t x hx => ?_⟩
                        have h0 : news.length = 0 := by rw [hnl]; omega
                        rw [List.length_eq_zero_iff.1 h0] at hx
                        simp at hx
                      · refine ⟨⟨g, (k + 1) * 4, none⟩, by simp [h], fun t x hx => ?_⟩
                        rw [hnews, List.getElem?_drop] at hx
                        rw [Go.WideShapes.add_plain]
                        obtain ⟨g2, cc2, ee2, _, hcc2, _⟩ := own_cell hown hx
                        cases ee2
                        exact hcc2
                    obtain ⟨C1, hC1⟩ : ∃ C1, C1 = (curA.toList.take (k * 4) ++ news ++ curA.toList.drop (k * 4 + news.length)).toArray := ⟨_, rfl⟩
                    obtain ⟨W1, hW1⟩ : ∃ W1, W1 = w4.drew.setRow g C1 := ⟨_, rfl⟩
                    have hone : Hid (∀ x ∈ news, x.oneCell' = true) := fun x hx => one_timers cur x (by rw [hnews] at hx; exact List.mem_of_mem_drop hx)
                    have HN : Hid (news.length = (n - (k + 1)) * 4) := hnl
                    have HG : Hid (w4.drew.heap[g]? = some (.cells curA 46 (0, 0))) := hgg
                    have HFIT : Hid (k * 4 + news.length ≤ curA.size) := by
                      show k * 4 + news.length ≤ curA.size
                      rw [hnl, hsz]; omega
                    have hO1 : TimerO W1 w1.heap.size wr.heap.size (.slice (some ⟨g, 0, none⟩) (n - 1) cap3) (nextM cur k) ∧ But g (g + 1) w4 W1 ∧ (nextM cur k).length = n - 1 := by
                      have hl9 : (nextM cur k).length = n - 1 := by rw [hnx, List.length_append, List.length_take, List.length_drop, hn]; omega
                      have hg1 : W1.heap[g]? = some (.cells C1 46 (0, 0)) := by rw [hW1]; exact setRow_heap w4.drew g curA C1 46 _ hgg
                      refine ⟨⟨?_, fun x hx => o4'.2 x hx⟩, by rw [hW1]; exact ((But.refl _ _ w4).drew).trans (setRow_but _ _ _), hl9⟩
                      rw [hl9, hnx, List.flatMap_append, flat_take 4 timerC timerC_len, flat_drop 4 timerC timerC_len, ← hnews]
                      exact own_cutout hbs hg1 htk (by omega) (by rw [hsz]; omega) HFIT.out hC1 (by rw [hnl]; omega) (by omega) hcm hsz
                    have X0 : W1 = w4.drew.setRow g (curA.toList.take (k * 4) ++ news ++ curA.toList.drop (k * 4 + news.length)).toArray := by rw [hW1, hC1]
                    have XW : Hid _ := X0
                    have HO1 : Hid _ := hO1
                    have hA' : Hid _ := hA
                    obtain ⟨i1, hi1, hzz0, hzz1, hzz2⟩ := info_parts info46
                    have hkc : k ≤ cap3 := by omega
                    have hjc : k + 1 ≤ cap3 := by omega
                    have hb1 : (0 : Int) ≤ (k : Int) + 1 := by omega
                    have hb2 : (k : Int) + 1 ≤ (n : Int) := by omega
                    have hwp : IntKind.i64.wrap ((k : Int) + 1) = (k : Int) + 1 := by rw [IntKind.wrap_i64]; omega
                    have htn : ((k : Int) + 1).toNat = k + 1 := by omega
                    have HLN : Hid (cur.length = n) := hn
                    clear hW1 hC1 X0 hO1 hA hnews hnl htk hgg hown hxl hnx hsz hcm hn c0 c1 c2 c3 z1 z3 hzz0 hzz2
                    apply wp_cut0 (F := fun W' => W' = W1)
                    · go_region_law (refine step_room rfl (.tmp 115) (.tmp 119) 23 rfl 46 i1 4 Try.underlying23 hi1 hzz1 g k cap3 curA HG.out (by simp [Act.eval, Act.put]) A (n - (k + 1)) (cap3 - (k + 1)) news (by simp [Act.eval, Act.put, hA'.out]) HN.out hsrc.out hone.out (by omega) HFIT.out ?_; rw [← XW.out])
                      all_goals
                        refine ⟨?_, rfl⟩
                        conv => lhs; simp [Act.put]
                    · rintro w6 rfl
                      obtain ⟨o6, b6, hl6⟩ := HO1.out
                      have f6 : FiredO w6 w1.heap.size w6.heap.size (.slice ao4 (fs.length + 1) cap4) (fs ++ [(b, a)]) := by
                        refine ⟨own_far f4.1 b6 (fun x hx => ?_), fun x hx => Nat.lt_of_lt_of_le (f4.2 x hx) b6.size⟩
                        have hne : x ≠ g := fun he => by
                          subst he
                          exact ap_types f4 o4' (by decide) x hx rfl
                        omega
                      have HE : Hid (TimerO w6 w1.heap.size wr.heap.size (.slice (some ⟨g, 0, none⟩) (n - 1) cap3) (nextM cur k) ∧ FiredO w6 w1.heap.size w6.heap.size (.slice ao4 (fs.length + 1) cap4) (fs ++ [(b, a)]) ∧ Kept w1 w6 ∧ (nextM cur k).length = n - 1) := ⟨o6, f6, k4.onto b6 (by omega), hl6⟩
                      clear o6 f6 b6 hl6 HO1
                      repeat (first | go_values | go_skip | go_guarded | go_step | go_upon)
                      obtain ⟨o6, f6, k6, hl6⟩ := HE.out
                      refine ⟨⟨nextM cur k, fs ++ [(b, a)], some ⟨g, 0, none⟩, cap3, ao4, cap4, by rw [hl6, show k + (n - (k + 1)) = n - 1 by omega], by simp, ?_, ?_, by simp; omega, by simpa using HR.out, HTB2.out, by omega, k6⟩, by simp [sliceN]; omega⟩
                      · rw [hl6]; exact o6.low
                      · simpa using f6
                · have q5 : decide (0 < e) = false := by simpa using hc
                  repeat (first | go_values | go_skip | go_guarded | go_step | go_upon)
                  have hnx : nextM cur k = cur.take k ++ cur.drop (k + 1) := by
                    unfold nextM
                    rw [HX.out, if_neg (by simp; omega), List.eraseIdx_eq_take_drop_succ]
                  obtain ⟨n, hn⟩ : ∃ n, cur.length = n := ⟨_, rfl⟩
                  have o4' : TimerO w4 w1.heap.size wr.heap.size (.slice (some ⟨g, 0, none⟩) cur.length cap3) cur := o4
                  rw [hn] at hkl hk2 hcl ⊢
                  have hga := (own_lt o4.1 (g := g) rfl).1
                  obtain ⟨curA, hbs, hgg, hnc, hcm, hsz, htk, hown⟩ : ∃ curA : Array Value, w1.heap.size ≤ g ∧ w4.heap[g]? = some (.cells curA 46 (0, 0)) ∧ n ≤ cap3 ∧ cap3 ≤ maxLen ∧ curA.size = cap3 * 4 ∧ curA.toList.take (n * 4) = cur.flatMap timerC ∧ w4.ownsRow w1.heap.size 46 4 (.slice (some ⟨g, 0, none⟩) n cap3) n (cur.flatMap timerC) := by
                    have h := o4'.1
                    rw [hn] at h
                    rcases h.2 with ⟨hv', _⟩ | ⟨g', cap', curA, hv', h1, h2, h3, h4, h5, h6⟩
                    · cases hv'
                    · cases hv'
                      exact ⟨curA, h1, h2, h3, h4, h5, h6, h⟩
                  obtain ⟨news, hnews⟩ : ∃ news, news = (cur.flatMap timerC).drop ((k + 1) * 4) := ⟨_, rfl⟩
                  have hxl : (cur.flatMap timerC).length = n * 4 := by rw [flat_len 4 timerC timerC_len, hn]
                  have hnl : news.length = (n - (k + 1)) * 4 := by rw [hnews, List.length_drop, hxl]; omega
                  obtain ⟨A, hA, hsrc⟩ : ∃ A : Addr, (if cap3 = k + 1 then some (⟨g, 0, none⟩ : Addr) else some ⟨g, (k + 1) * 4, none⟩) = some A ∧ Hid (∀ t x, news[t]? = some x → w4.drew.cell? (A.add t) = some x) := by
                    by_cases h : cap3 = k + 1
                    · refine ⟨⟨g, 0, none⟩, by simp [h], fun t x hx => ?_⟩
                      have h0 : news.length = 0 := by rw [hnl]; omega
                      rw [List.length_eq_zero_iff.1 h0] at hx
                      simp at hx
                    · refine ⟨⟨g, (k + 1) * 4, none⟩, by simp [h], fun t x hx => ?_⟩
                      rw [hnews, List.getElem?_drop] at hx
                      rw [Go.WideShapes.add_plain]
                      obtain ⟨g2, cc2, ee2, _, hcc2, _⟩ := own_cell hown hx
                      cases ee2
                      exact hcc2
                  obtain ⟨C1, hC1⟩ : ∃ C1, C1 = (curA.toList.take (k * 4) ++ news ++ curA.toList.drop (k * 4 + news.length)).toArray := ⟨_, rfl⟩
                  obtain ⟨W1, hW1⟩ : ∃ W1, W1 = w4.drew.setRow g C1 := ⟨_, rfl⟩
                  have hone : Hid (∀ x ∈ news, x.oneCell' = true) := fun x hx => one_timers cur x (by rw [hnews] at hx; exact List.mem_of_mem_drop hx)
                  have HN : Hid (news.length = (n - (k + 1)) * 4) := hnl
                  have HG : Hid (w4.drew.heap[g]? = some (.cells curA 46 (0, 0))) := hgg
                  have HFIT : Hid (k * 4 + news.length ≤ curA.size) := by
                    show k * 4 + news.length ≤ curA.size
                    rw [hnl, hsz]; omega
                  have hO1 : TimerO W1 w1.heap.size wr.heap.size (.slice (some ⟨g, 0, none⟩) (n - 1) cap3) (nextM cur k) ∧ But g (g + 1) w4 W1 ∧ (nextM cur k).length = n - 1 := by
                    have hl9 : (nextM cur k).length = n - 1 := by rw [hnx, List.length_append, List.length_take, List.length_drop, hn]; omega
                    have hg1 : W1.heap[g]? = some (.cells C1 46 (0, 0)) := by rw [hW1]; exact setRow_heap w4.drew g curA C1 46 _ hgg
                    refine ⟨⟨?_, fun x hx => o4'.2 x hx⟩, by rw [hW1]; exact ((But.refl _ _ w4).drew).trans (setRow_but _ _ _), hl9⟩
                    rw [hl9, hnx, List.flatMap_append, flat_take 4 timerC timerC_len, flat_drop 4 timerC timerC_len, ← hnews]
                    exact own_cutout hbs hg1 htk (by omega) (by rw [hsz]; omega) HFIT.out hC1 (by rw [hnl]; omega) (by omega) hcm hsz
                  have X0 : W1 = w4.drew.setRow g (curA.toList.take (k * 4) ++ news ++ curA.toList.drop (k * 4 + news.length)).toArray := by rw [hW1, hC1]
                  have XW : Hid _ := X0
                  have HO1 : Hid _ := hO1
                  have hA' : Hid _ := hA
                  obtain ⟨i1, hi1, hzz0, hzz1, hzz2⟩ := info_parts info46
                  have hkc : k ≤ cap3 := by omega
                  have hjc : k + 1 ≤ cap3 := by omega
                  have hb1 : (0 : Int) ≤ (k : Int) + 1 := by omega
                  have hb2 : (k : Int) + 1 ≤ (n : Int) := by omega
                  have hwp : IntKind.i64.wrap ((k : Int) + 1) = (k : Int) + 1 := by rw [IntKind.wrap_i64]; omega
                  have htn : ((k : Int) + 1).toNat = k + 1 := by omega
                  have HLN : Hid (cur.length = n) := hn
                  clear hW1 hC1 X0 hO1 hA hnews hnl htk hgg hown hxl hnx hsz hcm hn c0 c1 c2 c3 z1 z3 hzz0 hzz2
                  apply wp_cut0 (F := fun W' => W' = W1)
                  · go_region_law (refine step_room rfl (.tmp 115) (.tmp 119) 23 rfl 46 i1 4 Try.underlying23 hi1 hzz1 g k cap3 curA HG.out (by simp [Act.eval, Act.put]) A (n - (k + 1)) (cap3 - (k + 1)) news (by simp [Act.eval, Act.put, hA'.out]) HN.out hsrc.out hone.out (by omega) HFIT.out ?_; rw [← XW.out])
                    all_goals
                      refine ⟨?_, rfl⟩
                      conv => lhs; simp [Act.put]
                  · rintro w6 rfl
                    obtain ⟨o6, b6, hl6⟩ := HO1.out
                    have f6 : FiredO w6 w1.heap.size w6.heap.size (.slice ao4 (fs.length + 1) cap4) (fs ++ [(b, a)]) := by
                      refine ⟨own_far f4.1 b6 (fun x hx => ?_), fun x hx => Nat.lt_of_lt_of_le (f4.2 x hx) b6.size⟩
                      have hne : x ≠ g := fun he => by
                        subst he
                        exact ap_types f4 o4' (by decide) x hx rfl
                      omega
                    have HE : Hid (TimerO w6 w1.heap.size wr.heap.size (.slice (some ⟨g, 0, none⟩) (n - 1) cap3) (nextM cur k) ∧ FiredO w6 w1.heap.size w6.heap.size (.slice ao4 (fs.length + 1) cap4) (fs ++ [(b, a)]) ∧ Kept w1 w6 ∧ (nextM cur k).length = n - 1) := ⟨o6, f6, k4.onto b6 (by omega), hl6⟩
                    clear o6 f6 b6 hl6 HO1
                    repeat (first | go_values | go_skip | go_guarded | go_step | go_upon)
                    obtain ⟨o6, f6, k6, hl6⟩ := HE.out
                    refine ⟨⟨nextM cur k, fs ++ [(b, a)], some ⟨g, 0, none⟩, cap3, ao4, cap4, by rw [hl6, show k + (n - (k + 1)) = n - 1 by omega], by simp, ?_, ?_, by simp; omega, by simpa using HR.out, HTB2.out, by omega, k6⟩, by simp [sliceN]; omega⟩
                    · rw [hl6]; exact o6.low
                    · simpa using f6

end Go.Proofs.Ythihgjcnjgpegaa
