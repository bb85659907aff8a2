/-
  AutoTile of the program.
-/
import Derived.Test.YtopakblckajdmaaCopy14
namespace Go.Proofs.Ytopakblckajdmaa
open Go.ChangeShapes Go.WideShapes Go.ChangeAt Go.RowKit

set_option maxRecDepth 100000
set_option linter.unusedVariables false
theorem cell_ltG {w : World} {b o : Nat} {v : Value} (h : w.cell? ⟨b, o, none⟩ = some v) : b < w.heap.size := by
  rcases Nat.lt_or_ge b w.heap.size with k | k
  · exact k
  · simp [World.cell?, Array.getElem?_eq_none k] at h
theorem own_some {w : World} {lo hi : Nat} {v : Value} {l : List NumD} (h : NumO w lo hi v l) (hl : 0 < l.length) : ∃ g cap, v = .slice (some ⟨g, 0, none⟩) l.length cap := by
  rcases h.1.2 with ⟨_, h0⟩ | ⟨g, c2, cur, hf, _⟩
  · omega
  · exact ⟨g, c2, hf⟩
theorem calls_int {P : Program} {f : FuncId} {args : Array Value} {w : World} {b c : Int} (h : b = c) {R : World → Prop} (k : Calls P f args w fun e w' => e = .returned (.int .i64 b) ∧ R w') : Calls P f args w fun e w' => e = .returned (.int .i64 c) ∧ R w' := by
  rw [← h]
  exact k
/-- What a place gets. -/
def autoT (f : FieldD) (s : Int) (pk : List Int) (i : Nat) : Int := if f.2.2.getD i 0 = s then pk.getD (maskA f i s).toNat 0 else f.2.2.getD i 0
def autoL (f : FieldD) (s : Int) (pk : List Int) : List Int := (List.range f.2.2.length).map (autoT f s pk)
theorem autoL_len (f : FieldD) (s : Int) (pk : List Int) : (autoL f s pk).length = f.2.2.length := by simp [autoL]
theorem autoL_get (f : FieldD) (s : Int) (pk : List Int) {i : Nat} (h : i < f.2.2.length) : (autoL f s pk)[i]? = some (autoT f s pk i) := by simp [autoL, h]
def AutoP (f : FieldD) (s : Int) (pk : List Int) : Prop := FieldP 6 f ∧ (0 ≤ s ∧ s < 6) ∧ pk.length = 16 ∧ TilesP 6 pk
noncomputable def autoA (f : FieldD) (s : Int) (pk : List Int) : FieldD × Bool := if dec (AutoP f s pk) then ((f.1, f.2.1, autoL f s pk), true) else ((0, 0, []), false)
theorem no_field (w : World) (lo hi : Nat) : FieldO w lo hi (.agg #[.int .i64 0, .int .i64 0, .slice none 0 0]) (0, 0, []) := ⟨_, rfl, World.ownsRow_nil _ _ _ _, fun g hg => by cases hg⟩
theorem auto_no {f : FieldD} {s : Int} {pk : List Int} (h : ¬ AutoP f s pk) : autoA f s pk = ((0, 0, []), false) := by unfold autoA; rw [dec_no h]; rfl
theorem auto_yes {f : FieldD} {s : Int} {pk : List Int} (h : AutoP f s pk) : autoA f s pk = ((f.1, f.2.1, autoL f s pk), true) := by unfold autoA; rw [dec_yes h]; rfl
theorem autoA_len (f : FieldD) (s : Int) (pk : List Int) (h : f.2.2.length ≤ 1048576) : (autoA f s pk).1.2.2.length ≤ 100000000 := by
  by_cases hp : AutoP f s pk
  · rw [auto_yes hp]; show (autoL f s pk).length ≤ _; rw [autoL_len]; omega
  · rw [auto_no hp]; simp

theorem list_set_same {α : Type} {l : List α} {i : Nat} {x : α} (h : l[i]? = some x) : l.set i x = l := by
  apply List.ext_getElem?
  intro j
  rw [List.getElem?_set]
  split
  · next e => subst e; rw [h]; simp [(List.getElem?_eq_some_iff.1 h).1]
  · rfl

set_option maxHeartbeats 8000000 in
theorem iauto (fv : Value) (f : FieldD) (s : Int) (pk : List Int) (pv : Value) (w : World) (hf : FieldAt w fv f) (hpv : NumAt w pv pk) (hn : f.2.2.length ≤ 1048576) (hnp : pk.length ≤ 1048576) :
    Calls Try.prog 41 #[fv, .int .i64 s, pv] w fun e w' => ∃ v', e = .returned (.tuple #[v', .bool (autoA f s pk).2]) ∧ FieldO w' w.heap.size w'.heap.size v' (autoA f s pk).1 ∧ Kept w w' := by
  obtain ⟨ap, cp, hfp⟩ := row_nil hpv
  subst hfp
  have hpk := hpv
  obtain ⟨ao, cap, hfm⟩ := hf.form
  subst hfm
  cases d1 : dec (FieldP 6 f) with
  | false =>
    rw [auto_no (fun h => of_dec_no d1 h.1)]
    go_enter Try.func41, Try.ntmps41
    go_upto_region 1 with fail
    obtain ⟨W, hW⟩ : ∃ x, x = (w.alloc (.cells #[.int .i64 f.1, .int .i64 f.2.1, .slice ao f.2.2.length cap] 28)).alloc (.cells #[.int .i64 0, .int .i64 0, .slice none 0 0] 28) := ⟨_, rfl⟩
    have kz : Kept w W := by rw [hW]; exact ((But.refl _ _ _).alloc _).alloc _
    have L1 : Loc W w.heap.size [.int .i64 f.1, .int .i64 f.2.1, .slice ao f.2.2.length cap] := by rw [hW]; exact (Loc.new w [.int .i64 f.1, .int .i64 f.2.1, .slice ao f.2.2.length cap] 28).alloc _
    have L2 : Loc W (w.heap.size + 1) [.int .i64 0, .int .i64 0, .slice none 0 0] := by rw [hW]; have := Loc.new (w.alloc (.cells #[.int .i64 f.1, .int .i64 f.2.1, .slice ao f.2.2.length cap] 28)) [.int .i64 0, .int .i64 0, .slice none 0 0] 28; simpa using this
    rw [← hW]
    clear hW
    have q0 := L1.cell 0 rfl
    have q1 := L1.cell 1 rfl
    have q2 := L1.cell 2 rfl
    have ql := L1.lt
    have r0 := L2.cell 0 rfl
    have r1 := L2.cell 1 rfl
    have r2 := L2.cell 2 rfl
    have rf0 := L2.frozen 0
    have rf1 := L2.frozen 1
    have rf2 := L2.frozen 2
    have rl := L2.lt
    repeat (first | go_values | go_skip | go_guarded | go_step | go_upon)
    go_at_call 58
    refine (itiles _ f 6 _ (hf.kept kz) (by omega) hn).mono ?_
    rintro e u1 ⟨rfl, k1⟩
    rw [d1]
    have L1 := L1.kept k1
    have L2 := L2.kept k1
    have kz := kz.trans k1
    clear q0 q1 q2 ql r0 r1 r2 rf0 rf1 rf2 rl k1
    have q0 := L1.cell 0 rfl
    have q1 := L1.cell 1 rfl
    have q2 := L1.cell 2 rfl
    have ql := L1.lt
    have r0 := L2.cell 0 rfl
    have r1 := L2.cell 1 rfl
    have r2 := L2.cell 2 rfl
    have rf0 := L2.frozen 0
    have rf1 := L2.frozen 1
    have rf2 := L2.frozen 2
    have rl := L2.lt
    dsimp only
    repeat (first | go_values | go_skip | go_guarded | go_step | go_upon)
    refine bodyPost_ret (v := .tuple #[.agg #[.int .i64 0, .int .i64 0, .slice none 0 0], .bool false]) (by simp [results, Try.results41, go_sem, *]) rfl ?_
    exact ⟨_, rfl, no_field _ _ _, ((kz.setNew (by simp) _).setNew (by simp) _).setNew (by simp) _⟩
  | true =>
    have hg := of_dec d1
    have hlen : f.2.2.length ≤ 36 := by have := hg.2.2.1; have := mul_in hg.1.1 hg.1.2 hg.2.1.1 hg.2.1.2; omega
    have hpos : 0 < f.2.2.length := by have := hg.2.2.1; have := mul_in hg.1.1 hg.1.2 hg.2.1.1 hg.2.1.2; omega
    have HG : Hid (FieldP 6 f) := hg
    by_cases h2 : 0 ≤ s ∧ s < 6
    · have d2 : decide (0 ≤ s ∧ s < 6) = true := decide_eq_true (by omega)
      by_cases h3 : pk.length = 16
      · have d3 : ((pk.length : Int) == 16) = true := by simp; omega
        have d3' : ((pk.length : Int) != 16) = false := by simp; omega
        have HN3 : Hid (pk.length = 16) := h3
        clear h3
        cases d4 : dec (TilesP 6 pk) with
        | false =>
          rw [auto_no (fun h => of_dec_no d4 h.2.2.2)]
          go_enter Try.func41, Try.ntmps41
          go_upto_region 1 with fail
          obtain ⟨W, hW⟩ : ∃ x, x = (w.alloc (.cells #[.int .i64 f.1, .int .i64 f.2.1, .slice ao f.2.2.length cap] 28)).alloc (.cells #[.int .i64 0, .int .i64 0, .slice none 0 0] 28) := ⟨_, rfl⟩
          have kz : Kept w W := by rw [hW]; exact ((But.refl _ _ _).alloc _).alloc _
          have L1 : Loc W w.heap.size [.int .i64 f.1, .int .i64 f.2.1, .slice ao f.2.2.length cap] := by rw [hW]; exact (Loc.new w [.int .i64 f.1, .int .i64 f.2.1, .slice ao f.2.2.length cap] 28).alloc _
          have L2 : Loc W (w.heap.size + 1) [.int .i64 0, .int .i64 0, .slice none 0 0] := by rw [hW]; have := Loc.new (w.alloc (.cells #[.int .i64 f.1, .int .i64 f.2.1, .slice ao f.2.2.length cap] 28)) [.int .i64 0, .int .i64 0, .slice none 0 0] 28; simpa using this
          rw [← hW]
          clear hW
          have q0 := L1.cell 0 rfl
          have q1 := L1.cell 1 rfl
          have q2 := L1.cell 2 rfl
          have ql := L1.lt
          have r0 := L2.cell 0 rfl
          have r1 := L2.cell 1 rfl
          have r2 := L2.cell 2 rfl
          have rf0 := L2.frozen 0
          have rf1 := L2.frozen 1
          have rf2 := L2.frozen 2
          have rl := L2.lt
          repeat (first | go_values | go_skip | go_guarded | go_step | go_upon)
          go_at_call 58
          refine (itiles _ f 6 _ (hf.kept kz) (by omega) hn).mono ?_
          rintro e u1 ⟨rfl, k1⟩
          rw [d1]
          have L1 := L1.kept k1
          have L2 := L2.kept k1
          have kz := kz.trans k1
          clear q0 q1 q2 ql r0 r1 r2 rf0 rf1 rf2 rl k1
          have q0 := L1.cell 0 rfl
          have q1 := L1.cell 1 rfl
          have q2 := L1.cell 2 rfl
          have ql := L1.lt
          have r0 := L2.cell 0 rfl
          have r1 := L2.cell 1 rfl
          have r2 := L2.cell 2 rfl
          have rf0 := L2.frozen 0
          have rf1 := L2.frozen 1
          have rf2 := L2.frozen 2
          have rl := L2.lt
          dsimp only
          repeat (first | (go_at_call 64; refine (isort _ _ _).mono ?_; rintro e u3 ⟨rfl, hu3⟩; rw [hu3, d2]; clear hu3; dsimp only) | go_values | go_skip | go_guarded | go_step | go_upon)
          go_at_call 67
          refine (iare 6 pk _ _ _ (hpk.kept kz) (by omega) (by omega)).mono ?_
          rintro e u4 ⟨rfl, k4⟩
          rw [d4]
          have L1 := L1.kept k4
          have L2 := L2.kept k4
          have kz := kz.trans k4
          clear q0 q1 q2 ql r0 r1 r2 rf0 rf1 rf2 rl k4
          have q0 := L1.cell 0 rfl
          have q1 := L1.cell 1 rfl
          have q2 := L1.cell 2 rfl
          have ql := L1.lt
          have r0 := L2.cell 0 rfl
          have r1 := L2.cell 1 rfl
          have r2 := L2.cell 2 rfl
          have rf0 := L2.frozen 0
          have rf1 := L2.frozen 1
          have rf2 := L2.frozen 2
          have rl := L2.lt
          dsimp only
          repeat (first | go_values | go_skip | go_guarded | go_step | go_upon)
          refine bodyPost_ret (v := .tuple #[.agg #[.int .i64 0, .int .i64 0, .slice none 0 0], .bool false]) (by simp [results, Try.results41, go_sem, *]) rfl ?_
          exact ⟨_, rfl, no_field _ _ _, ((kz.setNew (by simp) _).setNew (by simp) _).setNew (by simp) _⟩
        | true =>
          rw [auto_yes ⟨hg, h2, HN3.out, of_dec d4⟩]
          obtain ⟨hs0, hs1⟩ := h2
          clear hg
          go_enter Try.func41, Try.ntmps41
          go_upto_region 1 with fail
          obtain ⟨W, hW⟩ : ∃ x, x = (w.alloc (.cells #[.int .i64 f.1, .int .i64 f.2.1, .slice ao f.2.2.length cap] 28)).alloc (.cells #[.int .i64 0, .int .i64 0, .slice none 0 0] 28) := ⟨_, rfl⟩
          have kz : Kept w W := by rw [hW]; exact ((But.refl _ _ _).alloc _).alloc _
          have L1 : Loc W w.heap.size [.int .i64 f.1, .int .i64 f.2.1, .slice ao f.2.2.length cap] := by rw [hW]; exact (Loc.new w [.int .i64 f.1, .int .i64 f.2.1, .slice ao f.2.2.length cap] 28).alloc _
          have L2 : Loc W (w.heap.size + 1) [.int .i64 0, .int .i64 0, .slice none 0 0] := by rw [hW]; have := Loc.new (w.alloc (.cells #[.int .i64 f.1, .int .i64 f.2.1, .slice ao f.2.2.length cap] 28)) [.int .i64 0, .int .i64 0, .slice none 0 0] 28; simpa using this
          rw [← hW]
          clear hW
          have q0 := L1.cell 0 rfl
          have q1 := L1.cell 1 rfl
          have q2 := L1.cell 2 rfl
          have ql := L1.lt
          have r0 := L2.cell 0 rfl
          have r1 := L2.cell 1 rfl
          have r2 := L2.cell 2 rfl
          have rf0 := L2.frozen 0
          have rf1 := L2.frozen 1
          have rf2 := L2.frozen 2
          have rl := L2.lt
          repeat (first | go_values | go_skip | go_guarded | go_step | go_upon)
          go_at_call 58
          refine (itiles _ f 6 _ (hf.kept kz) (by omega) hn).mono ?_
          rintro e u1 ⟨rfl, k1⟩
          rw [d1]
          have L1 := L1.kept k1
          have L2 := L2.kept k1
          have kz := kz.trans k1
          clear q0 q1 q2 ql r0 r1 r2 rf0 rf1 rf2 rl k1
          have q0 := L1.cell 0 rfl
          have q1 := L1.cell 1 rfl
          have q2 := L1.cell 2 rfl
          have ql := L1.lt
          have r0 := L2.cell 0 rfl
          have r1 := L2.cell 1 rfl
          have r2 := L2.cell 2 rfl
          have rf0 := L2.frozen 0
          have rf1 := L2.frozen 1
          have rf2 := L2.frozen 2
          have rl := L2.lt
          dsimp only
          repeat (first | (go_at_call 64; refine (isort _ _ _).mono ?_; rintro e u3 ⟨rfl, hu3⟩; rw [hu3, d2]; clear hu3; dsimp only) | go_values | go_skip | go_guarded | go_step | go_upon)
          go_at_call 67
          refine (iare 6 pk _ _ _ (hpk.kept kz) (by omega) (by omega)).mono ?_
          rintro e u4 ⟨rfl, k4⟩
          rw [d4]
          have L1 := L1.kept k4
          have L2 := L2.kept k4
          have kz := kz.trans k4
          clear q0 q1 q2 ql r0 r1 r2 rf0 rf1 rf2 rl k4
          have q0 := L1.cell 0 rfl
          have q1 := L1.cell 1 rfl
          have q2 := L1.cell 2 rfl
          have ql := L1.lt
          have r0 := L2.cell 0 rfl
          have r1 := L2.cell 1 rfl
          have r2 := L2.cell 2 rfl
          have rf0 := L2.frozen 0
          have rf1 := L2.frozen 1
          have rf2 := L2.frozen 2
          have rl := L2.lt
          dsimp only
          have hLw : w.heap.size + 1 < u4.heap.size := rl
          repeat (first | go_values | go_skip | go_guarded | go_step | go_upon)
          go_at_call 45
          refine (icopy _ f _ (hf.kept kz) hn).mono ?_
          rintro e u5 ⟨v5, rfl, o5, k5⟩
          obtain ⟨sv, es, o5⟩ := o5
          obtain ⟨g, cap5, ef⟩ := own_some o5 (by omega)
          subst ef
          subst es
          have L1 := L1.kept k5
          have L2 := L2.kept k5
          clear q0 q1 q2 ql r0 r1 r2 rf0 rf1 rf2
          have q2 := L1.cell 2 rfl
          have hgl := own_lt o5.1 (g := g) rfl
          have hgh := o5.2 g rfl
          have ql := L1.lt
          have hk5 := k5.size
          have kz := kz.trans k5
          dsimp only
          repeat (first | go_values | go_skip | go_guarded | go_step | go_upon)
          clear q2
          obtain ⟨X, hX⟩ : ∃ x, x = u5.alloc (.cells #[.int .i64 f.1, .int .i64 f.2.1, .slice (some ⟨g, 0, none⟩) f.2.2.length cap5] 28) := ⟨_, rfl⟩
          have kx : Kept u5 X := by rw [hX]; exact (But.refl _ _ _).alloc _
          have LX : Loc X u5.heap.size [.int .i64 f.1, .int .i64 f.2.1, .slice (some ⟨g, 0, none⟩) f.2.2.length cap5] := by rw [hX]; exact Loc.new _ _ _
          rw [← hX]
          clear hX
          have L1 := L1.kept kx
          have L2 := L2.kept kx
          have o5 := o5.kept kx
          have KX := kz.trans kx
          clear kz k5 kx ql
          go_loopw [35] (fun i wr => ∃ k : Nat, k ≤ f.2.2.length ∧ i = .int .i64 k ∧ Hid (NumO wr u4.heap.size u5.heap.size (.slice (some ⟨g, 0, none⟩) f.2.2.length cap5) (mix (autoL f s pk) f.2.2 k)) ∧ Hid (But g (g + 1) X wr)) (fun i _ => f.2.2.length - (intOf i).toNat)
          case atStart => exact ⟨0, by omega, rfl, by show NumO _ _ _ _ _; rw [mix_zero]; exact o5, But.refl _ _ _⟩
          case round =>
            obtain ⟨k, hk, rfl, HO, HB⟩ := hrel
            have M1 := L1.but HB.out (by omega)
            have M2 := L2.but HB.out (by omega)
            have MX := LX.but HB.out (by omega)
            have KR : Kept w wr := KX.onto HB.out (by omega)
            have q0 := M1.cell 0 rfl
            have q1 := M1.cell 1 rfl
            have q2 := M1.cell 2 rfl
            have x2 := MX.cell 2 rfl
            by_cases hlt : k < f.2.2.length
            · obtain ⟨p, hp⟩ : ∃ p : Int, f.2.2[k]? = some p := ⟨_, List.getElem?_eq_getElem hlt⟩
              obtain ⟨b, o, cap1, ee, c0⟩ := num_get (hf.kept KR).row hp
              cases ee
              have hgd : f.2.2.getD k 0 = p := by rw [List.getD_eq_getElem?_getD, hp]; rfl
              have hag := autoL_get f s pk hlt
              have HP : Hid (f.2.2[k]? = some p) := hp
              clear hp
              by_cases h1 : p = s
              · have d1 : (p == s) = true := by simpa using h1
                have hT : autoT f s pk k = pk.getD (maskA f k s).toNat 0 := by unfold autoT; rw [hgd, if_pos h1]
                obtain ⟨hm0, hm1⟩ := maskA_bd f k s
                obtain ⟨m, hm⟩ : ∃ m : Nat, maskA f k s = (m : Int) := ⟨(maskA f k s).toNat, by omega⟩
                have hm16 : m < pk.length := by rw [HN3.out]; omega
                obtain ⟨y, hy⟩ : ∃ y : Int, pk[m]? = some y := ⟨_, List.getElem?_eq_getElem hm16⟩
                have hTy : autoT f s pk k = y := by rw [hT, hm]; rw [List.getD_eq_getElem?_getD, Int.toNat_natCast, hy]; rfl
                rw [hTy] at hag
                obtain ⟨b2, o2, cap2, ee, c02⟩ := num_get (hpk.kept KR) hy
                cases ee
                have hmg : (mix (autoL f s pk) f.2.2 k)[k]? = some p := by rw [mix_get _ _ _ (autoL_len _ _ _) hlt]; exact HP.out
                have hml : f.2.2.length = (mix (autoL f s pk) f.2.2 k).length := (mix_len _ _ _ (autoL_len _ _ _) hk).symm
                obtain ⟨dc, dz⟩ := HO.out.cells hmg
                have dz0 := dz k
                have HMG : Hid _ := And.intro hmg hml
                have HAG : Hid _ := hag
                have HM : Hid (maskA f k s = (m : Int)) := hm
                have HMR : Hid (maskR f k s = (m : Int)) := by show maskR f k s = _; unfold maskR; rw [dec_yes ⟨HG.out, ⟨by omega, by omega⟩, ⟨hs0, hs1⟩⟩]; exact hm
                have HFA : ∀ z : KW wr, FieldAt z.w (.agg #[.int .i64 f.1, .int .i64 f.2.1, .slice (some ⟨b, o, none⟩) f.2.2.length cap]) f := fun z => hf.kept (KR.trans z.k)
                have c02l := cell_ltG c02
                have m1l := M1.lt
                have mxl := MX.lt
                clear hgd hag hT hm hy hTy hmg hml dz hm0 hm1
                repeat (first | go_values | go_skip | go_guarded | go_step | go_upon)
                refine wp_region_ksp 11 5 (by kernel_rfl) (by kernel_rfl) (by kernel_rfl) (by decide) ?_
                have hcc := KW.cell_eq wr
                simp only [List.take_succ_cons, List.take_zero, List.drop_succ_cons, List.drop_zero]
                repeat (go_big_quiet_step (first | (go_at_call 38; exact kw_call (calls_int HMR.out (imask _ f k s _ (HFA _) hn)))))
                refine wpQuiet_nil ?_
                rintro y9 ⟨⟨w6, k6⟩, h9⟩
                change y9 = w6 at h9
                subst h9
                clear hcc HFA
                have dc9 := Kept.cell k6 dc
                have dz9 : y9.frozen? ⟨g, k, none⟩ = false := by rw [k6.frozen_eq _ _ (cell_ltG dc)]; exact dz0
                clear q0 q1 q2 x2 dc dz0 c02 c02l m1l mxl c0
                repeat (first | go_values | go_skip | go_guarded | go_step | go_upon)
                refine ⟨⟨k + 1, hlt, by go_num, ?_, ?_⟩, by simp [intOf]; omega⟩
                · show NumO _ _ _ _ _
                  rw [← mix_set _ _ k _ (autoL_len f s pk) HAG.out]
                  exact (HO.out.kept k6).set HMG.out.2 HMG.out.1 y
                · exact HB.out.trans (((But.of k6)).setCell (by simp) (by simp) _)
              · have d1 : (p == s) = false := by simpa using h1
                have hT : autoT f s pk k = p := by unfold autoT; rw [hgd, if_neg h1]
                rw [hT] at hag
                have HAG : Hid _ := hag
                clear hgd hag hT
                repeat (first | go_values | go_skip | go_guarded | go_step | go_upon)
                refine ⟨⟨k + 1, hlt, by go_num, ?_, HB⟩, by simp [intOf]; omega⟩
                show NumO _ _ _ _ _
                rw [← mix_set _ _ k _ (autoL_len f s pk) HAG.out, list_set_same (by rw [mix_get _ _ _ (autoL_len _ _ _) hlt]; exact HP.out)]
                exact HO.out
            · have hke : k = f.2.2.length := by omega
              subst hke
              clear q0 q1 q2
              have x0 := MX.cell 0 rfl
              have x1 := MX.cell 1 rfl
              have r0 := M2.cell 0 rfl
              have r1 := M2.cell 1 rfl
              have r2 := M2.cell 2 rfl
              have rf0 := M2.frozen 0
              have rf1 := M2.frozen 1
              have rf2 := M2.frozen 2
              repeat (first | go_values | go_skip | go_guarded | go_step | go_upon)
              have B : But (w.heap.size + 1) (w.heap.size + 2) wr (((wr.setCell ⟨w.heap.size + 1, 0, none⟩ (.int .i64 f.1)).setCell ⟨w.heap.size + 1, 1, none⟩ (.int .i64 f.2.1)).setCell ⟨w.heap.size + 1, 2, none⟩ (.slice (some ⟨g, 0, none⟩) f.2.2.length cap5)) :=
                (((But.refl _ _ _).setCell (by simp) (by simp) _).setCell (by simp) (by simp) _).setCell (by simp) (by simp) _
              refine bodyPost_ret (v := .tuple #[.agg #[.int .i64 f.1, .int .i64 f.2.1, .slice (some ⟨g, 0, none⟩) f.2.2.length cap5], .bool true]) (by simp [results, Try.results41, go_sem, *]) rfl ?_
              have ho : NumO wr u4.heap.size u5.heap.size (.slice (some ⟨g, 0, none⟩) f.2.2.length cap5) (mix (autoL f s pk) f.2.2 f.2.2.length) := HO.out
              rw [mix_all _ _ _ (autoL_len f s pk) rfl] at ho
              exact ⟨_, rfl, ⟨_, rfl, NumO.low ((ho.but B (by omega)).mono (lo' := w.heap.size) (hi' := u5.heap.size) (by omega) (Nat.le_refl _))⟩, KR.onto B (by omega)⟩

      · have d3 : ((pk.length : Int) == 16) = false := by simp; omega
        have d3' : ((pk.length : Int) != 16) = true := by simp; omega
        rw [auto_no (fun h => h3 h.2.2.1)]
        go_enter Try.func41, Try.ntmps41
        go_upto_region 1 with fail
        obtain ⟨W, hW⟩ : ∃ x, x = (w.alloc (.cells #[.int .i64 f.1, .int .i64 f.2.1, .slice ao f.2.2.length cap] 28)).alloc (.cells #[.int .i64 0, .int .i64 0, .slice none 0 0] 28) := ⟨_, rfl⟩
        have kz : Kept w W := by rw [hW]; exact ((But.refl _ _ _).alloc _).alloc _
        have L1 : Loc W w.heap.size [.int .i64 f.1, .int .i64 f.2.1, .slice ao f.2.2.length cap] := by rw [hW]; exact (Loc.new w [.int .i64 f.1, .int .i64 f.2.1, .slice ao f.2.2.length cap] 28).alloc _
        have L2 : Loc W (w.heap.size + 1) [.int .i64 0, .int .i64 0, .slice none 0 0] := by rw [hW]; have := Loc.new (w.alloc (.cells #[.int .i64 f.1, .int .i64 f.2.1, .slice ao f.2.2.length cap] 28)) [.int .i64 0, .int .i64 0, .slice none 0 0] 28; simpa using this
        rw [← hW]
        clear hW
        have q0 := L1.cell 0 rfl
        have q1 := L1.cell 1 rfl
        have q2 := L1.cell 2 rfl
        have ql := L1.lt
        have r0 := L2.cell 0 rfl
        have r1 := L2.cell 1 rfl
        have r2 := L2.cell 2 rfl
        have rf0 := L2.frozen 0
        have rf1 := L2.frozen 1
        have rf2 := L2.frozen 2
        have rl := L2.lt
        repeat (first | go_values | go_skip | go_guarded | go_step | go_upon)
        go_at_call 58
        refine (itiles _ f 6 _ (hf.kept kz) (by omega) hn).mono ?_
        rintro e u1 ⟨rfl, k1⟩
        rw [d1]
        have L1 := L1.kept k1
        have L2 := L2.kept k1
        have kz := kz.trans k1
        clear q0 q1 q2 ql r0 r1 r2 rf0 rf1 rf2 rl k1
        have q0 := L1.cell 0 rfl
        have q1 := L1.cell 1 rfl
        have q2 := L1.cell 2 rfl
        have ql := L1.lt
        have r0 := L2.cell 0 rfl
        have r1 := L2.cell 1 rfl
        have r2 := L2.cell 2 rfl
        have rf0 := L2.frozen 0
        have rf1 := L2.frozen 1
        have rf2 := L2.frozen 2
        have rl := L2.lt
        dsimp only
        repeat (first | (go_at_call 64; refine (isort _ _ _).mono ?_; rintro e u3 ⟨rfl, hu3⟩; rw [hu3, d2]; clear hu3; dsimp only) | go_values | go_skip | go_guarded | go_step | go_upon)
        repeat (first | go_values | go_skip | go_guarded | go_step | go_upon)
        refine bodyPost_ret (v := .tuple #[.agg #[.int .i64 0, .int .i64 0, .slice none 0 0], .bool false]) (by simp [results, Try.results41, go_sem, *]) rfl ?_
        exact ⟨_, rfl, no_field _ _ _, ((kz.setNew (by simp) _).setNew (by simp) _).setNew (by simp) _⟩
    · have d2 : decide (0 ≤ s ∧ s < 6) = false := decide_eq_false (by omega)
      rw [auto_no (fun h => h2 h.2.1)]
      go_enter Try.func41, Try.ntmps41
      go_upto_region 1 with fail
      obtain ⟨W, hW⟩ : ∃ x, x = (w.alloc (.cells #[.int .i64 f.1, .int .i64 f.2.1, .slice ao f.2.2.length cap] 28)).alloc (.cells #[.int .i64 0, .int .i64 0, .slice none 0 0] 28) := ⟨_, rfl⟩
      have kz : Kept w W := by rw [hW]; exact ((But.refl _ _ _).alloc _).alloc _
      have L1 : Loc W w.heap.size [.int .i64 f.1, .int .i64 f.2.1, .slice ao f.2.2.length cap] := by rw [hW]; exact (Loc.new w [.int .i64 f.1, .int .i64 f.2.1, .slice ao f.2.2.length cap] 28).alloc _
      have L2 : Loc W (w.heap.size + 1) [.int .i64 0, .int .i64 0, .slice none 0 0] := by rw [hW]; have := Loc.new (w.alloc (.cells #[.int .i64 f.1, .int .i64 f.2.1, .slice ao f.2.2.length cap] 28)) [.int .i64 0, .int .i64 0, .slice none 0 0] 28; simpa using this
      rw [← hW]
      clear hW
      have q0 := L1.cell 0 rfl
      have q1 := L1.cell 1 rfl
      have q2 := L1.cell 2 rfl
      have ql := L1.lt
      have r0 := L2.cell 0 rfl
      have r1 := L2.cell 1 rfl
      have r2 := L2.cell 2 rfl
      have rf0 := L2.frozen 0
      have rf1 := L2.frozen 1
      have rf2 := L2.frozen 2
      have rl := L2.lt
      repeat (first | go_values | go_skip | go_guarded | go_step | go_upon)
      go_at_call 58
      refine (itiles _ f 6 _ (hf.kept kz) (by omega) hn).mono ?_
      rintro e u1 ⟨rfl, k1⟩
      rw [d1]
      have L1 := L1.kept k1
      have L2 := L2.kept k1
      have kz := kz.trans k1
      clear q0 q1 q2 ql r0 r1 r2 rf0 rf1 rf2 rl k1
      have q0 := L1.cell 0 rfl
      have q1 := L1.cell 1 rfl
      have q2 := L1.cell 2 rfl
      have ql := L1.lt
      have r0 := L2.cell 0 rfl
      have r1 := L2.cell 1 rfl
      have r2 := L2.cell 2 rfl
      have rf0 := L2.frozen 0
      have rf1 := L2.frozen 1
      have rf2 := L2.frozen 2
      have rl := L2.lt
      dsimp only
      repeat (first | (go_at_call 64; refine (isort _ _ _).mono ?_; rintro e u3 ⟨rfl, hu3⟩; rw [hu3, d2]; clear hu3; dsimp only) | go_values | go_skip | go_guarded | go_step | go_upon)
      repeat (first | go_values | go_skip | go_guarded | go_step | go_upon)
      refine bodyPost_ret (v := .tuple #[.agg #[.int .i64 0, .int .i64 0, .slice none 0 0], .bool false]) (by simp [results, Try.results41, go_sem, *]) rfl ?_
      exact ⟨_, rfl, no_field _ _ _, ((kz.setNew (by simp) _).setNew (by simp) _).setNew (by simp) _⟩

end Go.Proofs.Ytopakblckajdmaa
