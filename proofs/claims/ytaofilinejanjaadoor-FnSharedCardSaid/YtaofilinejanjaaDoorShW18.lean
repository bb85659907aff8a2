/-
  The law FnShared, walked.
-/
import Derived.Test.YtaofilinejanjaaDoorShR18
import Derived.Test.YtaofilinejanjaaDoorSame18
import Derived.Test.YtaofilinejanjaaDoorInkW18
import Derived.Test.YtaofilinejanjaaDoorDrawR18
import Derived.Test.YtaofilinejanjaaDoorDrawW18
import Derived.Test.YtaofilinejanjaaDoorRoomS18
import Derived.Test.YtaofilinejanjaaDoorRoomI18
import Derived.Test.YtaofilinejanjaaDoorWrapS18
import Derived.Test.YtaofilinejanjaaDoorWrapI18
namespace Go.Proofs.YtaofilinejanjaaDoor
open Go.ChangeShapes Go.WideShapes Go.ChangeAt Go.RowKit

set_option maxRecDepth 100000
set_option linter.unusedVariables false
theorem gm_kept {w w' : World} (h : ∃ m, w.cell? ⟨0, 0, none⟩ = some (.int .i64 m)) (k : Kept w w') : ∃ m, w'.cell? ⟨0, 0, none⟩ = some (.int .i64 m) := by
  obtain ⟨m, hm⟩ := h
  exact ⟨m, Kept.cell k hm⟩
set_option maxRecDepth 100000 in
set_option maxHeartbeats 8000000 in
theorem walk (ao0 : Option Addr) (len0 cap0 : Nat) (ao1 : Option Addr) (len1 cap1 : Nat) (w : World) (hc0 : Code w ao0 len0) (hc1 : Code w ao1 len1) (hm : ∃ m, w.cell? ⟨0, 0, none⟩ = some (.int .i64 m)) (hm0 : len0 ≤ 9223372036854775807) (hm1 : len1 ≤ 9223372036854775807) (hd : decide ((1048576 : Int) < wrap64 ((len0 : Int) + len1)) = false) :
    Calls Tryd.prog 3 #[.slice ao0 len0 cap0, .slice ao1 len1 cap1] w fun e w' => e = .returned (.bool true) ∧ Kept w w' := by
  have HC0 : Hid (Code w ao0 len0) := hc0
  have HC1 : Hid (Code w ao1 len1) := hc1
  have HM : Hid (∃ m, w.cell? ⟨0, 0, none⟩ = some (.int .i64 m)) := hm
  clear hc0 hc1 hm
  go_enter Tryd.func3, Tryd.ntmps3
  repeat (first | go_values | go_skip | go_guarded | go_step | go_upon)
  go_at_call 5
  refine (drawR ao0 len0 cap0 _ HC0.out (by omega)).mono ?_
  rintro e w1 ⟨R, la, lb, va, vb, rfl, hla, hlb, ra, rb, k1⟩
  dsimp only
  obtain ⟨aoa, ca, hfa⟩ := row_nil ra
  subst hfa
  obtain ⟨aob, cb, hfb⟩ := row_nil rb
  subst hfb
  obtain ⟨l, ok, hlk⟩ : ∃ l ok, roomA R la lb = (l, ok) := ⟨_, _, rfl⟩
  have hI := fun u h1 h2 => iroomS R la lb (.slice aoa la.length ca) (.slice aob lb.length cb) u h1 h2 (by omega) (by omega)
  have hS := fun u h1 h2 => sroom R la lb (.slice aoa la.length ca) (.slice aob lb.length cb) u h1 h2 (by omega) (by omega)
  have HF : Hid (ok = true → ShF R la lb l) := by
    show ok = true → ShF R la lb l
    intro hb
    rcases Classical.em (RoomOk R la lb) with hk | hk
    · rw [roomA_yes hk] at hlk
      cases hlk
      exact shF hk
    · rw [roomA_no hk] at hlk
      cases hlk
      cases hb
  have hll : l.length ≤ 40 := by have := roomA_len R la lb; rw [hlk] at this; exact this
  rw [hlk] at hI hS
  have HI := hide hI
  have HS := hide hS
  have HRA : Hid (NumAt w1 (.slice aoa la.length ca) la) := ra
  have HRB : Hid (NumAt w1 (.slice aob lb.length cb) lb) := rb
  have HK1 : Hid (Kept w w1) := k1
  clear hI hS hlk ra rb k1 HC0
  repeat (first | go_values | go_skip | go_guarded | go_step | go_upon)
  go_at_call 6
  refine (HI.out _ HRA.out HRB.out).mono ?_
  rintro e w2 ⟨vi, rfl, oi, k2⟩
  dsimp only
  have HRA2 : Hid (NumAt w2 (.slice aoa la.length ca) la) := HRA.out.kept k2
  have HRB2 : Hid (NumAt w2 (.slice aob lb.length cb) lb) := HRB.out.kept k2
  have HK2 : Hid (Kept w w2) := HK1.out.trans k2
  have HOI : Hid (NumAt w2 vi l) := oi.at
  obtain ⟨ai, ci, hfi⟩ := oi.form
  subst hfi
  clear k2 oi HRA HRB HK1 HI
  repeat (first | go_values | go_skip | go_guarded | go_step | go_upon)
  go_at_call 7
  refine (HS.out _ HRA2.out HRB2.out).mono ?_
  rintro e w3 ⟨vs, rfl, os, k3⟩
  dsimp only
  have HRA3 : Hid (NumAt w3 (.slice aoa la.length ca) la) := HRA2.out.kept k3
  have HRB3 : Hid (NumAt w3 (.slice aob lb.length cb) lb) := HRB2.out.kept k3
  have HK3 : Hid (Kept w w3) := HK2.out.trans k3
  have HOI3 : Hid (NumAt w3 (.slice ai l.length ci) l) := HOI.out.kept k3
  have os2 := os.at
  obtain ⟨a9, c9, hfs⟩ := os.form
  subst hfs
  have HTI : Hid (Calls Tryd.prog 8 #[.slice ai l.length ci, .slice a9 l.length c9] w3 fun e w' => e = .returned (.bool true) ∧ Kept w3 w') := sameI l _ _ w3 HOI3.out os2 (by omega)
  clear k3 os os2 HRA2 HRB2 HK2 HS HOI
  cases ok
  · repeat (first | go_values | go_skip | go_guarded | go_step | go_upon)
    go_at_call 8
    refine Calls.mono HTI.out ?_
    rintro e w4 ⟨rfl, k4⟩
    dsimp only
    have HK4 : Hid (Kept w w4) := HK3.out.trans k4
    clear k4 HK3 HOI3 HTI HF HRA3 HRB3 hll
    repeat (first | go_values | go_skip | go_guarded | go_step | go_upon)
    go_at_call 9
    refine (drawW ao1 len1 cap1 _ (HC1.out.keep HK4.out) (by omega)).mono ?_
    rintro e x1 ⟨s, n, rfl, hsz, hn, kx1⟩
    dsimp only
    have HX1 : Hid (Kept w x1) := HK4.out.trans kx1
    clear kx1 HK4 HC1
    obtain ⟨L, laid, hL⟩ : ∃ L laid, wrapA s n = (L, laid) := ⟨_, _, rfl⟩
    have hI := fun u hu => iwrap s n u (by omega) hu
    have hS := fun u => swrap s n u (by omega)
    have HF : Hid (laid = true → LnF s n L ∧ (1 ≤ n ∧ n ≤ 100)) := by
      show laid = true → LnF s n L ∧ (1 ≤ n ∧ n ≤ 100)
      intro hb
      rcases Classical.em (WrapOk s n) with hk | hk
      · have h := lnF hk
        rw [hL] at h
        exact ⟨h, hk.2⟩
      · rw [wrapA_no hk] at hL
        cases hL
        cases hb
    have HLL : Hid (L.length ≤ 160801) := (by have := wrapA_len s n; rw [hL] at this; exact this : L.length ≤ 160801)
    rw [hL] at hI hS
    have HI : Hid (∀ (u : World), (∃ m, u.cell? ⟨0, 0, none⟩ = some (.int .i64 m)) → Calls Tryd.prog 10 #[.string s, .int .i64 n] u fun e u' => ∃ v', e = .returned (.tuple #[v', .bool laid]) ∧ TxtO u' u.heap.size u'.heap.size v' L ∧ Kept u u') := hI
    have HS : Hid (∀ (u : World), Calls Tryd.prog 11 #[.string s, .int .i64 n] u fun e u' => ∃ v', e = .returned (.tuple #[v', .bool laid]) ∧ TxtO u' u.heap.size u'.heap.size v' L ∧ Kept u u') := hS
    clear hI hS hL
    repeat (first | go_values | go_skip | go_guarded | go_step | go_upon)
    go_at_call 10
    refine (HI.out _ (gm_kept HM.out HX1.out)).mono ?_
    rintro e x2 ⟨vi, rfl, oi, kx2⟩
    dsimp only
    have HX2 : Hid (Kept w x2) := HX1.out.trans kx2
    have HOI : Hid (TxtAt x2 vi L) := oi.at
    obtain ⟨ai, ci, hfi⟩ := oi.form
    subst hfi
    clear kx2 HX1 oi HI HM
    repeat (first | go_values | go_skip | go_guarded | go_step | go_upon)
    go_at_call 11
    refine (HS.out _).mono ?_
    rintro e x3 ⟨vs, rfl, os, kx3⟩
    dsimp only
    have HX3 : Hid (Kept w x3) := HX2.out.trans kx3
    have HOI3 : Hid (TxtAt x3 (.slice ai L.length ci) L) := HOI.out.kept kx3
    have HOS : Hid (TxtAt x3 vs L) := os.at
    obtain ⟨a9, c9, hfs⟩ := os.form
    subst hfs
    clear kx3 HX2 os HS HOI
    have HTT : Hid (Calls Tryd.prog 12 #[.slice ai L.length ci, .slice a9 L.length c9] x3 fun e w' => e = .returned (.bool true) ∧ Kept x3 w') := sameT L _ _ x3 HOI3.out HOS.out (by have := HLL.out; omega)
    clear HOS
    cases laid
    · repeat (first | go_values | go_skip | go_guarded | go_step | go_upon)
      go_at_call 12
      refine Calls.mono HTT.out ?_
      rintro e x4 ⟨rfl, kx4⟩
      dsimp only
      have HX4 : Hid (Kept w x4) := HX3.out.trans kx4
      clear kx4 HX3 HOI3 HTT HF
      repeat (first | go_values | go_skip | go_guarded | go_step | go_upon)
      go_ret
      exact ⟨rfl, HX4.out⟩
    obtain ⟨hLF, hwn⟩ := HF.out rfl
    have HLF : Hid (LnF s n L) := hLF
    clear HF hLF
    repeat (first | go_values | go_skip | go_guarded | go_step | go_upon)
    go_at_call 12
    refine Calls.mono HTT.out ?_
    rintro e x4 ⟨rfl, kx4⟩
    dsimp only
    have HX4 : Hid (Kept w x4) := HX3.out.trans kx4
    have HOI4 : Hid (TxtAt x4 (.slice ai L.length ci) L) := HOI3.out.kept kx4
    have hL1 : L.length ≤ 160801 := HLL.out
    clear kx4 HX3 HOI3 HTT HLL
    repeat (first | go_values | go_skip | go_guarded | go_step | go_upon)
    go_loopw [22, 152] (fun v iv wr => ∃ (k : Nat) (t : ByteArray), k ≤ L.length ∧ iv = .int .i64 k ∧ v = .string t ∧ t.size ≤ 400 * k ∧ Hid (ink t = (L.take k).flatMap ink) ∧ Kept x4 wr) (fun v iv _ => L.length - (intOf iv).toNat)
    case atStart => exact ⟨0, ByteArray.empty, by omega, rfl, rfl, by simp, (rfl : ink ByteArray.empty = (L.take 0).flatMap ink), But.refl _ _ _⟩
    case round =>
      obtain ⟨k, t, hk, rfl, rfl, htk, HT, hkp⟩ := hrel
      by_cases hlt : k < L.length
      · obtain ⟨x, hx⟩ : ∃ x, L[k]? = some x := ⟨_, List.getElem?_eq_getElem hlt⟩
        obtain ⟨b, o, cap1', e, c0⟩ := txt_get (HOI4.out.kept hkp) hx
        cases e
        obtain ⟨hc1, hc2⟩ := HLF.out.cnt x (List.mem_of_getElem? hx)
        have hrl := runA_len x
        have HN : Hid (ink (t ++ x) = (L.take (k + 1)).flatMap ink) := (by rw [ink_app, HT.out, take_snoc hx, List.flatMap_append]; simp : ink (t ++ x) = (L.take (k + 1)).flatMap ink)
        have HR : Hid (∀ u, Calls Tryd.prog 13 #[.string x] u fun e w' => ∃ v, e = .returned (.tuple #[v, .bool (runA x).2]) ∧ NumO w' u.heap.size w'.heap.size v (runA x).1 ∧ Kept u w') := (fun u => sruns x u (by omega) : ∀ u, Calls Tryd.prog 13 #[.string x] u fun e w' => ∃ v, e = .returned (.tuple #[v, .bool (runA x).2]) ∧ NumO w' u.heap.size w'.heap.size v (runA x).1 ∧ Kept u w')
        obtain ⟨rl, rb, hrr⟩ : ∃ rl rb, runA x = (rl, rb) := ⟨_, _, rfl⟩
        rw [hrr] at HR hc1 hrl
        dsimp only at hc1 hrl
        have HK : Hid (Kept x4 wr) := hkp
        have z1 : (0 : Int) ≤ (k : Int) := by omega
        have z2 : (k : Int) < (L.length : Int) := by omega
        have dl : decide ((k : Int) < (L.length : Int)) = true := decide_eq_true z2
        have dw : decide (n < (rl.length : Int)) = false := decide_eq_false (by omega)
        have hbig : ¬ 9223372036854775807 < t.size + x.size := by omega
        clear hkp HT hrr hx
        repeat (first | go_values | go_skip | go_guarded | go_step | go_upon)
        go_at_call 13
        refine (HR.out _).mono ?_
        rintro e x5 ⟨vr, rfl, orr, kx5⟩
        dsimp only
        obtain ⟨ar, cr, hfr⟩ := orr.form
        subst hfr
        have HK5 : Hid (Kept x4 x5) := HK.out.trans kx5
        clear kx5 HK orr HR c0
        repeat (first | go_values | go_skip | go_guarded | go_step | go_upon)
        exact ⟨⟨k + 1, t ++ x, hlt, by go_num, rfl, by rw [ByteArray.size_append]; omega, HN, HK5.out⟩, by simp [intOf]; omega⟩
      · have hke : k = L.length := by omega
        subst hke
        have hEq : inkS t = inkS s := by
          unfold inkS
          rw [HT.out, List.take_length, HLF.out.ink]
        have h1 := fun u => inked t u (by omega)
        have h2 := fun u => inked s u (by omega)
        rw [hEq] at h1
        have H1 : Hid (∀ u, Calls Tryd.prog 14 #[.string t] u fun e w' => e = .returned (.string (inkS s)) ∧ w' = u) := h1
        have H2 : Hid (∀ u, Calls Tryd.prog 14 #[.string s] u fun e w' => e = .returned (.string (inkS s)) ∧ w' = u) := h2
        have HK : Hid (Kept x4 wr) := hkp
        have dl : decide ((L.length : Int) < (L.length : Int)) = false := decide_eq_false (by omega)
        clear h1 h2 hEq HT hkp htk
        generalize inkS s = q at *
        repeat (first | go_values | go_skip | go_guarded | go_step | go_upon)
        go_at_call 14
        refine (H1.out _).mono ?_
        rintro e x5 ⟨rfl, hx5⟩
        rw [hx5]
        clear hx5 x5
        dsimp only
        repeat (first | go_values | go_skip | go_guarded | go_step | go_upon)
        go_at_call 14
        refine (H2.out _).mono ?_
        rintro e x5 ⟨rfl, hx5⟩
        rw [hx5]
        clear hx5 x5
        dsimp only
        repeat (first | go_values | go_skip | go_guarded | go_step | go_upon)
        go_ret
        exact ⟨by simp, HX4.out.trans HK.out⟩
  · have HFF : Hid (ShF R la lb l) := HF.out rfl
    repeat (first | go_values | go_skip | go_guarded | go_step | go_upon)
    go_at_call 8
    refine Calls.mono HTI.out ?_
    rintro e w4 ⟨rfl, k4⟩
    dsimp only
    have HK4 : Hid (Kept w w4) := HK3.out.trans k4
    have HRA4 : Hid (NumAt w4 (.slice aoa la.length ca) la) := HRA3.out.kept k4
    have HRB4 : Hid (NumAt w4 (.slice aob lb.length cb) lb) := HRB3.out.kept k4
    have HOI4 : Hid (NumAt w4 (.slice ai l.length ci) l) := HOI3.out.kept k4
    clear k4 HK3 HOI3 HTI HF HRA3 HRB3
    repeat (first | go_values | go_skip | go_guarded | go_step | go_upon)
    go_loopw [12, 13, 14, 65] (fun sv hv av iv wr => ∃ k : Nat, k ≤ l.length ∧ iv = .int .i64 k ∧ sv = .int .i64 (l.take k).sum ∧ hv = .int .i64 (la.take k).sum ∧ av = .int .i64 (lb.take k).sum ∧ Kept w4 wr) (fun sv hv av iv _ => l.length - (intOf iv).toNat)
    case atStart => exact ⟨0, by omega, rfl, by simp, by simp, by simp, But.refl _ _ _⟩
    case round =>
      obtain ⟨k, hk, rfl, rfl, rfl, rfl, hkp⟩ := hrel
      have q1 := part HFF.out.bl hll k
      have q2 := part HFF.out.ba HFF.out.short k
      have q3 := part HFF.out.bb (by have := HFF.out.len'; have := HFF.out.short; omega) k
      by_cases hlt : k < l.length
      · have hka : k < la.length := by have := HFF.out.len; omega
        have hkb : k < lb.length := by have := HFF.out.len'; omega
        obtain ⟨p, hp⟩ : ∃ p, l[k]? = some p := ⟨_, List.getElem?_eq_getElem hlt⟩
        obtain ⟨pa, hpa⟩ : ∃ p, la[k]? = some p := ⟨_, List.getElem?_eq_getElem hka⟩
        obtain ⟨pb, hpb⟩ : ∃ p, lb[k]? = some p := ⟨_, List.getElem?_eq_getElem hkb⟩
        obtain ⟨b1, o1, cp1, e, c1⟩ := num_get (HOI4.out.kept hkp) hp
        cases e
        obtain ⟨b2, o2, cp2, e, c2⟩ := num_get (HRA4.out.kept hkp) hpa
        cases e
        obtain ⟨b3, o3, cp3, e, c3⟩ := num_get (HRB4.out.kept hkp) hpb
        cases e
        have y1 := HFF.out.bl p (List.mem_of_getElem? hp)
        have y2 := HFF.out.ba pa (List.mem_of_getElem? hpa)
        have y3 := HFF.out.bb pb (List.mem_of_getElem? hpb)
        have hge := HFF.out.ge k pa p hpa hp
        have T1 : Hid ((l.take (k + 1)).sum = (l.take k).sum + p) := sum_take hp
        have T2 : Hid ((la.take (k + 1)).sum = (la.take k).sum + pa) := sum_take hpa
        have T3 : Hid ((lb.take (k + 1)).sum = (lb.take k).sum + pb) := sum_take hpb
        generalize (l.take k).sum = S1 at *
        generalize (la.take k).sum = S2 at *
        generalize (lb.take k).sum = S3 at *
        have HK : Hid (Kept w4 wr) := hkp
        have z1 : (0 : Int) ≤ (k : Int) := by omega
        have z2 : (k : Int) < (l.length : Int) := by omega
        have z3 : (k : Int) < (la.length : Int) := by omega
        have z4 : (k : Int) < (lb.length : Int) := by omega
        have dl : decide ((k : Int) < (l.length : Int)) = true := decide_eq_true z2
        have dg : decide (p < pa) = false := decide_eq_false (by omega)
        have v1 : IntKind.i64.wrap (S1 + p) = S1 + p := IntWalk.i64_in _ (by omega)
        have v2 : IntKind.i64.wrap (S2 + pa) = S2 + pa := IntWalk.i64_in _ (by omega)
        have v3 : IntKind.i64.wrap (S3 + pb) = S3 + pb := IntWalk.i64_in _ (by omega)
        clear hkp hp hpa hpb
        go_wp2
        go_quiet (fail)
        go_wp2
        exact ⟨⟨k + 1, hlt, by go_num, by rw [T1.out], by rw [T2.out], by rw [T3.out], HK.out.drewN _⟩, by simp [intOf]; omega⟩
      · have hke : k = l.length := by omega
        subst hke
        have e1 : (l.take l.length).sum = l.sum := by rw [List.take_length]
        have e2 : (la.take l.length).sum = la.sum := by rw [HFF.out.len, List.take_length]
        have e3 : (lb.take l.length).sum = lb.sum := by rw [HFF.out.len, ← HFF.out.len', List.take_length]
        rw [e1] at q1 ⊢
        rw [e2] at q2 ⊢
        rw [e3] at q3 ⊢
        have g1 := HFF.out.s1
        have g2 := HFF.out.s2
        have gr := HFF.out.room
        generalize l.sum = S1 at *
        generalize la.sum = S2 at *
        generalize lb.sum = S3 at *
        have HK5 : Hid (Kept w wr) := HK4.out.trans hkp
        have dl : decide ((l.length : Int) < (l.length : Int)) = false := decide_eq_false (by omega)
        clear e1 e2 e3 hkp HK4 HOI4 HRA4 HRB4 HFF
        by_cases h1 : 0 < S3
        · have d1 : decide (0 < S3) = true := decide_eq_true h1
          have d4 : (S3 == 0) = false := by simp; omega
          by_cases h2 : S2 < R
          · have hS := g1 h1 h2
            subst hS
            have d2 : decide (S2 < S1) = true := decide_eq_true h2
            have d3 : decide (S1 ≤ S2) = false := decide_eq_false (by omega)
            clear g1 g2
            repeat (first | go_values | go_skip | go_guarded | go_step | go_upon)
            go_at_call 9
            refine (drawW ao1 len1 cap1 _ (HC1.out.keep HK5.out) (by omega)).mono ?_
            rintro e x1 ⟨s, n, rfl, hsz, hn, kx1⟩
            dsimp only
            have HX1 : Hid (Kept w x1) := HK5.out.trans kx1
            clear kx1 HK5 HC1
            obtain ⟨L, laid, hL⟩ : ∃ L laid, wrapA s n = (L, laid) := ⟨_, _, rfl⟩
            have hI := fun u hu => iwrap s n u (by omega) hu
            have hS := fun u => swrap s n u (by omega)
            have HF : Hid (laid = true → LnF s n L ∧ (1 ≤ n ∧ n ≤ 100)) := by
              show laid = true → LnF s n L ∧ (1 ≤ n ∧ n ≤ 100)
              intro hb
              rcases Classical.em (WrapOk s n) with hk | hk
              · have h := lnF hk
                rw [hL] at h
                exact ⟨h, hk.2⟩
              · rw [wrapA_no hk] at hL
                cases hL
                cases hb
            have HLL : Hid (L.length ≤ 160801) := (by have := wrapA_len s n; rw [hL] at this; exact this : L.length ≤ 160801)
            rw [hL] at hI hS
            have HI : Hid (∀ (u : World), (∃ m, u.cell? ⟨0, 0, none⟩ = some (.int .i64 m)) → Calls Tryd.prog 10 #[.string s, .int .i64 n] u fun e u' => ∃ v', e = .returned (.tuple #[v', .bool laid]) ∧ TxtO u' u.heap.size u'.heap.size v' L ∧ Kept u u') := hI
            have HS : Hid (∀ (u : World), Calls Tryd.prog 11 #[.string s, .int .i64 n] u fun e u' => ∃ v', e = .returned (.tuple #[v', .bool laid]) ∧ TxtO u' u.heap.size u'.heap.size v' L ∧ Kept u u') := hS
            clear hI hS hL
            repeat (first | go_values | go_skip | go_guarded | go_step | go_upon)
            go_at_call 10
            refine (HI.out _ (gm_kept HM.out HX1.out)).mono ?_
            rintro e x2 ⟨vi, rfl, oi, kx2⟩
            dsimp only
            have HX2 : Hid (Kept w x2) := HX1.out.trans kx2
            have HOI : Hid (TxtAt x2 vi L) := oi.at
            obtain ⟨ai, ci, hfi⟩ := oi.form
            subst hfi
            clear kx2 HX1 oi HI HM
            repeat (first | go_values | go_skip | go_guarded | go_step | go_upon)
            go_at_call 11
            refine (HS.out _).mono ?_
            rintro e x3 ⟨vs, rfl, os, kx3⟩
            dsimp only
            have HX3 : Hid (Kept w x3) := HX2.out.trans kx3
            have HOI3 : Hid (TxtAt x3 (.slice ai L.length ci) L) := HOI.out.kept kx3
            have HOS : Hid (TxtAt x3 vs L) := os.at
            obtain ⟨a9, c9, hfs⟩ := os.form
            subst hfs
            clear kx3 HX2 os HS HOI
            have HTT : Hid (Calls Tryd.prog 12 #[.slice ai L.length ci, .slice a9 L.length c9] x3 fun e w' => e = .returned (.bool true) ∧ Kept x3 w') := sameT L _ _ x3 HOI3.out HOS.out (by have := HLL.out; omega)
            clear HOS
            cases laid
            · repeat (first | go_values | go_skip | go_guarded | go_step | go_upon)
              go_at_call 12
              refine Calls.mono HTT.out ?_
              rintro e x4 ⟨rfl, kx4⟩
              dsimp only
              have HX4 : Hid (Kept w x4) := HX3.out.trans kx4
              clear kx4 HX3 HOI3 HTT HF
              repeat (first | go_values | go_skip | go_guarded | go_step | go_upon)
              go_ret
              exact ⟨rfl, HX4.out⟩
            obtain ⟨hLF, hwn⟩ := HF.out rfl
            have HLF : Hid (LnF s n L) := hLF
            clear HF hLF
            repeat (first | go_values | go_skip | go_guarded | go_step | go_upon)
            go_at_call 12
            refine Calls.mono HTT.out ?_
            rintro e x4 ⟨rfl, kx4⟩
            dsimp only
            have HX4 : Hid (Kept w x4) := HX3.out.trans kx4
            have HOI4 : Hid (TxtAt x4 (.slice ai L.length ci) L) := HOI3.out.kept kx4
            have hL1 : L.length ≤ 160801 := HLL.out
            clear kx4 HX3 HOI3 HTT HLL
            repeat (first | go_values | go_skip | go_guarded | go_step | go_upon)
            go_loopw [22, 152] (fun v iv wr => ∃ (k : Nat) (t : ByteArray), k ≤ L.length ∧ iv = .int .i64 k ∧ v = .string t ∧ t.size ≤ 400 * k ∧ Hid (ink t = (L.take k).flatMap ink) ∧ Kept x4 wr) (fun v iv _ => L.length - (intOf iv).toNat)
            case atStart => exact ⟨0, ByteArray.empty, by omega, rfl, rfl, by simp, (rfl : ink ByteArray.empty = (L.take 0).flatMap ink), But.refl _ _ _⟩
            case round =>
              obtain ⟨k, t, hk, rfl, rfl, htk, HT, hkp⟩ := hrel
              by_cases hlt : k < L.length
              · obtain ⟨x, hx⟩ : ∃ x, L[k]? = some x := ⟨_, List.getElem?_eq_getElem hlt⟩
                obtain ⟨b, o, cap1', e, c0⟩ := txt_get (HOI4.out.kept hkp) hx
                cases e
                obtain ⟨hc1, hc2⟩ := HLF.out.cnt x (List.mem_of_getElem? hx)
                have hrl := runA_len x
                have HN : Hid (ink (t ++ x) = (L.take (k + 1)).flatMap ink) := (by rw [ink_app, HT.out, take_snoc hx, List.flatMap_append]; simp : ink (t ++ x) = (L.take (k + 1)).flatMap ink)
                have HR : Hid (∀ u, Calls Tryd.prog 13 #[.string x] u fun e w' => ∃ v, e = .returned (.tuple #[v, .bool (runA x).2]) ∧ NumO w' u.heap.size w'.heap.size v (runA x).1 ∧ Kept u w') := (fun u => sruns x u (by omega) : ∀ u, Calls Tryd.prog 13 #[.string x] u fun e w' => ∃ v, e = .returned (.tuple #[v, .bool (runA x).2]) ∧ NumO w' u.heap.size w'.heap.size v (runA x).1 ∧ Kept u w')
                obtain ⟨rl, rb, hrr⟩ : ∃ rl rb, runA x = (rl, rb) := ⟨_, _, rfl⟩
                rw [hrr] at HR hc1 hrl
                dsimp only at hc1 hrl
                have HK : Hid (Kept x4 wr) := hkp
                have z1 : (0 : Int) ≤ (k : Int) := by omega
                have z2 : (k : Int) < (L.length : Int) := by omega
                have dl : decide ((k : Int) < (L.length : Int)) = true := decide_eq_true z2
                have dw : decide (n < (rl.length : Int)) = false := decide_eq_false (by omega)
                have hbig : ¬ 9223372036854775807 < t.size + x.size := by omega
                clear hkp HT hrr hx
                repeat (first | go_values | go_skip | go_guarded | go_step | go_upon)
                go_at_call 13
                refine (HR.out _).mono ?_
                rintro e x5 ⟨vr, rfl, orr, kx5⟩
                dsimp only
                obtain ⟨ar, cr, hfr⟩ := orr.form
                subst hfr
                have HK5 : Hid (Kept x4 x5) := HK.out.trans kx5
                clear kx5 HK orr HR c0
                repeat (first | go_values | go_skip | go_guarded | go_step | go_upon)
                exact ⟨⟨k + 1, t ++ x, hlt, by go_num, rfl, by rw [ByteArray.size_append]; omega, HN, HK5.out⟩, by simp [intOf]; omega⟩
              · have hke : k = L.length := by omega
                subst hke
                have hEq : inkS t = inkS s := by
                  unfold inkS
                  rw [HT.out, List.take_length, HLF.out.ink]
                have h1 := fun u => inked t u (by omega)
                have h2 := fun u => inked s u (by omega)
                rw [hEq] at h1
                have H1 : Hid (∀ u, Calls Tryd.prog 14 #[.string t] u fun e w' => e = .returned (.string (inkS s)) ∧ w' = u) := h1
                have H2 : Hid (∀ u, Calls Tryd.prog 14 #[.string s] u fun e w' => e = .returned (.string (inkS s)) ∧ w' = u) := h2
                have HK : Hid (Kept x4 wr) := hkp
                have dl : decide ((L.length : Int) < (L.length : Int)) = false := decide_eq_false (by omega)
                clear h1 h2 hEq HT hkp htk
                generalize inkS s = q at *
                repeat (first | go_values | go_skip | go_guarded | go_step | go_upon)
                go_at_call 14
                refine (H1.out _).mono ?_
                rintro e x5 ⟨rfl, hx5⟩
                rw [hx5]
                clear hx5 x5
                dsimp only
                repeat (first | go_values | go_skip | go_guarded | go_step | go_upon)
                go_at_call 14
                refine (H2.out _).mono ?_
                rintro e x5 ⟨rfl, hx5⟩
                rw [hx5]
                clear hx5 x5
                dsimp only
                repeat (first | go_values | go_skip | go_guarded | go_step | go_upon)
                go_ret
                exact ⟨by simp, HX4.out.trans HK.out⟩
          · have hS := g2 (.inr (by omega))
            subst hS
            have d2 : decide (S1 < R) = false := decide_eq_false h2
            have d3 : decide (R ≤ S1) = true := decide_eq_true (by omega)
            clear g1 g2
            repeat (first | go_values | go_skip | go_guarded | go_step | go_upon)
            go_at_call 9
            refine (drawW ao1 len1 cap1 _ (HC1.out.keep HK5.out) (by omega)).mono ?_
            rintro e x1 ⟨s, n, rfl, hsz, hn, kx1⟩
            dsimp only
            have HX1 : Hid (Kept w x1) := HK5.out.trans kx1
            clear kx1 HK5 HC1
            obtain ⟨L, laid, hL⟩ : ∃ L laid, wrapA s n = (L, laid) := ⟨_, _, rfl⟩
            have hI := fun u hu => iwrap s n u (by omega) hu
            have hS := fun u => swrap s n u (by omega)
            have HF : Hid (laid = true → LnF s n L ∧ (1 ≤ n ∧ n ≤ 100)) := by
              show laid = true → LnF s n L ∧ (1 ≤ n ∧ n ≤ 100)
              intro hb
              rcases Classical.em (WrapOk s n) with hk | hk
              · have h := lnF hk
                rw [hL] at h
                exact ⟨h, hk.2⟩
              · rw [wrapA_no hk] at hL
                cases hL
                cases hb
            have HLL : Hid (L.length ≤ 160801) := (by have := wrapA_len s n; rw [hL] at this; exact this : L.length ≤ 160801)
            rw [hL] at hI hS
            have HI : Hid (∀ (u : World), (∃ m, u.cell? ⟨0, 0, none⟩ = some (.int .i64 m)) → Calls Tryd.prog 10 #[.string s, .int .i64 n] u fun e u' => ∃ v', e = .returned (.tuple #[v', .bool laid]) ∧ TxtO u' u.heap.size u'.heap.size v' L ∧ Kept u u') := hI
            have HS : Hid (∀ (u : World), Calls Tryd.prog 11 #[.string s, .int .i64 n] u fun e u' => ∃ v', e = .returned (.tuple #[v', .bool laid]) ∧ TxtO u' u.heap.size u'.heap.size v' L ∧ Kept u u') := hS
            clear hI hS hL
            repeat (first | go_values | go_skip | go_guarded | go_step | go_upon)
            go_at_call 10
            refine (HI.out _ (gm_kept HM.out HX1.out)).mono ?_
            rintro e x2 ⟨vi, rfl, oi, kx2⟩
            dsimp only
            have HX2 : Hid (Kept w x2) := HX1.out.trans kx2
            have HOI : Hid (TxtAt x2 vi L) := oi.at
            obtain ⟨ai, ci, hfi⟩ := oi.form
            subst hfi
            clear kx2 HX1 oi HI HM
            repeat (first | go_values | go_skip | go_guarded | go_step | go_upon)
            go_at_call 11
            refine (HS.out _).mono ?_
            rintro e x3 ⟨vs, rfl, os, kx3⟩
            dsimp only
            have HX3 : Hid (Kept w x3) := HX2.out.trans kx3
            have HOI3 : Hid (TxtAt x3 (.slice ai L.length ci) L) := HOI.out.kept kx3
            have HOS : Hid (TxtAt x3 vs L) := os.at
            obtain ⟨a9, c9, hfs⟩ := os.form
            subst hfs
            clear kx3 HX2 os HS HOI
            have HTT : Hid (Calls Tryd.prog 12 #[.slice ai L.length ci, .slice a9 L.length c9] x3 fun e w' => e = .returned (.bool true) ∧ Kept x3 w') := sameT L _ _ x3 HOI3.out HOS.out (by have := HLL.out; omega)
            clear HOS
            cases laid
            · repeat (first | go_values | go_skip | go_guarded | go_step | go_upon)
              go_at_call 12
              refine Calls.mono HTT.out ?_
              rintro e x4 ⟨rfl, kx4⟩
              dsimp only
              have HX4 : Hid (Kept w x4) := HX3.out.trans kx4
              clear kx4 HX3 HOI3 HTT HF
              repeat (first | go_values | go_skip | go_guarded | go_step | go_upon)
              go_ret
              exact ⟨rfl, HX4.out⟩
            obtain ⟨hLF, hwn⟩ := HF.out rfl
            have HLF : Hid (LnF s n L) := hLF
            clear HF hLF
            repeat (first | go_values | go_skip | go_guarded | go_step | go_upon)
            go_at_call 12
            refine Calls.mono HTT.out ?_
            rintro e x4 ⟨rfl, kx4⟩
            dsimp only
            have HX4 : Hid (Kept w x4) := HX3.out.trans kx4
            have HOI4 : Hid (TxtAt x4 (.slice ai L.length ci) L) := HOI3.out.kept kx4
            have hL1 : L.length ≤ 160801 := HLL.out
            clear kx4 HX3 HOI3 HTT HLL
            repeat (first | go_values | go_skip | go_guarded | go_step | go_upon)
            go_loopw [22, 152] (fun v iv wr => ∃ (k : Nat) (t : ByteArray), k ≤ L.length ∧ iv = .int .i64 k ∧ v = .string t ∧ t.size ≤ 400 * k ∧ Hid (ink t = (L.take k).flatMap ink) ∧ Kept x4 wr) (fun v iv _ => L.length - (intOf iv).toNat)
            case atStart => exact ⟨0, ByteArray.empty, by omega, rfl, rfl, by simp, (rfl : ink ByteArray.empty = (L.take 0).flatMap ink), But.refl _ _ _⟩
            case round =>
              obtain ⟨k, t, hk, rfl, rfl, htk, HT, hkp⟩ := hrel
              by_cases hlt : k < L.length
              · obtain ⟨x, hx⟩ : ∃ x, L[k]? = some x := ⟨_, List.getElem?_eq_getElem hlt⟩
                obtain ⟨b, o, cap1', e, c0⟩ := txt_get (HOI4.out.kept hkp) hx
                cases e
                obtain ⟨hc1, hc2⟩ := HLF.out.cnt x (List.mem_of_getElem? hx)
                have hrl := runA_len x
                have HN : Hid (ink (t ++ x) = (L.take (k + 1)).flatMap ink) := (by rw [ink_app, HT.out, take_snoc hx, List.flatMap_append]; simp : ink (t ++ x) = (L.take (k + 1)).flatMap ink)
                have HR : Hid (∀ u, Calls Tryd.prog 13 #[.string x] u fun e w' => ∃ v, e = .returned (.tuple #[v, .bool (runA x).2]) ∧ NumO w' u.heap.size w'.heap.size v (runA x).1 ∧ Kept u w') := (fun u => sruns x u (by omega) : ∀ u, Calls Tryd.prog 13 #[.string x] u fun e w' => ∃ v, e = .returned (.tuple #[v, .bool (runA x).2]) ∧ NumO w' u.heap.size w'.heap.size v (runA x).1 ∧ Kept u w')
                obtain ⟨rl, rb, hrr⟩ : ∃ rl rb, runA x = (rl, rb) := ⟨_, _, rfl⟩
                rw [hrr] at HR hc1 hrl
                dsimp only at hc1 hrl
                have HK : Hid (Kept x4 wr) := hkp
                have z1 : (0 : Int) ≤ (k : Int) := by omega
                have z2 : (k : Int) < (L.length : Int) := by omega
                have dl : decide ((k : Int) < (L.length : Int)) = true := decide_eq_true z2
                have dw : decide (n < (rl.length : Int)) = false := decide_eq_false (by omega)
                have hbig : ¬ 9223372036854775807 < t.size + x.size := by omega
                clear hkp HT hrr hx
                repeat (first | go_values | go_skip | go_guarded | go_step | go_upon)
                go_at_call 13
                refine (HR.out _).mono ?_
                rintro e x5 ⟨vr, rfl, orr, kx5⟩
                dsimp only
                obtain ⟨ar, cr, hfr⟩ := orr.form
                subst hfr
                have HK5 : Hid (Kept x4 x5) := HK.out.trans kx5
                clear kx5 HK orr HR c0
                repeat (first | go_values | go_skip | go_guarded | go_step | go_upon)
                exact ⟨⟨k + 1, t ++ x, hlt, by go_num, rfl, by rw [ByteArray.size_append]; omega, HN, HK5.out⟩, by simp [intOf]; omega⟩
              · have hke : k = L.length := by omega
                subst hke
                have hEq : inkS t = inkS s := by
                  unfold inkS
                  rw [HT.out, List.take_length, HLF.out.ink]
                have h1 := fun u => inked t u (by omega)
                have h2 := fun u => inked s u (by omega)
                rw [hEq] at h1
                have H1 : Hid (∀ u, Calls Tryd.prog 14 #[.string t] u fun e w' => e = .returned (.string (inkS s)) ∧ w' = u) := h1
                have H2 : Hid (∀ u, Calls Tryd.prog 14 #[.string s] u fun e w' => e = .returned (.string (inkS s)) ∧ w' = u) := h2
                have HK : Hid (Kept x4 wr) := hkp
                have dl : decide ((L.length : Int) < (L.length : Int)) = false := decide_eq_false (by omega)
                clear h1 h2 hEq HT hkp htk
                generalize inkS s = q at *
                repeat (first | go_values | go_skip | go_guarded | go_step | go_upon)
                go_at_call 14
                refine (H1.out _).mono ?_
                rintro e x5 ⟨rfl, hx5⟩
                rw [hx5]
                clear hx5 x5
                dsimp only
                repeat (first | go_values | go_skip | go_guarded | go_step | go_upon)
                go_at_call 14
                refine (H2.out _).mono ?_
                rintro e x5 ⟨rfl, hx5⟩
                rw [hx5]
                clear hx5 x5
                dsimp only
                repeat (first | go_values | go_skip | go_guarded | go_step | go_upon)
                go_ret
                exact ⟨by simp, HX4.out.trans HK.out⟩
        · have h3 : S3 = 0 := by omega
          subst h3
          have hS := g2 (.inl rfl)
          subst hS
          clear g1 g2
          repeat (first | go_values | go_skip | go_guarded | go_step | go_upon)
          go_at_call 9
          refine (drawW ao1 len1 cap1 _ (HC1.out.keep HK5.out) (by omega)).mono ?_
          rintro e x1 ⟨s, n, rfl, hsz, hn, kx1⟩
          dsimp only
          have HX1 : Hid (Kept w x1) := HK5.out.trans kx1
          clear kx1 HK5 HC1
          obtain ⟨L, laid, hL⟩ : ∃ L laid, wrapA s n = (L, laid) := ⟨_, _, rfl⟩
          have hI := fun u hu => iwrap s n u (by omega) hu
          have hS := fun u => swrap s n u (by omega)
          have HF : Hid (laid = true → LnF s n L ∧ (1 ≤ n ∧ n ≤ 100)) := by
            show laid = true → LnF s n L ∧ (1 ≤ n ∧ n ≤ 100)
            intro hb
            rcases Classical.em (WrapOk s n) with hk | hk
            · have h := lnF hk
              rw [hL] at h
              exact ⟨h, hk.2⟩
            · rw [wrapA_no hk] at hL
              cases hL
              cases hb
          have HLL : Hid (L.length ≤ 160801) := (by have := wrapA_len s n; rw [hL] at this; exact this : L.length ≤ 160801)
          rw [hL] at hI hS
          have HI : Hid (∀ (u : World), (∃ m, u.cell? ⟨0, 0, none⟩ = some (.int .i64 m)) → Calls Tryd.prog 10 #[.string s, .int .i64 n] u fun e u' => ∃ v', e = .returned (.tuple #[v', .bool laid]) ∧ TxtO u' u.heap.size u'.heap.size v' L ∧ Kept u u') := hI
          have HS : Hid (∀ (u : World), Calls Tryd.prog 11 #[.string s, .int .i64 n] u fun e u' => ∃ v', e = .returned (.tuple #[v', .bool laid]) ∧ TxtO u' u.heap.size u'.heap.size v' L ∧ Kept u u') := hS
          clear hI hS hL
          repeat (first | go_values | go_skip | go_guarded | go_step | go_upon)
          go_at_call 10
          refine (HI.out _ (gm_kept HM.out HX1.out)).mono ?_
          rintro e x2 ⟨vi, rfl, oi, kx2⟩
          dsimp only
          have HX2 : Hid (Kept w x2) := HX1.out.trans kx2
          have HOI : Hid (TxtAt x2 vi L) := oi.at
          obtain ⟨ai, ci, hfi⟩ := oi.form
          subst hfi
          clear kx2 HX1 oi HI HM
          repeat (first | go_values | go_skip | go_guarded | go_step | go_upon)
          go_at_call 11
          refine (HS.out _).mono ?_
          rintro e x3 ⟨vs, rfl, os, kx3⟩
          dsimp only
          have HX3 : Hid (Kept w x3) := HX2.out.trans kx3
          have HOI3 : Hid (TxtAt x3 (.slice ai L.length ci) L) := HOI.out.kept kx3
          have HOS : Hid (TxtAt x3 vs L) := os.at
          obtain ⟨a9, c9, hfs⟩ := os.form
          subst hfs
          clear kx3 HX2 os HS HOI
          have HTT : Hid (Calls Tryd.prog 12 #[.slice ai L.length ci, .slice a9 L.length c9] x3 fun e w' => e = .returned (.bool true) ∧ Kept x3 w') := sameT L _ _ x3 HOI3.out HOS.out (by have := HLL.out; omega)
          clear HOS
          cases laid
          · repeat (first | go_values | go_skip | go_guarded | go_step | go_upon)
            go_at_call 12
            refine Calls.mono HTT.out ?_
            rintro e x4 ⟨rfl, kx4⟩
            dsimp only
            have HX4 : Hid (Kept w x4) := HX3.out.trans kx4
            clear kx4 HX3 HOI3 HTT HF
            repeat (first | go_values | go_skip | go_guarded | go_step | go_upon)
            go_ret
            exact ⟨rfl, HX4.out⟩
          obtain ⟨hLF, hwn⟩ := HF.out rfl
          have HLF : Hid (LnF s n L) := hLF
          clear HF hLF
          repeat (first | go_values | go_skip | go_guarded | go_step | go_upon)
          go_at_call 12
          refine Calls.mono HTT.out ?_
          rintro e x4 ⟨rfl, kx4⟩
          dsimp only
          have HX4 : Hid (Kept w x4) := HX3.out.trans kx4
          have HOI4 : Hid (TxtAt x4 (.slice ai L.length ci) L) := HOI3.out.kept kx4
          have hL1 : L.length ≤ 160801 := HLL.out
          clear kx4 HX3 HOI3 HTT HLL
          repeat (first | go_values | go_skip | go_guarded | go_step | go_upon)
          go_loopw [22, 152] (fun v iv wr => ∃ (k : Nat) (t : ByteArray), k ≤ L.length ∧ iv = .int .i64 k ∧ v = .string t ∧ t.size ≤ 400 * k ∧ Hid (ink t = (L.take k).flatMap ink) ∧ Kept x4 wr) (fun v iv _ => L.length - (intOf iv).toNat)
          case atStart => exact ⟨0, ByteArray.empty, by omega, rfl, rfl, by simp, (rfl : ink ByteArray.empty = (L.take 0).flatMap ink), But.refl _ _ _⟩
          case round =>
            obtain ⟨k, t, hk, rfl, rfl, htk, HT, hkp⟩ := hrel
            by_cases hlt : k < L.length
            · obtain ⟨x, hx⟩ : ∃ x, L[k]? = some x := ⟨_, List.getElem?_eq_getElem hlt⟩
              obtain ⟨b, o, cap1', e, c0⟩ := txt_get (HOI4.out.kept hkp) hx
              cases e
              obtain ⟨hc1, hc2⟩ := HLF.out.cnt x (List.mem_of_getElem? hx)
              have hrl := runA_len x
              have HN : Hid (ink (t ++ x) = (L.take (k + 1)).flatMap ink) := (by rw [ink_app, HT.out, take_snoc hx, List.flatMap_append]; simp : ink (t ++ x) = (L.take (k + 1)).flatMap ink)
              have HR : Hid (∀ u, Calls Tryd.prog 13 #[.string x] u fun e w' => ∃ v, e = .returned (.tuple #[v, .bool (runA x).2]) ∧ NumO w' u.heap.size w'.heap.size v (runA x).1 ∧ Kept u w') := (fun u => sruns x u (by omega) : ∀ u, Calls Tryd.prog 13 #[.string x] u fun e w' => ∃ v, e = .returned (.tuple #[v, .bool (runA x).2]) ∧ NumO w' u.heap.size w'.heap.size v (runA x).1 ∧ Kept u w')
              obtain ⟨rl, rb, hrr⟩ : ∃ rl rb, runA x = (rl, rb) := ⟨_, _, rfl⟩
              rw [hrr] at HR hc1 hrl
              dsimp only at hc1 hrl
              have HK : Hid (Kept x4 wr) := hkp
              have z1 : (0 : Int) ≤ (k : Int) := by omega
              have z2 : (k : Int) < (L.length : Int) := by omega
              have dl : decide ((k : Int) < (L.length : Int)) = true := decide_eq_true z2
              have dw : decide (n < (rl.length : Int)) = false := decide_eq_false (by omega)
              have hbig : ¬ 9223372036854775807 < t.size + x.size := by omega
              clear hkp HT hrr hx
              repeat (first | go_values | go_skip | go_guarded | go_step | go_upon)
              go_at_call 13
              refine (HR.out _).mono ?_
              rintro e x5 ⟨vr, rfl, orr, kx5⟩
              dsimp only
              obtain ⟨ar, cr, hfr⟩ := orr.form
              subst hfr
              have HK5 : Hid (Kept x4 x5) := HK.out.trans kx5
              clear kx5 HK orr HR c0
              repeat (first | go_values | go_skip | go_guarded | go_step | go_upon)
              exact ⟨⟨k + 1, t ++ x, hlt, by go_num, rfl, by rw [ByteArray.size_append]; omega, HN, HK5.out⟩, by simp [intOf]; omega⟩
            · have hke : k = L.length := by omega
              subst hke
              have hEq : inkS t = inkS s := by
                unfold inkS
                rw [HT.out, List.take_length, HLF.out.ink]
              have h1 := fun u => inked t u (by omega)
              have h2 := fun u => inked s u (by omega)
              rw [hEq] at h1
              have H1 : Hid (∀ u, Calls Tryd.prog 14 #[.string t] u fun e w' => e = .returned (.string (inkS s)) ∧ w' = u) := h1
              have H2 : Hid (∀ u, Calls Tryd.prog 14 #[.string s] u fun e w' => e = .returned (.string (inkS s)) ∧ w' = u) := h2
              have HK : Hid (Kept x4 wr) := hkp
              have dl : decide ((L.length : Int) < (L.length : Int)) = false := decide_eq_false (by omega)
              clear h1 h2 hEq HT hkp htk
              generalize inkS s = q at *
              repeat (first | go_values | go_skip | go_guarded | go_step | go_upon)
              go_at_call 14
              refine (H1.out _).mono ?_
              rintro e x5 ⟨rfl, hx5⟩
              rw [hx5]
              clear hx5 x5
              dsimp only
              repeat (first | go_values | go_skip | go_guarded | go_step | go_upon)
              go_at_call 14
              refine (H2.out _).mono ?_
              rintro e x5 ⟨rfl, hx5⟩
              rw [hx5]
              clear hx5 x5
              dsimp only
              repeat (first | go_values | go_skip | go_guarded | go_step | go_upon)
              go_ret
              exact ⟨by simp, HX4.out.trans HK.out⟩
set_option maxRecDepth 100000 in
set_option maxHeartbeats 8000000 in
theorem big (ao0 : Option Addr) (len0 cap0 : Nat) (ao1 : Option Addr) (len1 cap1 : Nat) (w : World) (hm0 : len0 ≤ 9223372036854775807) (hm1 : len1 ≤ 9223372036854775807) (hd : decide ((1048576 : Int) < wrap64 ((len0 : Int) + len1)) = true) :
    Calls Tryd.prog 3 #[.slice ao0 len0 cap0, .slice ao1 len1 cap1] w fun e w' => e = .returned (.bool true) ∧ Kept w w' := by
  go_enter Tryd.func3, Tryd.ntmps3
  repeat (first | go_values | go_skip | go_guarded | go_step | go_upon)
  go_ret
  exact ⟨rfl, But.refl _ _ _⟩
theorem all (ao0 : Option Addr) (len0 cap0 : Nat) (hm0 : len0 ≤ maxLen) (ao1 : Option Addr) (len1 cap1 : Nat) (hm1 : len1 ≤ maxLen) (w : World) (hc0 : Code w ao0 len0) (hc1 : Code w ao1 len1) (hm : ∃ m, w.cell? ⟨0, 0, none⟩ = some (.int .i64 m)) :
    Calls Tryd.prog 3 #[.slice ao0 len0 cap0, .slice ao1 len1 cap1] w fun e w' => e = .returned (.bool true) ∧ Kept w w' := by
  cases hd : decide ((1048576 : Int) < wrap64 ((len0 : Int) + len1))
  · exact walk ao0 len0 cap0 ao1 len1 cap1 w hc0 hc1 hm hm0 hm1 hd
  · exact big ao0 len0 cap0 ao1 len1 cap1 w hm0 hm1 hd

end Go.Proofs.YtaofilinejanjaaDoor
