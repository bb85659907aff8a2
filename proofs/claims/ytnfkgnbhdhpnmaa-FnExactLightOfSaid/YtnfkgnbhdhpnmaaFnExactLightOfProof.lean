/-
  At all blocks and all lists of lamps the program's LightOf answers what the specification's LightOf answers, and writes into no argument; its answer owns its memory.
-/
import Derived.Test.YtnfkgnbhdhpnmaaRows
import Derived.Test.YtnfkgnbhdhpnmaaLightS13
import Derived.Test.YtnfkgnbhdhpnmaaLightI13
import Derived.Test.YtnfkgnbhdhpnmaaBlocksF
import Derived.Test.YtnfkgnbhdhpnmaaBlocksG
import Derived.Test.YtnfkgnbhdhpnmaaOpenB
import Derived.ChangeMaps
namespace Go.Proofs.Ytnfkgnbhdhpnmaa.fnExactLightOf
open Go.ChangeShapes Go.WideShapes Go.ChangeAt Go.RowKit
set_option linter.unusedVariables false

theorem own : ownKnob Try.prog.godebug = none := by kernel_rfl

set_option maxRecDepth 100000 in
set_option maxHeartbeats 16000000 in
theorem walk (c : BlocksD) (ls R : List Int) (jb : Bool) (v pv : Value) (w : World) (hv : BlocksAt w v c) (hp : NumAt w pv ls) (hn : c.2.2.2.length ≤ 9223372036854775807) (hl : c.2.2.2.length ≤ 1048576) (hls : ls.length ≤ 1048576) (hR : R.length ≤ 100000000)
    (hS : ∀ (u : World) (v p : Value), BlocksAt u v c → NumAt u p ls → Calls Try.prog 36 #[v, p] u fun e u' => ∃ v', e = .returned (.tuple #[v', .bool jb]) ∧ NumO u' u.heap.size u'.heap.size v' R ∧ Kept u u')
    (hI : ∀ (u : World) (v p : Value), BlocksAt u v c → NumAt u p ls → Calls Try.prog 38 #[v, p] u fun e u' => ∃ v', e = .returned (.tuple #[v', .bool jb]) ∧ NumO u' u.heap.size u'.heap.size v' R ∧ Kept u u') :
    Calls Try.prog 10 #[v, pv] w fun e w' => e = .returned (.bool true) ∧ Kept w w' := by
  obtain ⟨q, hq1⟩ : ∃ q, 1 + c.2.2.2.length = q := ⟨_, rfl⟩
  obtain ⟨qq, hq3⟩ : ∃ qq, q + ls.length = qq := ⟨_, rfl⟩
  obtain ⟨q', hq2⟩ : ∃ q', 1 + R.length = q' := ⟨_, rfl⟩
  have hdq : decide ((qq : Int) < 0) = false := by simp
  have hdq' : decide ((q' : Int) < 0) = false := by simp
  have HQ : Hid (1 + c.2.2.2.length = q) := hq1
  have HQQ : Hid (q + ls.length = qq) := hq3
  have HQ' : Hid (1 + R.length = q') := hq2
  clear hq1 hq2 hq3
  have hdl : decide ((1048576 : Int) - (c.2.2.2.length : Int) < 0) = false := by simp; omega
  have hdp : decide ((1048576 : Int) < (ls.length : Int)) = false := by simp; omega
  obtain ⟨ao, cap, hfm⟩ := hv.form
  subst hfm
  obtain ⟨po, pcap, hfm⟩ := row_nil hp
  subst hfm
  have HS : Hid (∀ (u : World) (v p : Value), BlocksAt u v c → NumAt u p ls → Calls Try.prog 36 #[v, p] u fun e u' => ∃ v', e = .returned (.tuple #[v', .bool jb]) ∧ NumO u' u.heap.size u'.heap.size v' R ∧ Kept u u') := hS
  have HI : Hid (∀ (u : World) (v p : Value), BlocksAt u v c → NumAt u p ls → Calls Try.prog 38 #[v, p] u fun e u' => ∃ v', e = .returned (.tuple #[v', .bool jb]) ∧ NumO u' u.heap.size u'.heap.size v' R ∧ Kept u u') := hI
  clear hS hI
  go_enter Try.func10, Try.ntmps10
  repeat (first | go_values | go_skip | go_guarded | go_step | go_upon)
  go_at_call 16
  refine (szBlocks c _ _ _ (hv.kept ((But.refl _ _ _).alloc _)) (by omega) (by omega) hn).mono ?_
  rintro e u1 ⟨rfl, k1⟩
  rw [leftOf_yes (by omega)]
  have K1 : Kept w u1 := ((But.refl _ _ _).alloc _).trans k1
  have La := (Loc.new w [.int .i64 c.1, .int .i64 c.2.1, .int .i64 c.2.2.1, .slice ao c.2.2.2.length cap] 36).kept k1
  have a0 := La.cell 0 rfl
  have a1 := La.cell 1 rfl
  have a2 := La.cell 2 rfl
  have a3 := La.cell 3 rfl
  have al := La.lt
  dsimp only
  repeat (first | go_values | go_skip | go_guarded | go_step | go_upon)
  go_at_call 18
  refine (toBlocks c _ _ (hv.kept K1) hl).mono ?_
  rintro e u2 ⟨v2, rfl, o2, k2⟩
  have K2 := K1.trans k2
  have La := La.kept k2
  clear a0 a1 a2 a3 al
  obtain ⟨ao2, cap2, hfm⟩ := o2.form
  subst hfm
  dsimp only
  repeat (first | go_values | go_skip | go_guarded | go_step | go_upon)
  go_at_call 37
  refine (toNumS ls _ _ (hp.kept K2) hls).mono ?_
  rintro e u2b ⟨v2b, rfl, p2, k2b⟩
  have K2b := K2.trans k2b
  have La := La.kept k2b
  have o2 := o2.kept k2b
  obtain ⟨ao2b, cap2b, hfm⟩ := p2.form
  subst hfm
  dsimp only
  repeat (first | go_values | go_skip | go_guarded | go_step | go_upon)
  go_at_call 36
  refine (HS.out _ _ _ o2.at p2.at).mono ?_
  rintro e u3 ⟨v3, rfl, o3, k3⟩
  have K3 := K2b.trans k3
  have La := La.kept k3
  have s3 := k3.size
  have s2 := k2.size
  have s2b := k2b.size
  clear o2 p2
  have a0 := La.cell 0 rfl
  have a1 := La.cell 1 rfl
  have a2 := La.cell 2 rfl
  have a3 := La.cell 3 rfl
  have al := La.lt
  obtain ⟨ao3, cap3, hfm⟩ := o3.form
  subst hfm
  dsimp only
  repeat (first | go_values | go_skip | go_guarded | go_step | go_upon)
  go_at_call 18
  refine (toBlocks c _ _ (hv.kept K3) hl).mono ?_
  rintro e u5 ⟨v5, rfl, o5, k5⟩
  have K5 := K3.trans k5
  have La := La.kept k5
  have o3 := o3.kept k5
  have s5 := k5.size
  clear a0 a1 a2 a3 al
  obtain ⟨ao5, cap5, hfm⟩ := o5.form
  subst hfm
  dsimp only
  repeat (first | go_values | go_skip | go_guarded | go_step | go_upon)
  go_at_call 37
  refine (toNumS ls _ _ (hp.kept (K5.alloc _)) hls).mono ?_
  rintro e u5b ⟨v5b, rfl, p5, k5b⟩
  have j5 : Kept u5 u5b := ((But.refl _ _ u5).alloc _).trans k5b
  have K5b := K5.trans j5
  have La := La.kept j5
  have Lx := (Loc.new u5 [.int .i64 c.1, .int .i64 c.2.1, .int .i64 c.2.2.1, .slice ao5 c.2.2.2.length cap5] 25).kept k5b
  have o3 := o3.kept j5
  have o5 := o5.kept j5
  have s5b := j5.size
  have hx5 := Lx.lt
  simp only [World.size_alloc] at p5
  obtain ⟨ao5b, cap5b, hfm⟩ := p5.form
  subst hfm
  have b0 := Lx.cell 0 rfl
  have b1 := Lx.cell 1 rfl
  have b2 := Lx.cell 2 rfl
  have b3 := Lx.cell 3 rfl
  have bl := Lx.lt
  dsimp only
  repeat (first | go_values | go_skip | go_guarded | go_step | go_upon)
  go_at_call 38
  refine (HI.out _ _ _ o5.at p5.at).mono ?_
  rintro e u7 ⟨v7, rfl, o7, k7⟩
  have K7 := K5b.trans k7
  have La := La.kept k7
  have Lx := Lx.kept k7
  have o3 := o3.kept k7
  have o5 := o5.kept k7
  have p5 := p5.kept k7
  have s7 := k7.size
  have HW : Hid (w.heap.size ≤ u3.heap.size) := K3.size
  have HWL : Hid (w.heap.size < u3.heap.size) := by have h1 := ((Loc.new w [.int .i64 c.1, .int .i64 c.2.1, .int .i64 c.2.2.1, .slice ao c.2.2.2.length cap] 36).kept k1).lt; have h2 := k2.size; have h3 := k3.size; show w.heap.size < u3.heap.size; omega
  clear b0 b1 b2 b3 bl
  clear k1 k2 k2b k3 k5 k5b k7 j5 K1 K2 K2b K3 K5 K5b
  obtain ⟨ao7, cap7, hfm⟩ := o7.form
  subst hfm
  dsimp only
  repeat (first | go_values | go_skip | go_guarded | go_step | go_upon)
  go_at_call 27
  refine (eqNumS R _ _ _ o7.at o3.at (by omega)).mono ?_
  rintro e u6 ⟨rfl, k6⟩
  have K6 := K7.trans k6
  have La := La.kept k6
  have Lx := Lx.kept k6
  have o3 := o3.kept k6
  have o5 := o5.kept k6
  have p5 := p5.kept k6
  have o7 := o7.kept k6
  have s6 := k6.size
  clear k6 K7
  have a0 := La.cell 0 rfl
  have a1 := La.cell 1 rfl
  have a2 := La.cell 2 rfl
  have a3 := La.cell 3 rfl
  have al := La.lt
  have b0 := Lx.cell 0 rfl
  have b1 := Lx.cell 1 rfl
  have b2 := Lx.cell 2 rfl
  have b3 := Lx.cell 3 rfl
  have bl := Lx.lt
  dsimp only
  repeat (first | go_values | go_skip | go_guarded | go_step | go_upon)
  go_region_held3 (fun w' => w'.cell? ⟨w.heap.size, 0, none⟩ = some (.int .i64 c.1) ∧ w'.cell? ⟨w.heap.size, 1, none⟩ = some (.int .i64 c.2.1) ∧ w'.cell? ⟨w.heap.size, 2, none⟩ = some (.int .i64 c.2.2.1) ∧ w'.cell? ⟨w.heap.size, 3, none⟩ = some (.slice ao c.2.2.2.length cap) ∧ w'.cell? ⟨u5.heap.size, 0, none⟩ = some (.int .i64 c.1) ∧ w'.cell? ⟨u5.heap.size, 1, none⟩ = some (.int .i64 c.2.1) ∧ w'.cell? ⟨u5.heap.size, 2, none⟩ = some (.int .i64 c.2.2.1) ∧ w'.cell? ⟨u5.heap.size, 3, none⟩ = some (.slice ao5 c.2.2.2.length cap5)) (simp [go_sem, *])
    (first | (go_at_call 18; refine (toBlocks c _ _ (hv.kept K6.drew) hl).mono ?_; rintro e u9 ⟨v9, rfl, o9, k9⟩; have j9 : Kept u6 u9 := ((But.refl _ _ u6).drew).trans k9; obtain ⟨ao9, cap9, hfm⟩ := o9.form; subst hfm; have a0 := Kept.cell k9 a0; have a1 := Kept.cell k9 a1; have a2 := Kept.cell k9 a2; have a3 := Kept.cell k9 a3; have b0 := Kept.cell k9 b0; have b1 := Kept.cell k9 b1; have b2 := Kept.cell k9 b2; have b3 := Kept.cell k9 b3)
           | (go_at_call 20; refine (eqBlocks c _ _ _ (o5.at.kept j9) o9.at (by omega)).mono ?_; rintro e u8 ⟨rfl, k8⟩; have a0 := Kept.cell k8 a0; have a1 := Kept.cell k8 a1; have a2 := Kept.cell k8 a2; have a3 := Kept.cell k8 a3; have b0 := Kept.cell k8 b0; have b1 := Kept.cell k8 b1; have b2 := Kept.cell k8 b2; have b3 := Kept.cell k8 b3))
  all_goals
    have j8 : Kept u6 u8 := j9.trans k8
    have K8 := K6.trans j8
    have La := La.kept j8
    have Lx := Lx.kept j8
    have o3 := o3.kept j8
    have o5 := o5.kept j8
    have p5 := p5.kept j8
    have o7 := o7.kept j8
    have s8 := j8.size
    clear j9 j8 k9 k8 o9 a0 a1 a2 a3 al b0 b1 b2 b3 bl K6
    repeat (first | go_values | go_skip | go_guarded | go_step | go_upon)
    go_at_call 37
    refine (toNumS ls _ _ (hp.kept K8) hls).mono ?_
    rintro e x1 ⟨vx1, rfl, px, kx1⟩
    have KA := K8.trans kx1
    have La := La.kept kx1
    have Lx := Lx.kept kx1
    have o3 := o3.kept kx1
    have o5 := o5.kept kx1
    have p5 := p5.kept kx1
    have o7 := o7.kept kx1
    have sx1 := kx1.size
    clear kx1 K8
    obtain ⟨aox, capx, hfm⟩ := px.form
    subst hfm
    dsimp only
    repeat (first | go_values | go_skip | go_guarded | go_step | go_upon)
    go_at_call 27
    refine (eqNumS ls _ _ _ p5.at px.at (by omega)).mono ?_
    rintro e x2 ⟨rfl, kx2⟩
    have KB := KA.trans kx2
    have La := La.kept kx2
    have Lx := Lx.kept kx2
    have o3 := o3.kept kx2
    have o5 := o5.kept kx2
    have p5 := p5.kept kx2
    have o7 := o7.kept kx2
    have sx2 := kx2.size
    clear kx2 KA px
    have b0 := Lx.cell 0 rfl
    have b1 := Lx.cell 1 rfl
    have b2 := Lx.cell 2 rfl
    have b3 := Lx.cell 3 rfl
    have bl := Lx.lt
    dsimp only
    repeat (first | go_values | go_skip | go_guarded | go_step | go_upon)
    go_at_call 25
    refine (markBlocks c _ 1 u3.heap.size u5.heap.size _ o5 (by omega)).mono ?_
    rintro e u9 ⟨rfl, -, k9⟩
    rw [HQ.out]
    have K9 := KB.onto k9 HW.out
    have La := La.but k9 (Or.inl HWL.out)
    have o3 := o3.but k9 (Or.inl (Nat.le_refl _))
    have p5 := p5.but k9 (Or.inr (by omega))
    have o7 := o7.but k9 (Or.inr (by omega))
    have s9 := k9.size
    clear k9 KB o5 Lx b0 b1 b2 b3 bl
    dsimp only
    repeat (first | go_values | go_skip | go_guarded | go_step | go_upon)
    go_at_call 28
    refine (markNumS ls _ q (u5.heap.size + 1) u5b.heap.size _ p5 (by have := HQ.out; omega)).mono ?_
    rintro e x3 ⟨rfl, -, b3⟩
    rw [HQQ.out]
    have k3' := b3.inner p5
    have KC := K9.onto k3' (Nat.le_trans HW.out (by omega))
    have La := La.but k3' (Or.inl (Nat.lt_of_lt_of_le HWL.out (by omega)))
    have o3 := o3.but k3' (Or.inl (by omega))
    have o7 := o7.but k3' (Or.inr (by omega))
    have sx3 := k3'.size
    clear k3' b3 K9 p5
    dsimp only
    repeat (first | go_values | go_skip | go_guarded | go_step | go_upon)
    go_at_call 27
    refine (eqNumS R _ _ _ o7.at o3.at (by omega)).mono ?_
    rintro e u10 ⟨rfl, k10⟩
    have K10 := KC.trans k10
    have La := La.kept k10
    have o3 := o3.kept k10
    have o7 := o7.kept k10
    have s10 := k10.size
    clear k10 KC
    dsimp only
    repeat (first | go_values | go_skip | go_guarded | go_step | go_upon)
    go_at_call 28
    refine (markNumS R _ 1 u5b.heap.size u7.heap.size _ o7 (by omega)).mono ?_
    rintro e u11 ⟨rfl, o11, b11⟩
    rw [HQ'.out]
    have k11 := b11.inner o7
    have K11 := K10.onto k11 (Nat.le_trans HW.out (by omega))
    have La := La.but k11 (Or.inl (Nat.lt_of_lt_of_le HWL.out (by omega)))
    have o3 := o3.but k11 (by omega)
    have s11 := k11.size
    clear k11 b11 K10 o7
    dsimp only
    repeat (first | go_values | go_skip | go_guarded | go_step | go_upon)
    go_at_call 29
    refine (heldNumS R.length _ 1 _ o11.at (by omega)).mono ?_
    rintro e u12 ⟨rfl, k12⟩
    rw [HQ'.out]
    have K12 := K11.trans k12
    have La := La.kept k12
    have o3 := o3.kept k12
    have o11 := o11.kept k12
    have s12 := k12.size
    clear k12 K11
    have a0 := La.cell 0 rfl
    have a1 := La.cell 1 rfl
    have a2 := La.cell 2 rfl
    have a3 := La.cell 3 rfl
    have al := La.lt
    dsimp only
    repeat (first | go_values | go_skip | go_guarded | go_step | go_upon)
    go_at_call 18
    refine (toBlocks c _ _ (hv.kept K12) hl).mono ?_
    rintro e u13 ⟨v13, rfl, o13, k13⟩
    have K13 := K12.trans k13
    have o3 := o3.kept k13
    have o11 := o11.kept k13
    clear a0 a1 a2 a3 al
    clear K12 k13 La
    obtain ⟨ao13, cap13, hfm⟩ := o13.form
    subst hfm
    dsimp only
    repeat (first | go_values | go_skip | go_guarded | go_step | go_upon)
    go_at_call 37
    refine (toNumS ls _ _ (hp.kept K13) hls).mono ?_
    rintro e x4 ⟨vx4, rfl, p13, kx4⟩
    have KD := K13.trans kx4
    have o3 := o3.kept kx4
    have o11 := o11.kept kx4
    have o13 := o13.kept kx4
    clear K13 kx4
    obtain ⟨ao13b, cap13b, hfm⟩ := p13.form
    subst hfm
    dsimp only
    repeat (first | go_values | go_skip | go_guarded | go_step | go_upon)
    go_at_call 38
    refine (HI.out _ _ _ o13.at p13.at).mono ?_
    rintro e u14 ⟨v14, rfl, o14, k14⟩
    have K14 := KD.trans k14
    have o3 := o3.kept k14
    have o11 := o11.kept k14
    clear KD k14 o13 p13
    obtain ⟨ao14, cap14, hfm⟩ := o14.form
    subst hfm
    dsimp only
    repeat (first | go_values | go_skip | go_guarded | go_step | go_upon)
    go_at_call 27
    refine (eqNumS R _ _ _ o14.at o3.at (by omega)).mono ?_
    rintro e u15 ⟨rfl, k15⟩
    have K15 := K14.trans k15
    have o11 := o11.kept k15
    clear k15 K14 o14
    dsimp only
    repeat (first | go_values | go_skip | go_guarded | go_step | go_upon)
    go_at_call 29
    refine (heldNumS R.length _ 1 _ o11.at (by omega)).mono ?_
    rintro e u16 ⟨rfl, k16⟩
    rw [HQ'.out]
    have K16 := K15.trans k16
    dsimp only
    repeat (first | go_values | go_skip | go_guarded | go_step | go_upon)
    go_ret
    exact ⟨rfl, K16⟩

set_option maxRecDepth 100000 in
set_option maxHeartbeats 1000000 in
theorem big (c : BlocksD) (ls : List Int) (v pv : Value) (w : World) (hv : BlocksAt w v c) (hp : NumAt w pv ls) (hn : c.2.2.2.length ≤ 9223372036854775807) (hl : 1048576 < c.2.2.2.length) (hls : ls.length ≤ 1048576) :
    Calls Try.prog 10 #[v, pv] w fun e w' => e = .returned (.bool true) ∧ Kept w w' := by
  have hdp : decide ((1048576 : Int) < (ls.length : Int)) = false := by simp; omega
  obtain ⟨ao, cap, hfm⟩ := hv.form
  subst hfm
  obtain ⟨po, pcap, hfm⟩ := row_nil hp
  subst hfm
  go_enter Try.func10, Try.ntmps10
  repeat (first | go_values | go_skip | go_guarded | go_step | go_upon)
  go_at_call 16
  refine (szBlocks c _ _ _ (hv.kept ((But.refl _ _ _).alloc _)) (by omega) (by omega) hn).mono ?_
  rintro e u1 ⟨rfl, k1⟩
  rw [leftOf_no (by omega)]
  dsimp only
  repeat (first | go_values | go_skip | go_guarded | go_step | go_upon)
  go_ret
  exact ⟨rfl, ((But.refl _ _ _).alloc _).trans k1⟩
set_option maxRecDepth 100000 in
set_option maxHeartbeats 1000000 in
theorem big2 (c : BlocksD) (ls : List Int) (v pv : Value) (w : World) (hv : BlocksAt w v c) (hp : NumAt w pv ls) (hm : ls.length ≤ 9223372036854775807) (hls : 1048576 < ls.length) :
    Calls Try.prog 10 #[v, pv] w fun e w' => e = .returned (.bool true) ∧ Kept w w' := by
  have hdp : decide ((1048576 : Int) < (ls.length : Int)) = true := by simp; omega
  obtain ⟨ao, cap, hfm⟩ := hv.form
  subst hfm
  obtain ⟨po, pcap, hfm⟩ := row_nil hp
  subst hfm
  go_enter Try.func10, Try.ntmps10
  repeat (first | go_values | go_skip | go_guarded | go_step | go_upon)
  go_ret
  exact ⟨rfl, (But.refl _ _ _).alloc _⟩

theorem all (c : BlocksD) (v : Value) {w : World} (hv : BlocksAt w v c) (hm : c.2.2.2.length ≤ maxLen) (ls : List NumD) (pv : Value) (hp : NumAt w pv ls) (_ : ∀ p ∈ ls, True) (hpm : ls.length ≤ maxLen) (w' : World) (_ : w' = w) :
    Calls Try.prog 10 #[v, pv] w fun e w' => e = .returned (.bool true) ∧ Kept w w' := by
  have hm' : c.2.2.2.length ≤ 9223372036854775807 := by unfold maxLen at hm; omega
  have hpm' : ls.length ≤ 9223372036854775807 := by unfold maxLen at hpm; omega
  by_cases hls : ls.length ≤ 1048576
  · by_cases hl : c.2.2.2.length ≤ 1048576
    · exact walk c ls (lightA c.1 c.2.1 c.2.2.1 c.2.2.2 ls).1 (lightA c.1 c.2.1 c.2.2.1 c.2.2.2 ls).2 v pv w hv hp hm' hl hls (Nat.le_trans (lightA_len _ _ _ _ _) (by omega)) (fun u v p h hh => by obtain ⟨ao, cap, hf⟩ := h.form; subst hf; obtain ⟨po, pcap, hf⟩ := row_nil hh; subst hf; exact slight c.1 c.2.1 c.2.2.1 c.2.2.2 ls ao po cap pcap u h.row hh hl hls) (fun u v p h hh => by obtain ⟨ao, cap, hf⟩ := h.form; subst hf; obtain ⟨po, pcap, hf⟩ := row_nil hh; subst hf; exact ilight c.1 c.2.1 c.2.2.1 c.2.2.2 ls ao po cap pcap u h.row hh hl hls)
    · exact big c ls v pv w hv hp hm' (by omega) hls
  · exact big2 c ls v pv w hv hp hpm' (by omega)


set_option maxRecDepth 100000 in
theorem lifted (os : Os) (started : os.Started) (H : Type) (enc : TypeId × Value → H) :
    ReturnsInHanded {} Try.checked os 10 .any (Rows.fnExactLightOfSpec.pre6 enc Try.prog Try.f10 Rows.fnExactLightOfRow.domain false) (Rows.fnExactLightOfSpec.post enc Try.prog Try.f10 false true false false) := by
  refine returnsInHanded_of_change (C := Try.checked) own started (by kernel_rfl) Try.func10
    (ChangeSpec.witness6 (enc := enc) (C := Try.checked) false ⟨#[], #[.agg #[.int .i64 0, .int .i64 0, .int .i64 0, .slice none 0 0], .slice none 0 0], []⟩ 8 (by kernel_rfl) (by kernel_rfl) (by kernel_rfl) (by kernel_rfl)) ?_
  intro W base args ds gs before hval0 hW hcnd _
  have hval : ∀ (j : Nat) t v, Try.f10.params[j]? = some t → args[j]? = some v → Value.okWide Try.prog W .any base t v := hval0
  have hW' := hW
  obtain ⟨p, q, hA0, hV, rfl, hfz, hnd⟩ := hW
  have hA : DataW.TrodAll enc Try.prog W 0 (fun _ => true) true Try.f10.params.toList args.toList ds p := hA0
  rw [Try.params10] at hA hval
  obtain ⟨v0, vs0, d0, ds0, p0, q0, hargs, rfl, rfl, h0, r0⟩ := trodAll_cons hA
  obtain ⟨v1, vs1, d1, ds1, p1, q1, rfl, rfl, rfl, h1, r1⟩ := trodAll_cons r0
  obtain ⟨rfl, rfl, rfl⟩ := trodAll_nil r1
  obtain rfl : args = #[v0, v1] := by cases args; simp_all
  obtain ⟨rfl, rfl⟩ := trodVars_none hV
  obtain ⟨c0, hv0, hl0⟩ := open_blocks (hval 0 36 v0 rfl rfl) h0
  obtain ⟨l1, hv1, hq1, hl1⟩ := open_numS (hval 1 23 v1 rfl rfl) h1
  clear hA0 hval0
  simp only [List.append_nil] at hW'
  refine (all c0 v0 hv0 hl0 l1 v1 hv1 hq1 hl1 W rfl).mono fun e W' ⟨he, hg⟩ => ?_
  subst he
  exact ⟨_, rfl, post_of_kept (pa := _) (pv := []) hW' (fun _ _ _ => (trodAll_cons_mk (shut_bool Try.underlying4 _) trodAll_mk0)) (fun sp hsp => (trodAll_cons_mk (kept_trod (by kernel_rfl) (of_decide_eq_true (by kernel_rfl)) h0 hg (fun x hx => hW'.lt x (by simp [hx])) (fun x hx => hsp x (by simp [hx]))) (trodAll_cons_mk (kept_trod (by kernel_rfl) (of_decide_eq_true (by kernel_rfl)) h1 hg (fun x hx => hW'.lt x (by simp [hx])) (fun x hx => hsp x (by simp [hx]))) trodAll_mk0))) (fun _ _ => rfl) hg⟩

theorem over : Rows.fnExactLightOfRow.holds Try.pinned (OpenSpec.ofChange Rows.fnExactLightOfSpec) :=
  OpenClaim.holds_of_wide 10 Try.f10 rfl rfl rfl rfl rfl rfl rfl ⟨rfl, rfl, rfl, rfl, rfl⟩ rfl rfl rfl rfl rfl (by kernel_rfl) Try.func10 (by kernel_rfl)
    (of_decide_eq_true (by kernel_rfl)) (by unfold Func.isWrapper; first | (rw [if_pos (by decide +kernel)]; kernel_rfl) | (rw [if_neg (by decide +kernel)]; exact ⟨rfl, rfl⟩))
    (fun os started H enc _ => lifted os started H enc)

theorem proved : Rows.FnExactLightOfSaid :=
  over
#print axioms proved
end Go.Proofs.Ytnfkgnbhdhpnmaa.fnExactLightOf
