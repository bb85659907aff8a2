/-
  At every list of items and every view the program's Seen answers what the specification's Seen answers, writes into no argument and keeps nothing of one; its answer owns its memory.
-/
import Derived.Test.YtoimpkhgdpkhkaaRows
import Derived.Test.YtoimpkhgdpkhkaaItemL
import Derived.Test.YtoimpkhgdpkhkaaItemM
import Derived.Test.YtoimpkhgdpkhkaaItemO
import Derived.Test.YtoimpkhgdpkhkaaPlaced
import Derived.Test.YtoimpkhgdpkhkaaSSeen20
import Derived.Test.YtoimpkhgdpkhkaaISeen20
import Derived.ChangeMaps
import Derived.Deep.CutRange
import Derived.Deep.RegionHeld3
namespace Go.Proofs.Ytoimpkhgdpkhkaa.fnExactSeen
open Go.ChangeShapes Go.WideShapes Go.ChangeAt Go.RowKit
set_option linter.unusedVariables false

theorem own : ownKnob Try.prog.godebug = none := by kernel_rfl

set_option maxRecDepth 100000 in
set_option maxHeartbeats 16000000 in
theorem walk (l : List ItemD) (R : List Int) (x y a b : Int) (jb : Bool) (v : Value) (w : World) (hv : ItemAt w v l) (hn : l.length ≤ 1048576) (hR : R.length ≤ 100000)
    (hS : ∀ (u : World) (v : Value), ItemAt u v l → Calls Try.prog 13 #[v, .agg #[.int .i64 x, .int .i64 y, .int .i64 a, .int .i64 b]] u fun e u' => ∃ v', e = .returned (.tuple #[v', .bool jb]) ∧ NumO u' u.heap.size u'.heap.size v' R ∧ Kept u u')
    (hI : ∀ (u : World) (v : Value), ItemAt u v l → Calls Try.prog 16 #[v, .agg #[.int .i64 x, .int .i64 y, .int .i64 a, .int .i64 b]] u fun e u' => ∃ v', e = .returned (.tuple #[v', .bool jb]) ∧ NumO u' u.heap.size u'.heap.size v' R ∧ Kept u u') :
    Calls Try.prog 4 #[v, .agg #[.int .i64 x, .int .i64 y, .int .i64 a, .int .i64 b]] w fun e w' => e = .returned (.bool true) ∧ Kept w w' := by
  obtain ⟨qa, hHA⟩ : ∃ q : Nat, 1 + 9 * l.length = q := ⟨_, rfl⟩
  have HA : Hid (1 + 9 * l.length = qa) := hHA
  have bHA : qa ≤ 200000000 := by omega
  have dHA : decide ((qa : Int) < 0) = false := by simp
  clear hHA
  obtain ⟨qd, hHD⟩ : ∃ q : Nat, 1 + R.length = q := ⟨_, rfl⟩
  have HD : Hid (1 + R.length = qd) := hHD
  have bHD : qd ≤ 200000000 := by omega
  have dHD : decide ((qd : Int) < 0) = false := by simp
  clear hHD
  have hdl : decide ((1048576 : Int) - (l.length : Int) < 0) = false := by simp; omega
  obtain ⟨ao, cap, hfm⟩ := row_nil hv
  subst hfm
  have HS : Hid (∀ (u : World) (v : Value), ItemAt u v l → Calls Try.prog 13 #[v, .agg #[.int .i64 x, .int .i64 y, .int .i64 a, .int .i64 b]] u fun e u' => ∃ v', e = .returned (.tuple #[v', .bool jb]) ∧ NumO u' u.heap.size u'.heap.size v' R ∧ Kept u u') := hS
  have HI : Hid (∀ (u : World) (v : Value), ItemAt u v l → Calls Try.prog 16 #[v, .agg #[.int .i64 x, .int .i64 y, .int .i64 a, .int .i64 b]] u fun e u' => ∃ v', e = .returned (.tuple #[v', .bool jb]) ∧ NumO u' u.heap.size u'.heap.size v' R ∧ Kept u u') := hI
  clear hS hI
  go_enter Try.func4, Try.ntmps4
  repeat (first | go_values | go_skip | go_guarded | go_step | go_upon)
  go_at_call 12
  refine (szItemS l _ _ _ (hv.kept ((But.refl _ _ w).alloc _)) (by omega) (by omega) (by omega)).mono ?_
  rintro e u1 ⟨rfl, k1⟩
  rw [leftOf_yes (by omega)]
  have K1 : Kept w u1 := ((But.refl _ _ w).alloc _).trans k1
  have Lv := (Loc.new w [.int .i64 x, .int .i64 y, .int .i64 a, .int .i64 b] 23).kept k1
  clear k1
  have b0 := Lv.cell 0 rfl
  have b1 := Lv.cell 1 rfl
  have b2 := Lv.cell 2 rfl
  have b3 := Lv.cell 3 rfl
  have bl := Lv.lt
  dsimp only
  repeat (first | go_values | go_skip | go_guarded | go_step | go_upon)
  go_region_held3 (fun w' => w'.cell? ⟨w.heap.size, 0, none⟩ = some (.int .i64 x) ∧ w'.cell? ⟨w.heap.size, 1, none⟩ = some (.int .i64 y) ∧ w'.cell? ⟨w.heap.size, 2, none⟩ = some (.int .i64 a) ∧ w'.cell? ⟨w.heap.size, 3, none⟩ = some (.int .i64 b)) (simp [go_sem, *])
    (first | (go_at_call 14; refine (toItemS l _ _ (hv.kept (But.trans K1 (by (repeat (first | with_reducible exact But.refl _ _ _ | with_reducible apply But.drewN | with_reducible apply But.drew | with_reducible apply But.alloc | (with_reducible refine But.setNew ?_ (by simp; try omega) _)))))) hn).mono ?_; rintro e y2 ⟨v2, rfl, o2, k2⟩; obtain ⟨ao2, cap2, hfm⟩ := o2.form; subst hfm; have o2 := o2.at; have hcy2 := k2.cell_eq; have hzy2 := k2.size; (try simp at hzy2); have n0y2 : w.heap.size < y2.heap.size := (by omega); have kwy2 : Kept u1 y2 := (But.trans (by (repeat (first | with_reducible exact But.refl _ _ _ | with_reducible apply But.drewN | with_reducible apply But.drew | with_reducible apply But.alloc | (with_reducible refine But.setNew ?_ (by simp; try omega) _)))) k2); have b0y2 := Kept.cell kwy2 b0; have b1y2 := Kept.cell kwy2 b1; have b2y2 := Kept.cell kwy2 b2; have b3y2 := Kept.cell kwy2 b3)
           | (go_at_call 15; refine (toPlaced _ _ _ _ _).mono ?_; rintro e y3 ⟨rfl, k3⟩; have o2 := ItemAt.kept o2 (But.trans (by (repeat (first | with_reducible exact But.refl _ _ _ | with_reducible apply But.drewN | with_reducible apply But.drew | with_reducible apply But.alloc | (with_reducible refine But.setNew ?_ (by simp; try omega) _)))) k3); have hcy3 := k3.cell_eq; have hzy3 := k3.size; (try simp at hzy3); have n0y3 : w.heap.size < y3.heap.size := (by omega); have kwy3 : Kept u1 y3 := (But.trans (by (repeat (first | with_reducible exact kwy2 | with_reducible apply But.drewN | with_reducible apply But.drew | with_reducible apply But.alloc | (with_reducible refine But.setNew ?_ (by simp; try omega) _)))) k3); have b0y3 := Kept.cell kwy3 b0; have b1y3 := Kept.cell kwy3 b1; have b2y3 := Kept.cell kwy3 b2; have b3y3 := Kept.cell kwy3 b3)
           | (go_at_call 13; refine (HS.out _ _ (ItemAt.kept o2 (by (repeat (first | with_reducible exact But.refl _ _ _ | with_reducible apply But.drewN | with_reducible apply But.drew | with_reducible apply But.alloc | (with_reducible refine But.setNew ?_ (by simp; try omega) _)))))).mono ?_; rintro e y4 ⟨v4, rfl, ow, k4⟩; obtain ⟨ao4, cap4, hfm⟩ := ow.form; subst hfm; have hcy4 := k4.cell_eq; have hzy4 := k4.size; (try simp at hzy4); have n0y4 : w.heap.size < y4.heap.size := (by omega); have kwy4 : Kept u1 y4 := (But.trans (by (repeat (first | with_reducible exact kwy3 | with_reducible apply But.drewN | with_reducible apply But.drew | with_reducible apply But.alloc | (with_reducible refine But.setNew ?_ (by simp; try omega) _)))) k4); have b0y4 := Kept.cell kwy4 b0; have b1y4 := Kept.cell kwy4 b1; have b2y4 := Kept.cell kwy4 b2; have b3y4 := Kept.cell kwy4 b3))
  all_goals
    obtain ⟨lo4, hlo4, ow⟩ : ∃ lo, u1.heap.size ≤ lo ∧ NumO y4 lo y4.heap.size (.slice ao4 R.length cap4) R := ⟨_, by first | omega | (simp; omega), ow⟩
    obtain ⟨u0, hu0⟩ : ∃ W, W = y4 := ⟨_, rfl⟩
    have K2 := K1.trans kwy4
    have Lv := Lv.kept kwy4
    have s1 := kwy4.size
    have hvl := Lv.lt
    clear hu0 u0 o2 k2 k3 k4 kwy2 kwy3 kwy4 hcy2 hcy3 hcy4 hzy2 hzy3 hzy4 n0y2 n0y3 n0y4 b0y2 b0y3 b0y4 b1y2 b1y3 b1y4 b2y2 b2y3 b2y4 b3y2 b3y3 b3y4 K1
    clear b0 b1 b2 b3 bl
    repeat (first | go_values | go_skip | go_guarded | go_step | go_upon)
    go_at_call 14
    refine (toItemS l _ _ (hv.kept K2) hn).mono ?_
    rintro e u101 ⟨v101, rfl, x0, k101⟩
    have K101 := K2.trans k101
    have Lv := Lv.kept k101
    have ow := ow.kept k101
    have s101 := k101.size
    clear k101 K2
    obtain ⟨ao101, cap101, hfm⟩ := x0.form
    subst hfm
    have b0 := Lv.cell 0 rfl
    have b1 := Lv.cell 1 rfl
    have b2 := Lv.cell 2 rfl
    have b3 := Lv.cell 3 rfl
    have bl := Lv.lt
    dsimp only
    repeat (first | go_values | go_skip | go_guarded | go_step | go_upon)
    go_at_call 15
    refine (toPlaced _ _ _ _ _).mono ?_
    rintro e u102 ⟨rfl, k102⟩
    have K102 := K101.trans k102
    have Lv := Lv.kept k102
    have ow := ow.kept k102
    have x0 := x0.kept k102
    have s102 := k102.size
    clear k102 K101
    clear b0 b1 b2 b3 bl
    dsimp only
    repeat (first | go_values | go_skip | go_guarded | go_step | go_upon)
    go_at_call 16
    refine (HI.out _ _ x0.at).mono ?_
    rintro e u103 ⟨v103, rfl, og, k103⟩
    have K103 := K102.trans k103
    have Lv := Lv.kept k103
    have ow := ow.kept k103
    have x0 := x0.kept k103
    have s103 := k103.size
    clear k103 K102
    obtain ⟨ao103, cap103, hfm⟩ := og.form
    subst hfm
    dsimp only
    repeat (first | go_values | go_skip | go_guarded | go_step | go_upon)
    go_at_call 17
    refine (eqNumS R _ _ _ og.at ow.at (by omega)).mono ?_
    rintro e u104 ⟨rfl, k104⟩
    have K104 := K103.trans k104
    have Lv := Lv.kept k104
    have ow := ow.kept k104
    have x0 := x0.kept k104
    have og := og.kept k104
    have s104 := k104.size
    clear k104 K103
    dsimp only
    repeat (first | go_values | go_skip | go_guarded | go_step | go_upon)
    go_at_call 14
    refine (toItemS l _ _ (hv.kept K104) hn).mono ?_
    rintro e u105 ⟨v105, rfl, y0, k105⟩
    have K105 := K104.trans k105
    have Lv := Lv.kept k105
    have ow := ow.kept k105
    have x0 := x0.kept k105
    have og := og.kept k105
    have s105 := k105.size
    clear k105 K104
    obtain ⟨ao105, cap105, hfm⟩ := y0.form
    subst hfm
    dsimp only
    repeat (first | go_values | go_skip | go_guarded | go_step | go_upon)
    go_at_call 18
    refine (eqItemS l _ _ _ x0.at y0.at (by omega)).mono ?_
    rintro e u106 ⟨rfl, k106⟩
    have K106 := K105.trans k106
    have Lv := Lv.kept k106
    have ow := ow.kept k106
    have x0 := x0.kept k106
    have og := og.kept k106
    have y0 := y0.kept k106
    have s106 := k106.size
    clear k106 K105
    clear y0
    dsimp only
    repeat (first | go_values | go_skip | go_guarded | go_step | go_upon)
    go_at_call 19
    refine (markItemS l _ 1 _ _ _ x0 (by omega)).mono ?_
    rintro e u107 ⟨rfl, -, b107⟩
    rw [HA.out]
    have k107 := b107.inner x0
    have K107 := K106.onto k107 (by omega)
    have Lv := Lv.but k107 (by omega)
    have ow := ow.but k107 (by omega)
    have og := og.but k107 (by omega)
    have s107 := k107.size
    clear b107 k107 K106 x0
    dsimp only
    repeat (first | go_values | go_skip | go_guarded | go_step | go_upon)
    go_at_call 17
    refine (eqNumS R _ _ _ og.at ow.at (by omega)).mono ?_
    rintro e u108 ⟨rfl, k108⟩
    have K108 := K107.trans k108
    have Lv := Lv.kept k108
    have ow := ow.kept k108
    have og := og.kept k108
    have s108 := k108.size
    clear k108 K107
    dsimp only
    repeat (first | go_values | go_skip | go_guarded | go_step | go_upon)
    go_at_call 20
    refine (markNumS R _ 1 _ _ _ og (by omega)).mono ?_
    rintro e u109 ⟨rfl, og2, b109⟩
    rw [HD.out]
    have k109 := b109.inner og
    have K109 := K108.onto k109 (by omega)
    have Lv := Lv.but k109 (by omega)
    have ow := ow.but k109 (by omega)
    have s109 := k109.size
    clear b109 k109 K108 og
    dsimp only
    repeat (first | go_values | go_skip | go_guarded | go_step | go_upon)
    go_at_call 21
    refine (heldNumS R.length _ 1 _ og2.at (by omega)).mono ?_
    rintro e u110 ⟨rfl, k110⟩
    rw [HD.out]
    have K110 := K109.trans k110
    have Lv := Lv.kept k110
    have ow := ow.kept k110
    have og2 := og2.kept k110
    have s110 := k110.size
    clear k110 K109
    have b0 := Lv.cell 0 rfl
    have b1 := Lv.cell 1 rfl
    have b2 := Lv.cell 2 rfl
    have b3 := Lv.cell 3 rfl
    have bl := Lv.lt
    dsimp only
    repeat (first | go_values | go_skip | go_guarded | go_step | go_upon)
    go_region_held3 (fun w' => w'.cell? ⟨w.heap.size, 0, none⟩ = some (.int .i64 x) ∧ w'.cell? ⟨w.heap.size, 1, none⟩ = some (.int .i64 y) ∧ w'.cell? ⟨w.heap.size, 2, none⟩ = some (.int .i64 a) ∧ w'.cell? ⟨w.heap.size, 3, none⟩ = some (.int .i64 b)) (simp [go_sem, *])
      (first | (go_at_call 14; refine (toItemS l _ _ (hv.kept (But.trans K110 (by (repeat (first | with_reducible exact But.refl _ _ _ | with_reducible apply But.drewN | with_reducible apply But.drew | with_reducible apply But.alloc | (with_reducible refine But.setNew ?_ (by simp; try omega) _)))))) hn).mono ?_; rintro e z2 ⟨v92, rfl, o2, k2⟩; obtain ⟨ao92, cap92, hfm⟩ := o2.form; subst hfm; have o2 := o2.at; have hcz2 := k2.cell_eq; have hzz2 := k2.size; (try simp at hzz2); have n0z2 : w.heap.size < z2.heap.size := (by omega); have kwz2 : Kept u110 z2 := (But.trans (by (repeat (first | with_reducible exact But.refl _ _ _ | with_reducible apply But.drewN | with_reducible apply But.drew | with_reducible apply But.alloc | (with_reducible refine But.setNew ?_ (by simp; try omega) _)))) k2); have b0z2 := Kept.cell kwz2 b0; have b1z2 := Kept.cell kwz2 b1; have b2z2 := Kept.cell kwz2 b2; have b3z2 := Kept.cell kwz2 b3)
             | (go_at_call 15; refine (toPlaced _ _ _ _ _).mono ?_; rintro e z3 ⟨rfl, k3⟩; have o2 := ItemAt.kept o2 (But.trans (by (repeat (first | with_reducible exact But.refl _ _ _ | with_reducible apply But.drewN | with_reducible apply But.drew | with_reducible apply But.alloc | (with_reducible refine But.setNew ?_ (by simp; try omega) _)))) k3); have hcz3 := k3.cell_eq; have hzz3 := k3.size; (try simp at hzz3); have n0z3 : w.heap.size < z3.heap.size := (by omega); have kwz3 : Kept u110 z3 := (But.trans (by (repeat (first | with_reducible exact kwz2 | with_reducible apply But.drewN | with_reducible apply But.drew | with_reducible apply But.alloc | (with_reducible refine But.setNew ?_ (by simp; try omega) _)))) k3); have b0z3 := Kept.cell kwz3 b0; have b1z3 := Kept.cell kwz3 b1; have b2z3 := Kept.cell kwz3 b2; have b3z3 := Kept.cell kwz3 b3)
             | (go_at_call 16; refine (HI.out _ _ (ItemAt.kept o2 (by (repeat (first | with_reducible exact But.refl _ _ _ | with_reducible apply But.drewN | with_reducible apply But.drew | with_reducible apply But.alloc | (with_reducible refine But.setNew ?_ (by simp; try omega) _)))))).mono ?_; rintro e z4 ⟨v94, rfl, oh, k4⟩; obtain ⟨ao94, cap94, hfm⟩ := oh.form; subst hfm; have hcz4 := k4.cell_eq; have hzz4 := k4.size; (try simp at hzz4); have n0z4 : w.heap.size < z4.heap.size := (by omega); have kwz4 : Kept u110 z4 := (But.trans (by (repeat (first | with_reducible exact kwz3 | with_reducible apply But.drewN | with_reducible apply But.drew | with_reducible apply But.alloc | (with_reducible refine But.setNew ?_ (by simp; try omega) _)))) k4); have b0z4 := Kept.cell kwz4 b0; have b1z4 := Kept.cell kwz4 b1; have b2z4 := Kept.cell kwz4 b2; have b3z4 := Kept.cell kwz4 b3))
    all_goals
      have K99 := K110.trans kwz4
      have ow := ow.kept kwz4
      have og2 := og2.kept kwz4
      clear o2 k2 k3 k4 kwz2 kwz3 kwz4 hcz2 hcz3 hcz4 hzz2 hzz3 hzz4 n0z2 n0z3 n0z4 b0z2 b0z3 b0z4 b1z2 b1z3 b1z4 b2z2 b2z3 b2z4 b3z2 b3z3 b3z4 K110
      clear b0 b1 b2 b3 bl Lv
      repeat (first | go_values | go_skip | go_guarded | go_step | go_upon)
      go_at_call 17
      refine (eqNumS R _ _ _ oh.at ow.at (by omega)).mono ?_
      rintro e u201 ⟨rfl, k201⟩
      have K201 := K99.trans k201
      have ow := ow.kept k201
      have oh := oh.kept k201
      have og2 := og2.kept k201
      have s201 := k201.size
      clear k201 K99
      clear oh ow
      dsimp only
      repeat (first | go_values | go_skip | go_guarded | go_step | go_upon)
      go_at_call 21
      refine (heldNumS R.length _ 1 _ og2.at (by omega)).mono ?_
      rintro e u202 ⟨rfl, k202⟩
      rw [HD.out]
      have K202 := K201.trans k202
      have og2 := og2.kept k202
      have s202 := k202.size
      clear k202 K201
      dsimp only
      repeat (first | go_values | go_skip | go_guarded | go_step | go_upon)
      go_ret
      exact ⟨rfl, K202⟩

set_option maxRecDepth 100000 in
set_option maxHeartbeats 1000000 in
theorem big (l : List ItemD) (x y a b : Int) (v : Value) (w : World) (hv : ItemAt w v l) (hlen : l.length ≤ maxLen) (hl : 1048576 < l.length) :
    Calls Try.prog 4 #[v, .agg #[.int .i64 x, .int .i64 y, .int .i64 a, .int .i64 b]] w fun e w' => e = .returned (.bool true) ∧ Kept w w' := by
  unfold maxLen at hlen
  obtain ⟨ao, cap, hfm⟩ := row_nil hv
  subst hfm
  go_enter Try.func4, Try.ntmps4
  repeat (first | go_values | go_skip | go_guarded | go_step | go_upon)
  go_at_call 12
  refine (szItemS l _ _ _ (hv.kept ((But.refl _ _ w).alloc _)) (by omega) (by omega) (by omega)).mono ?_
  rintro e u1 ⟨rfl, k1⟩
  rw [leftOf_no (by omega)]
  dsimp only
  repeat (first | go_values | go_skip | go_guarded | go_step | go_upon)
  go_ret
  exact ⟨rfl, ((But.refl _ _ w).alloc _).trans k1⟩
theorem all (l : List ItemD) (v : Value) {w : World} (hv : ItemAt w v l) (_ : ∀ p ∈ l, True) (hlen : l.length ≤ maxLen) (p : PlacedD) (w' : World) (_ : w' = w) :
    Calls Try.prog 4 #[v, .agg (placedC p).toArray] w fun e w' => e = .returned (.bool true) ∧ Kept w w' := by
  obtain ⟨x, y, a, b⟩ := p
  by_cases hl : l.length ≤ 1048576
  · exact walk l (seenA l x y a b).1 x y a b (seenA l x y a b).2 v w hv hl (by have := seenA_len l x y a b; omega) (fun u v h => sseen l x y a b v u h hl) (fun u v h => iseen l x y a b v u h hl)
  · exact big l x y a b v w hv hlen (by omega)


set_option maxRecDepth 100000 in
theorem lifted (os : Os) (started : os.Started) (H : Type) (enc : TypeId × Value → H) :
    ReturnsInHanded {} Try.checked os 4 .any (Rows.fnExactSeenSpec.pre6 enc Try.prog Try.f4 Rows.fnExactSeenRow.domain false) (Rows.fnExactSeenSpec.post enc Try.prog Try.f4 false true false false) := by
  refine returnsInHanded_of_change (C := Try.checked) own started (by kernel_rfl) Try.func4
    (ChangeSpec.witness6 (enc := enc) (C := Try.checked) false ⟨#[], #[.slice none 0 0, .agg #[.int .i64 0, .int .i64 0, .int .i64 0, .int .i64 0]], []⟩ 8 (by kernel_rfl) (by kernel_rfl) (by kernel_rfl) (by kernel_rfl)) ?_
  intro W base args ds gs before hval0 hW hcnd _
  have hval : ∀ (j : Nat) t v, Try.f4.params[j]? = some t → args[j]? = some v → Value.okWide Try.prog W .any base t v := hval0
  have hW' := hW
  obtain ⟨p, q, hA0, hV, rfl, hfz, hnd⟩ := hW
  have hA : DataW.TrodAll enc Try.prog W 0 (fun _ => true) true Try.f4.params.toList args.toList ds p := hA0
  rw [Try.params4] at hA hval
  obtain ⟨v0, vs0, d0, ds0, p0, q0, hargs, rfl, rfl, h0, r0⟩ := trodAll_cons hA
  obtain ⟨v1, vs1, d1, ds1, p1, q1, rfl, rfl, rfl, h1, r1⟩ := trodAll_cons r0
  obtain ⟨rfl, rfl, rfl⟩ := trodAll_nil r1
  obtain rfl : args = #[v0, v1] := by cases args; simp_all
  obtain ⟨rfl, rfl⟩ := trodVars_none hV
  obtain ⟨l0, hv0, hq0, hl0⟩ := open_itemS (hval 0 32 v0 rfl rfl) h0
  obtain ⟨a1, e1⟩ := open_placedV (hval 1 23 v1 rfl rfl) h1
  subst e1
  clear hA0 hval0
  simp only [List.append_nil] at hW'
  refine (all l0 v0 hv0 hq0 hl0 a1 W rfl).mono fun e W' ⟨he, hg⟩ => ?_
  subst he
  exact ⟨_, rfl, post_of_kept (pa := _) (pv := []) hW' (fun _ _ _ => (trodAll_cons_mk (shut_bool Try.underlying4 _) trodAll_mk0)) (fun sp hsp => (trodAll_cons_mk (kept_trod (by kernel_rfl) (of_decide_eq_true (by kernel_rfl)) h0 hg (fun x hx => hW'.lt x (by simp [hx])) (fun x hx => hsp x (by simp [hx]))) (trodAll_cons_mk (kept_trod (by kernel_rfl) (of_decide_eq_true (by kernel_rfl)) h1 hg (fun x hx => hW'.lt x (by simp [hx])) (fun x hx => hsp x (by simp [hx]))) trodAll_mk0))) (fun _ _ => rfl) hg⟩

theorem over : Rows.fnExactSeenRow.holds Try.pinned (OpenSpec.ofChange Rows.fnExactSeenSpec) :=
  OpenClaim.holds_of_wide 4 Try.f4 rfl rfl rfl rfl rfl rfl rfl ⟨rfl, rfl, rfl, rfl, rfl⟩ rfl rfl rfl rfl rfl (by kernel_rfl) Try.func4 (by kernel_rfl)
    (of_decide_eq_true (by kernel_rfl)) (by unfold Func.isWrapper; first | (rw [if_pos (by decide +kernel)]; kernel_rfl) | (rw [if_neg (by decide +kernel)]; exact ⟨rfl, rfl⟩))
    (fun os started H enc _ => lifted os started H enc)

theorem proved : Rows.FnExactSeenSaid :=
  over
#print axioms proved
end Go.Proofs.Ytoimpkhgdpkhkaa.fnExactSeen
