/-
  What the drawing of clocks and times answers: some clock that lies in memory of its own, some time; the cursor's own block alone is written.
-/
import Derived.Test.YthihgjcnjgpegaaDrawT
namespace Go.Proofs.Ythihgjcnjgpegaa
open Go.ChangeShapes Go.WideShapes Go.ChangeAt Go.RowKit

/-- A clock is answered, in memory of its own. -/
def DrawnC (b : Nat) (K : Int) (w : World) (e : Ending) (w' : World) : Prop := ∃ v c, e = .returned v ∧ ClockO w' w.heap.size w'.heap.size v c ∧ CurOk w' b K ∧ But b (b + 1) w w'

/-- The drawing of a clock on its way: X holds the clock, T the answer to be. -/
structure Way (b T X : Nat) (K : Int) (m : Nat) (w W : World) (now : Int) (s : Value) (l : List TimerD) : Prop where
  cur : CurOk W b K
  x : Loc W X [.int .i64 now, s]
  row : TimerO W (X + 1) W.heap.size s l
  t : Loc W T [.int .i64 0, .slice none 0 0]
  but : But b (b + 1) w W
  len : l.length ≤ m
theorem Way.le {m b T X : Nat} {K K' : Int} {w W : World} {now : Int} {s : Value} {l : List TimerD} (h : Way b T X K m w W now s l) (hk : K ≤ K') : Way b T X K' m w W now s l := ⟨h.cur.le hk, h.x, h.row, h.t, h.but, h.len⟩
/-- A drawing behind it. -/
theorem Way.draw {m b T X : Nat} {K K' : Int} {w W W' : World} {now : Int} {s : Value} {l : List TimerD} (h : Way b T X K m w W now s l) (hb : b < T) (hx : T < X) (hC : CurOk W' b K') (k : But b (b + 1) W W') : Way b T X K' m w W' now s l :=
  ⟨hC, h.x.but k (by omega), (h.row.but k (by omega)).low, h.t.but k (by omega), h.but.trans k, h.len⟩
/-- A call that keeps what was there. -/
theorem Way.kept {m b T X : Nat} {K : Int} {w W W' : World} {now : Int} {s : Value} {l : List TimerD} (h : Way b T X K m w W now s l) (k : Kept W W') : Way b T X K m w W' now s l :=
  ⟨h.cur.kept k, h.x.kept k, (h.row.kept k).low, h.t.kept k, h.but.transK k, h.len⟩

theorem add_len (c : ClockD) (t : TimerD) : (addA c t).1.2.length ≤ 20 := by
  unfold addA
  split
  · rename_i h
    simp only [Bool.and_eq_true] at h
    exact good_len h.2
  · simp
/-- Another clock is stored. -/
theorem Way.put {m b T X lo : Nat} {K : Int} {w W : World} {now now' : Int} {s s' : Value} {l l' : List TimerD} (h : Way b T X K m w W now s l) (hb : b < T) (hx : T < X) (hw : w.heap.size ≤ T) (ho : TimerO W lo W.heap.size s' l') (hlo : X < lo) (hl : l'.length ≤ m) :
    Way b T X K m w ((W.setCell ⟨X, 0, none⟩ (.int .i64 now')).setCell ⟨X, 1, none⟩ s') now' s' l' := by
  have k : But X (X + 1) W ((W.setCell ⟨X, 0, none⟩ (.int .i64 now')).setCell ⟨X, 1, none⟩ s') :=
    ((But.refl _ _ _).setCell (p := ⟨X, 0, none⟩) (Nat.le_refl X) (Nat.lt_succ_self X) _).setCell (p := ⟨X, 1, none⟩) (Nat.le_refl X) (Nat.lt_succ_self X) _
  exact ⟨h.cur.but k (by omega), (h.x.set 0 _).set 1 _, (RowO.mono (RowO.but ho k (by omega)) (by omega) (Nat.le_refl _)).low, h.t.but k (by omega), (h.but.setNew (p := ⟨X, 0, none⟩) (by dsimp only; omega) _).setNew (p := ⟨X, 1, none⟩) (by dsimp only; omega) _, hl⟩

/-- A timer is laid behind the clock's. -/
theorem Way.app {m b T X : Nat} {K : Int} {w W w3 : World} {now : Int} {s v3 : Value} {l : List TimerD} {t : TimerD} {o : Obj} (h : Way b T X K m w W now s l) (hb : b < T) (hx : T < X) (hw : w.heap.size ≤ T) (hT : TimerO w3 (X + 1) w3.heap.size v3 (l ++ [t])) (hg : (W.alloc o).grownBy w3 s.ownBlock) :
    Loc w3 X [.int .i64 now, s] ∧ Way b T X K (m + 1) w (w3.setCell ⟨X, 1, none⟩ v3) now v3 (l ++ [t]) := by
  have k0 : Kept W (W.alloc o) := (But.refl _ _ W).alloc o
  have r0 : TimerO (W.alloc o) (X + 1) W.heap.size s l := h.row.kept k0
  have k1 : But (X + 1) W.heap.size W w3 := (But.of k0).trans (But.inner (but_of_grown hg) r0)
  have hsz := h.x.lt
  have k2 : But X (X + 1) w3 (w3.setCell ⟨X, 1, none⟩ v3) := (But.refl _ _ _).setCell (p := ⟨X, 1, none⟩) (Nat.le_refl X) (Nat.lt_succ_self X) _
  have x3 := h.x.but k1 (.inl (Nat.lt_succ_self X))
  refine ⟨x3, (h.cur.but k1 (by omega)).but k2 (by omega), x3.set 1 v3, (RowO.but hT k2 (by omega)).low, (h.t.but k1 (by omega)).but k2 (by omega), ?_, by simp; exact h.len⟩
  exact ⟨k2.os.trans (k1.os.trans h.but.os), k2.out.trans (k1.out.trans h.but.out), Nat.le_trans h.but.size (Nat.le_trans k1.size k2.size), fun i hi hn => ((k2.block i (by have := h.but.size; have := k1.size; omega) (by omega)).trans (k1.block i (by have := h.but.size; omega) (by omega))).trans (h.but.block i hi hn)⟩
/-- The clock's time is stored. -/
theorem Way.now {m b T X : Nat} {K : Int} {w W : World} {now : Int} {s : Value} {l : List TimerD} (h : Way b T X K m w W now s l) (z : Int) (hb : b < T) (hx : T < X) (hw : w.heap.size ≤ T) : Way b T X K m w (W.setCell ⟨X, 0, none⟩ (.int .i64 z)) z s l := by
  have k : But X (X + 1) W (W.setCell ⟨X, 0, none⟩ (.int .i64 z)) := (But.refl _ _ _).setCell (p := ⟨X, 0, none⟩) (Nat.le_refl X) (Nat.lt_succ_self X) _
  exact ⟨h.cur.but k (by omega), h.x.set 0 _, (RowO.but h.row k (by omega)).low, h.t.but k (by omega), h.but.setNew (p := ⟨X, 0, none⟩) (by dsimp only; omega) _, h.len⟩
/-- The clock is answered. -/
theorem Way.fin {m b T X : Nat} {K K' : Int} {w W : World} {now : Int} {s : Value} {l : List TimerD} (h : Way b T X K m w W now s l) (hb : b < T) (hx : T < X) (hw : w.heap.size ≤ T) (hk : K ≤ K') :
    DrawnC b K' w (.returned (.agg #[.int .i64 now, s])) ((W.setCell ⟨T, 0, none⟩ (.int .i64 now)).setCell ⟨T, 1, none⟩ s) := by
  have k : But T (T + 1) W ((W.setCell ⟨T, 0, none⟩ (.int .i64 now)).setCell ⟨T, 1, none⟩ s) :=
    ((But.refl _ _ _).setCell (p := ⟨T, 0, none⟩) (Nat.le_refl T) (Nat.lt_succ_self T) _).setCell (p := ⟨T, 1, none⟩) (Nat.le_refl T) (Nat.lt_succ_self T) _
  exact ⟨_, (now, l), rfl, ⟨s, rfl, (RowO.mono (RowO.but h.row k (by omega)) (by omega) (Nat.le_refl _)).low⟩, (h.cur.but k (by omega)).le hk, (h.but.setNew (p := ⟨T, 0, none⟩) (by dsimp only; omega) _).setNew (p := ⟨T, 1, none⟩) (by dsimp only; omega) _⟩
/-- Something is stored in a block t of another variable. -/
theorem Way.other {m b T X t : Nat} {K : Int} {w W : World} {now : Int} {s : Value} {l : List TimerD} (h : Way b T X K m w W now s l) (hb : b < T) (hx : T < X) (hw : w.heap.size ≤ T) (ht : X < t) (hst : ∀ g, s.ownBlock = some g → g < t) (j : Nat) (v : Value) :
    Way b T X K m w (W.setCell ⟨t, j, none⟩ v) now s l := by
  have k : But t (t + 1) W (W.setCell ⟨t, j, none⟩ v) := (But.refl _ _ _).setCell (p := ⟨t, j, none⟩) (Nat.le_refl t) (Nat.lt_succ_self t) _
  have r : TimerO (W.setCell ⟨t, j, none⟩ v) (X + 1) t s l := RowO.but (⟨h.row.1, hst⟩ : RowO W (X + 1) t 46 4 s _ _) k (.inl (Nat.le_refl _))
  exact ⟨h.cur.but k (by omega), h.x.but k (by omega), r.low, h.t.but k (by omega), h.but.setNew (p := ⟨t, j, none⟩) (by dsimp only; omega) _, h.len⟩

set_option maxRecDepth 100000 in
set_option maxHeartbeats 4000000 in
theorem clock_ok (w : World) (b : Nat) (K : Int) (h : CurOk w b K) (hK : K ≤ 1152921504606830000) :
    Calls Try.prog 34 #[.pointer (some ⟨b, 0, none⟩)] w (DrawnC b (K + 1000) w) := by
  have hT : b < w.heap.size := h.lt
  have hC : CurOk w b (K + 0) := h.le (by omega)
  have hK0 := hC.k0
  go_enter Try.func34, Try.ntmps34
  repeat (first | go_values | go_skip | go_guarded | go_step | go_upon)
  go_at_call 35
  refine (pick_ok _ b (K + 0) 20 (by repeat (first | with_reducible exact hC | refine CurOk.set ?_ (by omega) _ _ | refine CurOk.alloc ?_ _)) (by omega) (by omega)).mono ?_
  rintro e w1 ⟨x1, rfl, hx1, hC, hg⟩
  have L0 := (Loc.new w [.int .i64 0, .slice none 0 0] 25).but hg (by omega)
  have hs := L0.lt
  have G : But b (b + 1) w w1 := ((But.refl b (b + 1) w).alloc (.cells #[.int .i64 0, .slice none 0 0] 25)).trans hg
  have Wy : Way b w.heap.size w1.heap.size (K + 2) 20 w (w1.alloc (.cells #[.int .i64 x1, .slice none 0 0] 25)) x1 (.slice none 0 0) [] :=
    ⟨(hC.le (by omega)).alloc _, Loc.new w1 [.int .i64 x1, .slice none 0 0] 25, ⟨World.ownsRow_nil _ _ _ _, fun g hg => by simp [Value.ownBlock] at hg⟩, L0.alloc _, G.alloc _, by simp⟩
  dsimp only
  repeat (first | go_values | go_skip | go_guarded | go_step | go_upon)
  go_at_call 35
  refine (pick_ok _ b (K + 2) 6 Wy.cur (by omega) (by omega)).mono ?_
  rintro e w2 ⟨x2, rfl, hx2, hC, hg⟩
  have Wy : Way b w.heap.size w1.heap.size (K + 4) 20 w w2 x1 (.slice none 0 0) [] := Wy.draw hT hs (hC.le (by omega)) hg
  clear L0 G hC hg
  dsimp only
  repeat (first | go_values | go_skip | go_guarded | go_step | go_upon)
  go_at_call 36
  refine (one_ok _ b (K + 4) 20 Wy.cur (by omega) (by omega)).mono ?_
  rintro e w3 ⟨y3, rfl, hC, hg⟩
  have Wy : Way b w.heap.size w1.heap.size (K + 6) 20 w w3 x1 (.slice none 0 0) [] := Wy.draw hT hs (hC.le (by omega)) hg
  clear hC hg
  cases y3
  · dsimp only
    repeat (first | go_values | go_skip | go_guarded | go_step | go_upon)
    clear hx1
    go_loopw [4] (fun v wr => ∃ k : Nat, v = .int .i64 k ∧ k ≤ 30 ∧ ∃ now s l, Way b w.heap.size w1.heap.size (K + 10 + 24 * (30 - k)) 20 w wr now s l) (fun v _ => (intOf v).toNat)
    case atStart => exact ⟨x2.toNat, by simp; omega, by omega, x1, _, _, Wy.le (by omega)⟩
    case round =>
      obtain ⟨k, rfl, hk, now, s, l, Wy⟩ := hrel
      rename World => wo
      have c0 := Wy.x.cell 0 rfl
      have c1 := Wy.x.cell 1 rfl
      have cf0 := Wy.x.frozen 0
      have cf1 := Wy.x.frozen 1
      have r0 := Wy.t.cell 0 rfl
      have r1 := Wy.t.cell 1 rfl
      have rf0 := Wy.t.frozen 0
      have rf1 := Wy.t.frozen 1
      by_cases hlt : 0 < k
      · have dk : decide ((0 : Int) < (k : Int)) = true := by simp; omega
        repeat (first | go_values | go_skip | go_guarded | go_step | go_upon)
        go_at_call 64
        have hst : ∀ g, s.ownBlock = some g → g < wo.heap.size := fun g hg => (own_lt Wy.row.1 hg).2
        refine (timer_ok _ b (K + 10 + 24 * (30 - k)) now Wy.cur (by omega)).mono ?_
        rintro e w4 ⟨ta, tb, tc, td, rfl, hC, hg⟩
        have Wy : Way b w.heap.size w1.heap.size (K + 10 + 24 * (30 - k) + 20) 20 w w4 now s l := Wy.draw hT hs hC hg
        have hst : ∀ g, s.ownBlock = some g → g < w4.heap.size := fun g hb => Nat.lt_of_lt_of_le (hst g hb) hg.size
        clear hC hg c0 c1 cf0 cf1 r0 r1 rf0 rf1
        have c0 := Wy.x.cell 0 rfl
        have c1 := Wy.x.cell 1 rfl
        have cf0 := Wy.x.frozen 0
        have cf1 := Wy.x.frozen 1
        have r0 := Wy.t.cell 0 rfl
        have r1 := Wy.t.cell 1 rfl
        have rf0 := Wy.t.frozen 0
        have rf1 := Wy.t.frozen 1
        dsimp only
        repeat (first | go_values | go_skip | go_guarded | go_step | go_upon)
        have hbt : w1.heap.size < w4.heap.size := Wy.x.lt
        have Lt := Loc.new w4 [.int .i64 ta, .int .i64 tb, .int .i64 tc, .int .i64 td] 46
        have Wy := Wy.kept ((But.refl _ _ w4).alloc (.cells #[.int .i64 ta, .int .i64 tb, .int .i64 tc, .int .i64 td] 46))
        go_at_call 36
        refine (one_ok _ b (K + 10 + 24 * (30 - k) + 20) 3 Wy.cur (by omega) (by omega)).mono ?_
        rintro e w5 ⟨y5, rfl, hC, hg⟩
        have Lt := Lt.but hg (by omega)
        have Wy : Way b w.heap.size w1.heap.size (K + 10 + 24 * (30 - k) + 22) 20 w w5 now s l := Wy.draw hT hs (hC.le (by omega)) hg
        clear hC hg c0 c1 cf0 cf1 r0 r1 rf0 rf1
        have c0 := Wy.x.cell 0 rfl
        have c1 := Wy.x.cell 1 rfl
        have cf0 := Wy.x.frozen 0
        have cf1 := Wy.x.frozen 1
        have r0 := Wy.t.cell 0 rfl
        have r1 := Wy.t.cell 1 rfl
        have rf0 := Wy.t.frozen 0
        have rf1 := Wy.t.frozen 1
        cases y5
        · dsimp only
          have t0 := Lt.cell 0 rfl
          have t1 := Lt.cell 1 rfl
          have t2 := Lt.cell 2 rfl
          have t3 := Lt.cell 3 rfl
          have tf0 := Lt.frozen 0
          repeat (first | go_values | go_skip | go_guarded | go_step | go_upon)
          go_at_call 20
          refine (specAdd (now, l) ta tb tc td _ _ ⟨s, rfl, Wy.row.at⟩).mono ?_
          rintro e w6 ⟨v6, rfl, o6, k6⟩
          have hsz := Wy.x.lt
          have Wy := Wy.kept k6
          have hx6 := Wy.x.lt
          clear c0 c1 cf0 cf1 r0 r1 rf0 rf1
          have c0 := Wy.x.cell 0 rfl
          have c1 := Wy.x.cell 1 rfl
          have cf0 := Wy.x.frozen 0
          have cf1 := Wy.x.frozen 1
          have r0 := Wy.t.cell 0 rfl
          have r1 := Wy.t.cell 1 rfl
          have rf0 := Wy.t.frozen 0
          have rf1 := Wy.t.frozen 1
          obtain ⟨ao6, cap6, hfm⟩ := o6.form
          subst hfm
          have hl6 := add_len (now, l) (ta, tb, tc, td)
          generalize hj : (addA (now, l) (ta, tb, tc, td)).2 = j at *
          generalize (addA (now, l) (ta, tb, tc, td)).1 = c6 at *
          clear hj
          have Wz := Wy.kept ((But.refl _ _ w6).alloc (.cells #[.int .i64 c6.1, .slice ao6 c6.2.length cap6] 25))
          cases j
          · dsimp only
            repeat (first | go_values | go_skip | go_guarded | go_step | go_upon)
            exact ⟨⟨k - 1, by go_num, by omega, now, s, l, Wz.le (K' := K + 10 + 24 * (30 - ((k - 1 : Nat) : Int))) (by omega)⟩, by simp [intOf]; omega⟩
          · dsimp only
            repeat (first | go_values | go_skip | go_guarded | go_step | go_upon)
            exact ⟨⟨k - 1, by go_num, by omega, _, _, _, ((Wy.put (now' := c6.1) hT hs (Nat.le_refl _) o6.row (by omega) (by omega)).kept ((But.refl _ _ _).alloc _)).le (K' := K + 10 + 24 * (30 - ((k - 1 : Nat) : Int))) (by omega)⟩, by simp [intOf]; omega⟩
        · dsimp only
          repeat (first | go_values | go_skip | go_guarded | go_step | go_upon)
          go_at_call 35
          refine (pick_ok _ b (K + 10 + 24 * (30 - k) + 22) 1000 Wy.cur (by omega) (by omega)).mono ?_
          rintro e w7 ⟨x7, rfl, hx7, hC, hg⟩
          have Lt := Lt.but hg (by omega)
          have Wy : Way b w.heap.size w1.heap.size (K + 10 + 24 * (30 - k) + 24) 20 w w7 now s l := Wy.draw hT hs (hC.le (by omega)) hg
          have W8 := Wy.other hT hs (Nat.le_refl _) hbt hst 0 (.int .i64 x7)
          have L8 := Lt.set 0 (.int .i64 x7)
          clear hC hg hx7 c0 c1 cf0 cf1 r0 r1 rf0 rf1
          have c0 := Wy.x.cell 0 rfl
          have c1 := Wy.x.cell 1 rfl
          have cf0 := Wy.x.frozen 0
          have cf1 := Wy.x.frozen 1
          have r0 := Wy.t.cell 0 rfl
          have r1 := Wy.t.cell 1 rfl
          have rf0 := Wy.t.frozen 0
          have rf1 := Wy.t.frozen 1
          have t0 := Lt.cell 0 rfl
          have t1 := Lt.cell 1 rfl
          have t2 := Lt.cell 2 rfl
          have t3 := Lt.cell 3 rfl
          have tf0 := Lt.frozen 0
          dsimp only
          repeat (first | go_values | go_skip | go_guarded | go_step | go_upon)
          have Wy := W8
          clear W8
          go_at_call 20
          refine (specAdd (now, l) x7 tb tc td _ _ ⟨s, rfl, Wy.row.at⟩).mono ?_
          rintro e w6 ⟨v6, rfl, o6, k6⟩
          have hsz := Wy.x.lt
          have Wy := Wy.kept k6
          have hx6 := Wy.x.lt
          clear c0 c1 cf0 cf1 r0 r1 rf0 rf1
          have c0 := Wy.x.cell 0 rfl
          have c1 := Wy.x.cell 1 rfl
          have cf0 := Wy.x.frozen 0
          have cf1 := Wy.x.frozen 1
          have r0 := Wy.t.cell 0 rfl
          have r1 := Wy.t.cell 1 rfl
          have rf0 := Wy.t.frozen 0
          have rf1 := Wy.t.frozen 1
          obtain ⟨ao6, cap6, hfm⟩ := o6.form
          subst hfm
          have hl6 := add_len (now, l) (x7, tb, tc, td)
          generalize hj : (addA (now, l) (x7, tb, tc, td)).2 = j at *
          generalize (addA (now, l) (x7, tb, tc, td)).1 = c6 at *
          clear hj
          have Wz := Wy.kept ((But.refl _ _ w6).alloc (.cells #[.int .i64 c6.1, .slice ao6 c6.2.length cap6] 25))
          cases j
          · dsimp only
            repeat (first | go_values | go_skip | go_guarded | go_step | go_upon)
            exact ⟨⟨k - 1, by go_num, by omega, now, s, l, Wz.le (K' := K + 10 + 24 * (30 - ((k - 1 : Nat) : Int))) (by omega)⟩, by simp [intOf]; omega⟩
          · dsimp only
            repeat (first | go_values | go_skip | go_guarded | go_step | go_upon)
            exact ⟨⟨k - 1, by go_num, by omega, _, _, _, ((Wy.put (now' := c6.1) hT hs (Nat.le_refl _) o6.row (by omega) (by omega)).kept ((But.refl _ _ _).alloc _)).le (K' := K + 10 + 24 * (30 - ((k - 1 : Nat) : Int))) (by omega)⟩, by simp [intOf]; omega⟩
      · have dk : decide ((0 : Int) < (k : Int)) = false := by simp; omega
        repeat (first | go_values | go_skip | go_guarded | go_step | go_upon)
        have Wy := Wy.le (K' := K + 730) (by omega)
        clear hk hlt dk
        obtain ⟨aoS, capS, hfm⟩ := Wy.row.form
        subst hfm
        go_at_call 36
        refine (one_ok _ b (K + 730) 30 Wy.cur (by omega) (by omega)).mono ?_
        rintro e w8 ⟨y8, rfl, hC, hg⟩
        have Wy := (Wy.draw (K' := K + 732) hT hs (hC.le (by omega)) hg)
        clear hC hg c0 c1 cf0 cf1 r0 r1 rf0 rf1
        have c0 := Wy.x.cell 0 rfl
        have c1 := Wy.x.cell 1 rfl
        have cf0 := Wy.x.frozen 0
        have cf1 := Wy.x.frozen 1
        have r0 := Wy.t.cell 0 rfl
        have r1 := Wy.t.cell 1 rfl
        have rf0 := Wy.t.frozen 0
        have rf1 := Wy.t.frozen 1
        cases y8
        · dsimp only
          repeat (first | go_values | go_skip | go_guarded | go_step | go_upon)
          have Wy := Wy.le (K' := K + 760) (by omega)
          go_at_call 36
          refine (one_ok _ b (K + 760) 40 Wy.cur (by omega) (by omega)).mono ?_
          rintro e w9 ⟨y9, rfl, hC, hg⟩
          have Wy := (Wy.draw (K' := K + 762) hT hs (hC.le (by omega)) hg)
          clear hC hg c0 c1 cf0 cf1 r0 r1 rf0 rf1
          have c0 := Wy.x.cell 0 rfl
          have c1 := Wy.x.cell 1 rfl
          have cf0 := Wy.x.frozen 0
          have cf1 := Wy.x.frozen 1
          have r0 := Wy.t.cell 0 rfl
          have r1 := Wy.t.cell 1 rfl
          have rf0 := Wy.t.frozen 0
          have rf1 := Wy.t.frozen 1
          cases y9
          · dsimp only
            repeat (first | go_values | go_skip | go_guarded | go_step | go_upon)
            refine bodyPost_ret (v := .agg #[.int .i64 now, .slice aoS l.length capS]) (by simp [results, Try.results34, go_sem, r0, r1]) rfl ?_
            exact Wy.fin hT hs (Nat.le_refl _) (by omega)
          · dsimp only
            repeat (first | go_values | go_skip | go_guarded | go_step | go_upon)
            go_at_call 37
            refine (among_ok _ b _ (K + 762) [-1, 100000, 100001] (by repeat (first | with_reducible exact Wy.cur | refine CurOk.alloc ?_ _)) (by omega) (by have := Wy.cur.lt; omega) (Listed.of (Loc.new _ _ _)) (by simp) (by simp) 3 rfl).mono ?_
            rintro e w12 ⟨z, rfl, -, hC, hg⟩
            have Wy := (Wy.kept ((But.refl _ _ _).alloc _)).draw (K' := K + 764) hT hs (hC.le (by omega)) hg
            clear hC hg c0 c1 cf0 cf1 r0 r1 rf0 rf1
            have c0 := Wy.x.cell 0 rfl
            have c1 := Wy.x.cell 1 rfl
            have cf0 := Wy.x.frozen 0
            have cf1 := Wy.x.frozen 1
            have r0 := Wy.t.cell 0 rfl
            have r1 := Wy.t.cell 1 rfl
            have rf0 := Wy.t.frozen 0
            have rf1 := Wy.t.frozen 1
            have Wn := Wy.now z hT hs (Nat.le_refl _)
            have q0 := Wn.t.cell 0 rfl
            have q1 := Wn.t.cell 1 rfl
            dsimp only
            repeat (first | go_values | go_skip | go_guarded | go_step | go_upon)
            refine bodyPost_ret (v := .agg #[.int .i64 z, .slice aoS l.length capS]) (by simp [results, Try.results34, go_sem, r0, r1]) rfl ?_
            exact Wn.fin hT hs (Nat.le_refl _) (by omega)
        · dsimp only
          repeat (first | go_values | go_skip | go_guarded | go_step | go_upon)
          obtain ⟨i0, hi0, hz0, hz1, hz2⟩ := info_parts info46
          have hx8 := Wy.x.lt
          have hlen := Wy.len
          go_region_law (first
              | (go_simp
                 go_at_call 64
                 refine (timer_ok _ b (K + 732) now (by first | exact Wy.cur | exact Wy.cur.kept ((But.refl _ _ _).drew)) (by omega)).mono ?_
                 rintro e w9 ⟨ta, tb, tc, td, rfl, hC, hg⟩
                 have Wy := Wy.draw (K' := K + 752) hT hs (hC.le (by omega)) (But.trans ((But.refl _ _ _).drew) hg)
                 clear hC hg c0 c1 cf0 cf1 r0 r1 rf0 rf1 hx8
                 have hx9 := Wy.x.lt
                 have c0 := Wy.x.cell 0 rfl
                 have c1 := Wy.x.cell 1 rfl
                 have cf1 := Wy.x.frozen 1)
              | (refine step_append_at rfl (.tmp 39) (.tmp 44) 23 rfl (w1.heap.size + 1) 46 i0 (.agg #[.int .i64 0, .int .i64 0, .int .i64 0, .int .i64 0]) 4 32 Try.underlying23 hi0 hz0 hz1 hz2 rfl (by decide) (.slice aoS l.length capS) l.length (l.flatMap timerC) (by simp [Act.eval]) (own_ks Wy.row ((But.refl _ _ _).alloc _)) ⟨w9.heap.size, 0, none⟩ 1 1 (timerC (ta, tb, tc, td)) (by simp [Act.eval]) rfl (news4 (Loc.new w9 (timerC (ta, tb, tc, td)) 46)) (one4 _) (by unfold maxLen; omega) (by omega) (by simp; omega) ?_
                 intro v3 w3 hown hgrow hob
                 obtain ⟨hT3, hLoc3, -⟩ := app_timer (TimerO.kept Wy.row ((But.refl _ _ w9).alloc (.cells (timerC (ta, tb, tc, td)).toArray 46))) rfl hown hgrow
                 obtain ⟨ao3, cap3, hf3⟩ := hT3.form
                 have hl3 : (l ++ [(ta, tb, tc, td)]).length = l.length + 1 := (by simp)
                 rw [hl3] at hf3
                 subst hf3
                 have Wz := Wy.app hT hs (Nat.le_refl _) hT3 hgrow
                 clear c0 c1 cf1
                 have c0 := Wz.1.cell 0 rfl
                 have c1 := Wz.1.cell 1 rfl
                 have cf1 := Wz.1.frozen 1))
          all_goals
            refine forgetX (fun Wx => Way b w.heap.size w1.heap.size (K + 752) (20 + 1) w Wx now (.slice ao3 (l.length + 1) cap3) (l ++ [(ta, tb, tc, td)])) Wz.2 ?_
            clear Wz Wy hT3 hLoc3 hgrow hown hob hi0 hz0 hz1 hz2 hlen c0 c1 cf1 hx9 hl3
            intro w10 Wy
            have Wy := Wy.le (K' := K + 760) (by omega)
            have c0 := Wy.x.cell 0 rfl
            have c1 := Wy.x.cell 1 rfl
            have cf0 := Wy.x.frozen 0
            have cf1 := Wy.x.frozen 1
            have r0 := Wy.t.cell 0 rfl
            have r1 := Wy.t.cell 1 rfl
            have rf0 := Wy.t.frozen 0
            have rf1 := Wy.t.frozen 1
            repeat (first | go_values | go_skip | go_guarded | go_step | go_upon)
            go_at_call 36
            refine (one_ok _ b (K + 760) 40 Wy.cur (by omega) (by omega)).mono ?_
            rintro e w9 ⟨y9, rfl, hC, hg⟩
            have Wy := (Wy.draw (K' := K + 762) hT hs (hC.le (by omega)) hg)
            clear hC hg c0 c1 cf0 cf1 r0 r1 rf0 rf1
            have c0 := Wy.x.cell 0 rfl
            have c1 := Wy.x.cell 1 rfl
            have cf0 := Wy.x.frozen 0
            have cf1 := Wy.x.frozen 1
            have r0 := Wy.t.cell 0 rfl
            have r1 := Wy.t.cell 1 rfl
            have rf0 := Wy.t.frozen 0
            have rf1 := Wy.t.frozen 1
            cases y9
            · dsimp only
              repeat (first | go_values | go_skip | go_guarded | go_step | go_upon)
              refine bodyPost_ret (v := .agg #[.int .i64 now, .slice ao3 (l.length + 1) cap3]) (by simp [results, Try.results34, go_sem, r0, r1]) rfl ?_
              exact Wy.fin hT hs (Nat.le_refl _) (by omega)
            · dsimp only
              repeat (first | go_values | go_skip | go_guarded | go_step | go_upon)
              go_at_call 37
              refine (among_ok _ b _ (K + 762) [-1, 100000, 100001] (by repeat (first | with_reducible exact Wy.cur | refine CurOk.alloc ?_ _)) (by omega) (by have := Wy.cur.lt; omega) (Listed.of (Loc.new _ _ _)) (by simp) (by simp) 3 rfl).mono ?_
              rintro e w12 ⟨z, rfl, -, hC, hg⟩
              have Wy := (Wy.kept ((But.refl _ _ _).alloc _)).draw (K' := K + 764) hT hs (hC.le (by omega)) hg
              clear hC hg c0 c1 cf0 cf1 r0 r1 rf0 rf1
              have c0 := Wy.x.cell 0 rfl
              have c1 := Wy.x.cell 1 rfl
              have cf0 := Wy.x.frozen 0
              have cf1 := Wy.x.frozen 1
              have r0 := Wy.t.cell 0 rfl
              have r1 := Wy.t.cell 1 rfl
              have rf0 := Wy.t.frozen 0
              have rf1 := Wy.t.frozen 1
              have Wn := Wy.now z hT hs (Nat.le_refl _)
              have q0 := Wn.t.cell 0 rfl
              have q1 := Wn.t.cell 1 rfl
              dsimp only
              repeat (first | go_values | go_skip | go_guarded | go_step | go_upon)
              refine bodyPost_ret (v := .agg #[.int .i64 z, .slice ao3 (l.length + 1) cap3]) (by simp [results, Try.results34, go_sem, r0, r1]) rfl ?_
              exact Wn.fin hT hs (Nat.le_refl _) (by omega)
  · dsimp only
    repeat (first | go_values | go_skip | go_guarded | go_step | go_upon)
    clear hx1
    go_loopw [4] (fun v wr => ∃ k : Nat, v = .int .i64 k ∧ k ≤ 30 ∧ ∃ now s l, Way b w.heap.size w1.heap.size (K + 10 + 24 * (30 - k)) 20 w wr now s l) (fun v _ => (intOf v).toNat)
    case atStart => exact ⟨30, by rfl, by omega, x1, _, _, Wy.le (by omega)⟩
    case round =>
      obtain ⟨k, rfl, hk, now, s, l, Wy⟩ := hrel
      rename World => wo
      have c0 := Wy.x.cell 0 rfl
      have c1 := Wy.x.cell 1 rfl
      have cf0 := Wy.x.frozen 0
      have cf1 := Wy.x.frozen 1
      have r0 := Wy.t.cell 0 rfl
      have r1 := Wy.t.cell 1 rfl
      have rf0 := Wy.t.frozen 0
      have rf1 := Wy.t.frozen 1
      by_cases hlt : 0 < k
      · have dk : decide ((0 : Int) < (k : Int)) = true := by simp; omega
        repeat (first | go_values | go_skip | go_guarded | go_step | go_upon)
        go_at_call 64
        have hst : ∀ g, s.ownBlock = some g → g < wo.heap.size := fun g hg => (own_lt Wy.row.1 hg).2
        refine (timer_ok _ b (K + 10 + 24 * (30 - k)) now Wy.cur (by omega)).mono ?_
        rintro e w4 ⟨ta, tb, tc, td, rfl, hC, hg⟩
        have Wy : Way b w.heap.size w1.heap.size (K + 10 + 24 * (30 - k) + 20) 20 w w4 now s l := Wy.draw hT hs hC hg
        have hst : ∀ g, s.ownBlock = some g → g < w4.heap.size := fun g hb => Nat.lt_of_lt_of_le (hst g hb) hg.size
        clear hC hg c0 c1 cf0 cf1 r0 r1 rf0 rf1
        have c0 := Wy.x.cell 0 rfl
        have c1 := Wy.x.cell 1 rfl
        have cf0 := Wy.x.frozen 0
        have cf1 := Wy.x.frozen 1
        have r0 := Wy.t.cell 0 rfl
        have r1 := Wy.t.cell 1 rfl
        have rf0 := Wy.t.frozen 0
        have rf1 := Wy.t.frozen 1
        dsimp only
        repeat (first | go_values | go_skip | go_guarded | go_step | go_upon)
        have hbt : w1.heap.size < w4.heap.size := Wy.x.lt
        have Lt := Loc.new w4 [.int .i64 ta, .int .i64 tb, .int .i64 tc, .int .i64 td] 46
        have Wy := Wy.kept ((But.refl _ _ w4).alloc (.cells #[.int .i64 ta, .int .i64 tb, .int .i64 tc, .int .i64 td] 46))
        go_at_call 36
        refine (one_ok _ b (K + 10 + 24 * (30 - k) + 20) 3 Wy.cur (by omega) (by omega)).mono ?_
        rintro e w5 ⟨y5, rfl, hC, hg⟩
        have Lt := Lt.but hg (by omega)
        have Wy : Way b w.heap.size w1.heap.size (K + 10 + 24 * (30 - k) + 22) 20 w w5 now s l := Wy.draw hT hs (hC.le (by omega)) hg
        clear hC hg c0 c1 cf0 cf1 r0 r1 rf0 rf1
        have c0 := Wy.x.cell 0 rfl
        have c1 := Wy.x.cell 1 rfl
        have cf0 := Wy.x.frozen 0
        have cf1 := Wy.x.frozen 1
        have r0 := Wy.t.cell 0 rfl
        have r1 := Wy.t.cell 1 rfl
        have rf0 := Wy.t.frozen 0
        have rf1 := Wy.t.frozen 1
        cases y5
        · dsimp only
          have t0 := Lt.cell 0 rfl
          have t1 := Lt.cell 1 rfl
          have t2 := Lt.cell 2 rfl
          have t3 := Lt.cell 3 rfl
          have tf0 := Lt.frozen 0
          repeat (first | go_values | go_skip | go_guarded | go_step | go_upon)
          go_at_call 20
          refine (specAdd (now, l) ta tb tc td _ _ ⟨s, rfl, Wy.row.at⟩).mono ?_
          rintro e w6 ⟨v6, rfl, o6, k6⟩
          have hsz := Wy.x.lt
          have Wy := Wy.kept k6
          have hx6 := Wy.x.lt
          clear c0 c1 cf0 cf1 r0 r1 rf0 rf1
          have c0 := Wy.x.cell 0 rfl
          have c1 := Wy.x.cell 1 rfl
          have cf0 := Wy.x.frozen 0
          have cf1 := Wy.x.frozen 1
          have r0 := Wy.t.cell 0 rfl
          have r1 := Wy.t.cell 1 rfl
          have rf0 := Wy.t.frozen 0
          have rf1 := Wy.t.frozen 1
          obtain ⟨ao6, cap6, hfm⟩ := o6.form
          subst hfm
          have hl6 := add_len (now, l) (ta, tb, tc, td)
          generalize hj : (addA (now, l) (ta, tb, tc, td)).2 = j at *
          generalize (addA (now, l) (ta, tb, tc, td)).1 = c6 at *
          clear hj
          have Wz := Wy.kept ((But.refl _ _ w6).alloc (.cells #[.int .i64 c6.1, .slice ao6 c6.2.length cap6] 25))
          cases j
          · dsimp only
            repeat (first | go_values | go_skip | go_guarded | go_step | go_upon)
            exact ⟨⟨k - 1, by go_num, by omega, now, s, l, Wz.le (K' := K + 10 + 24 * (30 - ((k - 1 : Nat) : Int))) (by omega)⟩, by simp [intOf]; omega⟩
          · dsimp only
            repeat (first | go_values | go_skip | go_guarded | go_step | go_upon)
            exact ⟨⟨k - 1, by go_num, by omega, _, _, _, ((Wy.put (now' := c6.1) hT hs (Nat.le_refl _) o6.row (by omega) (by omega)).kept ((But.refl _ _ _).alloc _)).le (K' := K + 10 + 24 * (30 - ((k - 1 : Nat) : Int))) (by omega)⟩, by simp [intOf]; omega⟩
        · dsimp only
          repeat (first | go_values | go_skip | go_guarded | go_step | go_upon)
          go_at_call 35
          refine (pick_ok _ b (K + 10 + 24 * (30 - k) + 22) 1000 Wy.cur (by omega) (by omega)).mono ?_
          rintro e w7 ⟨x7, rfl, hx7, hC, hg⟩
          have Lt := Lt.but hg (by omega)
          have Wy : Way b w.heap.size w1.heap.size (K + 10 + 24 * (30 - k) + 24) 20 w w7 now s l := Wy.draw hT hs (hC.le (by omega)) hg
          have W8 := Wy.other hT hs (Nat.le_refl _) hbt hst 0 (.int .i64 x7)
          have L8 := Lt.set 0 (.int .i64 x7)
          clear hC hg hx7 c0 c1 cf0 cf1 r0 r1 rf0 rf1
          have c0 := Wy.x.cell 0 rfl
          have c1 := Wy.x.cell 1 rfl
          have cf0 := Wy.x.frozen 0
          have cf1 := Wy.x.frozen 1
          have r0 := Wy.t.cell 0 rfl
          have r1 := Wy.t.cell 1 rfl
          have rf0 := Wy.t.frozen 0
          have rf1 := Wy.t.frozen 1
          have t0 := Lt.cell 0 rfl
          have t1 := Lt.cell 1 rfl
          have t2 := Lt.cell 2 rfl
          have t3 := Lt.cell 3 rfl
          have tf0 := Lt.frozen 0
          dsimp only
          repeat (first | go_values | go_skip | go_guarded | go_step | go_upon)
          have Wy := W8
          clear W8
          go_at_call 20
          refine (specAdd (now, l) x7 tb tc td _ _ ⟨s, rfl, Wy.row.at⟩).mono ?_
          rintro e w6 ⟨v6, rfl, o6, k6⟩
          have hsz := Wy.x.lt
          have Wy := Wy.kept k6
          have hx6 := Wy.x.lt
          clear c0 c1 cf0 cf1 r0 r1 rf0 rf1
          have c0 := Wy.x.cell 0 rfl
          have c1 := Wy.x.cell 1 rfl
          have cf0 := Wy.x.frozen 0
          have cf1 := Wy.x.frozen 1
          have r0 := Wy.t.cell 0 rfl
          have r1 := Wy.t.cell 1 rfl
          have rf0 := Wy.t.frozen 0
          have rf1 := Wy.t.frozen 1
          obtain ⟨ao6, cap6, hfm⟩ := o6.form
          subst hfm
          have hl6 := add_len (now, l) (x7, tb, tc, td)
          generalize hj : (addA (now, l) (x7, tb, tc, td)).2 = j at *
          generalize (addA (now, l) (x7, tb, tc, td)).1 = c6 at *
          clear hj
          have Wz := Wy.kept ((But.refl _ _ w6).alloc (.cells #[.int .i64 c6.1, .slice ao6 c6.2.length cap6] 25))
          cases j
          · dsimp only
            repeat (first | go_values | go_skip | go_guarded | go_step | go_upon)
            exact ⟨⟨k - 1, by go_num, by omega, now, s, l, Wz.le (K' := K + 10 + 24 * (30 - ((k - 1 : Nat) : Int))) (by omega)⟩, by simp [intOf]; omega⟩
          · dsimp only
            repeat (first | go_values | go_skip | go_guarded | go_step | go_upon)
            exact ⟨⟨k - 1, by go_num, by omega, _, _, _, ((Wy.put (now' := c6.1) hT hs (Nat.le_refl _) o6.row (by omega) (by omega)).kept ((But.refl _ _ _).alloc _)).le (K' := K + 10 + 24 * (30 - ((k - 1 : Nat) : Int))) (by omega)⟩, by simp [intOf]; omega⟩
      · have dk : decide ((0 : Int) < (k : Int)) = false := by simp; omega
        repeat (first | go_values | go_skip | go_guarded | go_step | go_upon)
        have Wy := Wy.le (K' := K + 730) (by omega)
        clear hk hlt dk
        obtain ⟨aoS, capS, hfm⟩ := Wy.row.form
        subst hfm
        go_at_call 36
        refine (one_ok _ b (K + 730) 30 Wy.cur (by omega) (by omega)).mono ?_
        rintro e w8 ⟨y8, rfl, hC, hg⟩
        have Wy := (Wy.draw (K' := K + 732) hT hs (hC.le (by omega)) hg)
        clear hC hg c0 c1 cf0 cf1 r0 r1 rf0 rf1
        have c0 := Wy.x.cell 0 rfl
        have c1 := Wy.x.cell 1 rfl
        have cf0 := Wy.x.frozen 0
        have cf1 := Wy.x.frozen 1
        have r0 := Wy.t.cell 0 rfl
        have r1 := Wy.t.cell 1 rfl
        have rf0 := Wy.t.frozen 0
        have rf1 := Wy.t.frozen 1
        cases y8
        · dsimp only
          repeat (first | go_values | go_skip | go_guarded | go_step | go_upon)
          have Wy := Wy.le (K' := K + 760) (by omega)
          go_at_call 36
          refine (one_ok _ b (K + 760) 40 Wy.cur (by omega) (by omega)).mono ?_
          rintro e w9 ⟨y9, rfl, hC, hg⟩
          have Wy := (Wy.draw (K' := K + 762) hT hs (hC.le (by omega)) hg)
          clear hC hg c0 c1 cf0 cf1 r0 r1 rf0 rf1
          have c0 := Wy.x.cell 0 rfl
          have c1 := Wy.x.cell 1 rfl
          have cf0 := Wy.x.frozen 0
          have cf1 := Wy.x.frozen 1
          have r0 := Wy.t.cell 0 rfl
          have r1 := Wy.t.cell 1 rfl
          have rf0 := Wy.t.frozen 0
          have rf1 := Wy.t.frozen 1
          cases y9
          · dsimp only
            repeat (first | go_values | go_skip | go_guarded | go_step | go_upon)
            refine bodyPost_ret (v := .agg #[.int .i64 now, .slice aoS l.length capS]) (by simp [results, Try.results34, go_sem, r0, r1]) rfl ?_
            exact Wy.fin hT hs (Nat.le_refl _) (by omega)
          · dsimp only
            repeat (first | go_values | go_skip | go_guarded | go_step | go_upon)
            go_at_call 37
            refine (among_ok _ b _ (K + 762) [-1, 100000, 100001] (by repeat (first | with_reducible exact Wy.cur | refine CurOk.alloc ?_ _)) (by omega) (by have := Wy.cur.lt; omega) (Listed.of (Loc.new _ _ _)) (by simp) (by simp) 3 rfl).mono ?_
            rintro e w12 ⟨z, rfl, -, hC, hg⟩
            have Wy := (Wy.kept ((But.refl _ _ _).alloc _)).draw (K' := K + 764) hT hs (hC.le (by omega)) hg
            clear hC hg c0 c1 cf0 cf1 r0 r1 rf0 rf1
            have c0 := Wy.x.cell 0 rfl
            have c1 := Wy.x.cell 1 rfl
            have cf0 := Wy.x.frozen 0
            have cf1 := Wy.x.frozen 1
            have r0 := Wy.t.cell 0 rfl
            have r1 := Wy.t.cell 1 rfl
            have rf0 := Wy.t.frozen 0
            have rf1 := Wy.t.frozen 1
            have Wn := Wy.now z hT hs (Nat.le_refl _)
            have q0 := Wn.t.cell 0 rfl
            have q1 := Wn.t.cell 1 rfl
            dsimp only
            repeat (first | go_values | go_skip | go_guarded | go_step | go_upon)
            refine bodyPost_ret (v := .agg #[.int .i64 z, .slice aoS l.length capS]) (by simp [results, Try.results34, go_sem, r0, r1]) rfl ?_
            exact Wn.fin hT hs (Nat.le_refl _) (by omega)
        · dsimp only
          repeat (first | go_values | go_skip | go_guarded | go_step | go_upon)
          obtain ⟨i0, hi0, hz0, hz1, hz2⟩ := info_parts info46
          have hx8 := Wy.x.lt
          have hlen := Wy.len
          go_region_law (first
              | (go_simp
                 go_at_call 64
                 refine (timer_ok _ b (K + 732) now (by first | exact Wy.cur | exact Wy.cur.kept ((But.refl _ _ _).drew)) (by omega)).mono ?_
                 rintro e w9 ⟨ta, tb, tc, td, rfl, hC, hg⟩
                 have Wy := Wy.draw (K' := K + 752) hT hs (hC.le (by omega)) (But.trans ((But.refl _ _ _).drew) hg)
                 clear hC hg c0 c1 cf0 cf1 r0 r1 rf0 rf1 hx8
                 have hx9 := Wy.x.lt
                 have c0 := Wy.x.cell 0 rfl
                 have c1 := Wy.x.cell 1 rfl
                 have cf1 := Wy.x.frozen 1)
              | (refine step_append_at rfl (.tmp 39) (.tmp 44) 23 rfl (w1.heap.size + 1) 46 i0 (.agg #[.int .i64 0, .int .i64 0, .int .i64 0, .int .i64 0]) 4 32 Try.underlying23 hi0 hz0 hz1 hz2 rfl (by decide) (.slice aoS l.length capS) l.length (l.flatMap timerC) (by simp [Act.eval]) (own_ks Wy.row ((But.refl _ _ _).alloc _)) ⟨w9.heap.size, 0, none⟩ 1 1 (timerC (ta, tb, tc, td)) (by simp [Act.eval]) rfl (news4 (Loc.new w9 (timerC (ta, tb, tc, td)) 46)) (one4 _) (by unfold maxLen; omega) (by omega) (by simp; omega) ?_
                 intro v3 w3 hown hgrow hob
                 obtain ⟨hT3, hLoc3, -⟩ := app_timer (TimerO.kept Wy.row ((But.refl _ _ w9).alloc (.cells (timerC (ta, tb, tc, td)).toArray 46))) rfl hown hgrow
                 obtain ⟨ao3, cap3, hf3⟩ := hT3.form
                 have hl3 : (l ++ [(ta, tb, tc, td)]).length = l.length + 1 := (by simp)
                 rw [hl3] at hf3
                 subst hf3
                 have Wz := Wy.app hT hs (Nat.le_refl _) hT3 hgrow
                 clear c0 c1 cf1
                 have c0 := Wz.1.cell 0 rfl
                 have c1 := Wz.1.cell 1 rfl
                 have cf1 := Wz.1.frozen 1))
          all_goals
            refine forgetX (fun Wx => Way b w.heap.size w1.heap.size (K + 752) (20 + 1) w Wx now (.slice ao3 (l.length + 1) cap3) (l ++ [(ta, tb, tc, td)])) Wz.2 ?_
            clear Wz Wy hT3 hLoc3 hgrow hown hob hi0 hz0 hz1 hz2 hlen c0 c1 cf1 hx9 hl3
            intro w10 Wy
            have Wy := Wy.le (K' := K + 760) (by omega)
            have c0 := Wy.x.cell 0 rfl
            have c1 := Wy.x.cell 1 rfl
            have cf0 := Wy.x.frozen 0
            have cf1 := Wy.x.frozen 1
            have r0 := Wy.t.cell 0 rfl
            have r1 := Wy.t.cell 1 rfl
            have rf0 := Wy.t.frozen 0
            have rf1 := Wy.t.frozen 1
            repeat (first | go_values | go_skip | go_guarded | go_step | go_upon)
            go_at_call 36
            refine (one_ok _ b (K + 760) 40 Wy.cur (by omega) (by omega)).mono ?_
            rintro e w9 ⟨y9, rfl, hC, hg⟩
            have Wy := (Wy.draw (K' := K + 762) hT hs (hC.le (by omega)) hg)
            clear hC hg c0 c1 cf0 cf1 r0 r1 rf0 rf1
            have c0 := Wy.x.cell 0 rfl
            have c1 := Wy.x.cell 1 rfl
            have cf0 := Wy.x.frozen 0
            have cf1 := Wy.x.frozen 1
            have r0 := Wy.t.cell 0 rfl
            have r1 := Wy.t.cell 1 rfl
            have rf0 := Wy.t.frozen 0
            have rf1 := Wy.t.frozen 1
            cases y9
            · dsimp only
              repeat (first | go_values | go_skip | go_guarded | go_step | go_upon)
              refine bodyPost_ret (v := .agg #[.int .i64 now, .slice ao3 (l.length + 1) cap3]) (by simp [results, Try.results34, go_sem, r0, r1]) rfl ?_
              exact Wy.fin hT hs (Nat.le_refl _) (by omega)
            · dsimp only
              repeat (first | go_values | go_skip | go_guarded | go_step | go_upon)
              go_at_call 37
              refine (among_ok _ b _ (K + 762) [-1, 100000, 100001] (by repeat (first | with_reducible exact Wy.cur | refine CurOk.alloc ?_ _)) (by omega) (by have := Wy.cur.lt; omega) (Listed.of (Loc.new _ _ _)) (by simp) (by simp) 3 rfl).mono ?_
              rintro e w12 ⟨z, rfl, -, hC, hg⟩
              have Wy := (Wy.kept ((But.refl _ _ _).alloc _)).draw (K' := K + 764) hT hs (hC.le (by omega)) hg
              clear hC hg c0 c1 cf0 cf1 r0 r1 rf0 rf1
              have c0 := Wy.x.cell 0 rfl
              have c1 := Wy.x.cell 1 rfl
              have cf0 := Wy.x.frozen 0
              have cf1 := Wy.x.frozen 1
              have r0 := Wy.t.cell 0 rfl
              have r1 := Wy.t.cell 1 rfl
              have rf0 := Wy.t.frozen 0
              have rf1 := Wy.t.frozen 1
              have Wn := Wy.now z hT hs (Nat.le_refl _)
              have q0 := Wn.t.cell 0 rfl
              have q1 := Wn.t.cell 1 rfl
              dsimp only
              repeat (first | go_values | go_skip | go_guarded | go_step | go_upon)
              refine bodyPost_ret (v := .agg #[.int .i64 z, .slice ao3 (l.length + 1) cap3]) (by simp [results, Try.results34, go_sem, r0, r1]) rfl ?_
              exact Wn.fin hT hs (Nat.le_refl _) (by omega)
end Go.Proofs.Ythihgjcnjgpegaa
