/-
  What the drawing of a scene answers: some scene in memory of its own, of at most 41 nodes with short names; the cursor's own block alone is written.
-/
import Derived.Test.YtcljppnakmeldaaDrawN
import Derived.Test.YtcljppnakmeldaaHang
import Derived.Deep.DeepCutAuto
namespace Go.Proofs.Ytcljppnakmeldaa
open Go.ChangeShapes Go.WideShapes Go.ChangeAt Go.RowKit

/-- Any pick. -/
theorem pick_any (w : World) (b : Nat) (K n : Int) (h : CurOk w b K) (hK : K ≤ 1152921504606846900) :
    Calls Try.prog 44 #[.pointer (some ⟨b, 0, none⟩), .int .i64 n] w (Drawn b (K + 2) (fun r => 0 ≤ r ∧ r ≤ max n 0) w) := by
  by_cases h1 : 1 < n
  · refine (pick_ok w b K n h hK h1).mono ?_
    rintro e w' ⟨x, he, hx, hC, hg⟩
    exact ⟨x, he, ⟨hx.1, by omega⟩, hC, hg⟩
  · have d1 : decide (n ≤ 1) = true := by simp; omega
    go_enter Try.func44, Try.ntmps44
    go_wp2
    go_ret
    exact ⟨0, rfl, ⟨Int.le_refl _, by omega⟩, h.le (by omega), But.refl _ _ _⟩
theorem forgetC {P : Program} {C : Go.Code} {Q : Exit → Act → World → Prop} {a : Act} {W : World} (F : World → Prop) (hF : F W) (h : ∀ W', F W' → Go.Code.wp P C Q a W') : Go.Code.wp P C Q a W := h W hF
theorem wp_cut5 {P : Program} {C : Go.Code} {Q : Exit → Act → World → Prop} {a : Act} {w : World} {A : Nat → Nat → ByteArray → ByteArray → Int → Act} (F : Nat → ByteArray → ByteArray → Int → World → Prop)
    (h : C.wp P (fun x a' w' => match x with | .normal => ∃ X lb z s r, a' = A X lb z s r ∧ F X z s r w' | _ => False) a w) (hq : ∀ X lb z s r w', F X z s r w' → Q .normal (A X lb z s r) w') : C.wp P Q a w :=
  Go.Code.wp_mono (fun e a' w' hx => by
    cases e with
    | normal => obtain ⟨X, lb, z, s, r, rfl, hF⟩ := hx; exact hq X lb z s r w' hF
    | _ => exact hx.elim) h
theorem four_size {z : ByteArray} (h : z ∈ ([⟨#[97]⟩, ⟨#[98]⟩, ⟨#[99]⟩, ⟨#[100]⟩] : List ByteArray)) : z.size ≤ 1 := by
  simp only [List.mem_cons, List.not_mem_nil, or_false] at h
  rcases h with rfl | rfl | rfl | rfl <;> decide
theorem newAt (w : World) (cs : List Value) (t : TypeId) (g : Nat) (hg : w.heap.size = g) : Loc (w.alloc (.cells cs.toArray t)) g cs := by
  subst hg
  exact Loc.new w cs t
theorem Loc.some1 {w : World} {X : Nat} {cs : List Value} {y : Value} (h : Loc w X cs) (hj : cs[1]? = some y) (u0 : Value) : ((w.setCell ⟨X, 0, none⟩ u0).cell? ⟨X, 1, none⟩).isSome = true := (some_setD (by rw [h.cell 1 hj]; rfl))
theorem Loc.some2 {w : World} {X : Nat} {cs : List Value} {y : Value} (h : Loc w X cs) (hj : cs[2]? = some y) (u0 u1 : Value) : (((w.setCell ⟨X, 0, none⟩ u0).setCell ⟨X, 1, none⟩ u1).cell? ⟨X, 2, none⟩).isSome = true := (some_setD (some_setD (by rw [h.cell 2 hj]; rfl)))
theorem Loc.some3 {w : World} {X : Nat} {cs : List Value} {y : Value} (h : Loc w X cs) (hj : cs[3]? = some y) (u0 u1 u2 : Value) : ((((w.setCell ⟨X, 0, none⟩ u0).setCell ⟨X, 1, none⟩ u1).setCell ⟨X, 2, none⟩ u2).cell? ⟨X, 3, none⟩).isSome = true := (some_setD (some_setD (some_setD (by rw [h.cell 3 hj]; rfl))))
theorem Loc.some4 {w : World} {X : Nat} {cs : List Value} {y : Value} (h : Loc w X cs) (hj : cs[4]? = some y) (u0 u1 u2 u3 : Value) : (((((w.setCell ⟨X, 0, none⟩ u0).setCell ⟨X, 1, none⟩ u1).setCell ⟨X, 2, none⟩ u2).setCell ⟨X, 3, none⟩ u3).cell? ⟨X, 4, none⟩).isSome = true := (some_setD (some_setD (some_setD (some_setD (by rw [h.cell 4 hj]; rfl)))))
theorem Loc.some5 {w : World} {X : Nat} {cs : List Value} {y : Value} (h : Loc w X cs) (hj : cs[5]? = some y) (u0 u1 u2 u3 u4 : Value) : ((((((w.setCell ⟨X, 0, none⟩ u0).setCell ⟨X, 1, none⟩ u1).setCell ⟨X, 2, none⟩ u2).setCell ⟨X, 3, none⟩ u3).setCell ⟨X, 4, none⟩ u4).cell? ⟨X, 5, none⟩).isSome = true := (some_setD (some_setD (some_setD (some_setD (some_setD (by rw [h.cell 5 hj]; rfl))))))
theorem but_sets1 {X : Nat} {w W : World} (h : But X (X + 1) w W) (j : Nat) (v : Value) : But X (X + 1) w (W.setCell ⟨X, j, none⟩ v) := h.setCell (p := ⟨X, j, none⟩) (Nat.le_refl X) (Nat.lt_succ_self X) v
theorem but_sets6 (w : World) (X : Nat) (v0 v1 v2 v3 v4 v5 : Value) : But X (X + 1) w ((((((w.setCell ⟨X, 0, none⟩ v0).setCell ⟨X, 1, none⟩ v1).setCell ⟨X, 2, none⟩ v2).setCell ⟨X, 3, none⟩ v3).setCell ⟨X, 4, none⟩ v4).setCell ⟨X, 5, none⟩ v5) :=
  but_sets1 (but_sets1 (but_sets1 (but_sets1 (but_sets1 (but_sets1 (But.refl _ _ w) 0 v0) 1 v1) 2 v2) 3 v3) 4 v4) 5 v5
theorem but_sets4 (w : World) (X : Nat) (v0 v1 v2 v3 : Value) : But X (X + 1) w ((((w.setCell ⟨X, 0, none⟩ v0).setCell ⟨X, 1, none⟩ v1).setCell ⟨X, 2, none⟩ v2).setCell ⟨X, 3, none⟩ v3) :=
  but_sets1 (but_sets1 (but_sets1 (but_sets1 (But.refl _ _ w) 0 v0) 1 v1) 2 v2) 3 v3
/-- The drawing of a scene on its way. -/
structure SWay (b : Nat) (K : Int) (w W : World) (v : Value) (l : List NodeD) : Prop where
  cur : CurOk W b K
  row : NodeO W w.heap.size W.heap.size v l
  but : But b (b + 1) w W
  nam : ∀ p ∈ l, p.1.size ≤ 4
theorem SWay.le {b : Nat} {K K' : Int} {w W : World} {v : Value} {l : List NodeD} (h : SWay b K w W v l) (hk : K ≤ K') : SWay b K' w W v l := ⟨h.cur.le hk, h.row, h.but, h.nam⟩
theorem SWay.draw {b : Nat} {K K' : Int} {w W W' : World} {v : Value} {l : List NodeD} (h : SWay b K w W v l) (hb : b < w.heap.size) (hC : CurOk W' b K') (k : But b (b + 1) W W') : SWay b K' w W' v l :=
  ⟨hC, (h.row.but k (by omega)).low, h.but.trans k, h.nam⟩
theorem SWay.kept {b : Nat} {K : Int} {w W W' : World} {v : Value} {l : List NodeD} (h : SWay b K w W v l) (k : Kept W W') : SWay b K w W' v l :=
  ⟨h.cur.kept k, (h.row.kept k).low, h.but.transK k, h.nam⟩
/-- A variable of the round is written. -/
theorem SWay.var {b S : Nat} {K : Int} {w W W' : World} {v : Value} {l : List NodeD} (h : SWay b K w W v l) (hb : b < w.heap.size) (hS : w.heap.size ≤ S) (hst : ∀ g, v.ownBlock = some g → g < S) (k : But S (S + 1) W W') : SWay b K w W' v l :=
  ⟨h.cur.but k (by omega), (RowO.but (⟨h.row.1, hst⟩ : RowO W w.heap.size S 36 6 v _ _) k (.inl (Nat.le_refl _))).low, ⟨k.os.trans h.but.os, k.out.trans h.but.out, Nat.le_trans h.but.size k.size, fun i hi hn => (k.block i (by have := h.but.size; omega) (by omega)).trans (h.but.block i hi hn)⟩, h.nam⟩
/-- A scene is answered, in memory of its own. -/
def DrawnL (b : Nat) (K : Int) (w : World) (e : Ending) (w' : World) : Prop := ∃ v l, e = .returned v ∧ SWay b K w w' v l ∧ l.length ≤ 41
theorem alloc_newS (X : World) (o : Obj) (n : Nat) (h : n = X.heap.size) : (X.alloc o).heap[n]? = some o := by subst h; exact World.alloc_heap_new X o
theorem three_size {z : ByteArray} (h : z ∈ ([⟨#[]⟩, ⟨#[97, 48]⟩, ⟨#[98, 49]⟩] : List ByteArray)) : z.size ≤ 2 := by
  simp only [List.mem_cons, List.not_mem_nil, or_false] at h
  rcases h with rfl | rfl | rfl <;> decide
theorem SWay.app {b : Nat} {K : Int} {w W W' : World} {v v' : Value} {l : List NodeD} {p : NodeD} (h : SWay b K w W v l) (hb : b < w.heap.size) (hown : W'.ownsRow w.heap.size 36 6 v' (l.length + 1) (l.flatMap nodeC ++ nodeC p)) (hg : W.grownBy W' v.ownBlock) (hp : p.1.size ≤ 4) : SWay b K w W' v' (l ++ [p]) := by
  have k := but_of_grown hg
  have hlo : ∀ i, i < w.heap.size → i < blo v ∨ bhi v ≤ i := fun i hi => by
    cases ho : v.ownBlock with
    | none => simp [blo, bhi, ho]
    | some g =>
      have := (own_lt h.row.1 ho).1
      simp [blo, bhi, ho]
      omega
  have hcur : CurOk W' b K := by
    cases ho : v.ownBlock with
    | none =>
      have e1 : blo v = 0 := by simp [blo, ho]
      have e2 : bhi v = 0 := by simp [bhi, ho]
      rw [e1, e2] at k
      exact h.cur.kept k
    | some g =>
      have := (own_lt h.row.1 ho).1
      exact h.cur.but k (by simp [blo, ho]; omega)
  refine ⟨hcur, ?_, ⟨k.os.trans h.but.os, k.out.trans h.but.out, Nat.le_trans h.but.size k.size, fun i hi hn => (k.block i (by have := h.but.size; omega) (hlo i hi)).trans (h.but.block i hi hn)⟩, fun q hq => ?_⟩
  · have : W'.ownsRow w.heap.size 36 6 v' (l ++ [p]).length ((l ++ [p]).flatMap nodeC) := by simpa using hown
    exact RowO.top this
  · rcases List.mem_append.1 hq with hq | hq
    · exact h.nam q hq
    · rw [List.mem_singleton.1 hq]; exact hp

set_option maxRecDepth 100000 in
set_option maxHeartbeats 8000000 in
theorem scene_ok (w : World) (b : Nat) (K : Int) (h : CurOk w b K) (hK : K ≤ 1152921504606830000) :
    Calls Try.prog 68 #[.pointer (some ⟨b, 0, none⟩)] w (DrawnL b (K + 10000) w) := by
  have hT : b < w.heap.size := h.lt
  have hK0 := h.k0
  have Wy : SWay b K w w (.slice none 0 0) [] := ⟨h, ⟨World.ownsRow_nil _ _ _ _, fun g hg => by simp [Value.ownBlock] at hg⟩, But.refl _ _ _, by simp⟩
  go_enter Try.func68, Try.ntmps68
  repeat (first | go_values | go_skip | go_guarded | go_step | go_upon)
  go_at_call 44
  refine (pick_ok _ b K 7 Wy.cur (by omega) (by omega)).mono ?_
  rintro e w1 ⟨x1, rfl, hx1, hC, hg⟩
  have Wy : SWay b (K + 2) w w1 (.slice none 0 0) [] := Wy.draw hT (hC.le (by omega)) hg
  clear hC hg
  dsimp only
  repeat (go_not_at_region 3; first | go_values | go_skip | go_guarded | go_step | go_upon)
  go_cut [12] (fun t wx => ∃ y, t = .bool y ∧ SWay b (K + 4) w wx (.slice none 0 0) [])
  case first =>
    repeat (first | go_values | go_skip | go_guarded | go_step | go_upon)
    go_at_call 64
    refine (one_ok _ b (K + 2) 16 Wy.cur (by omega) (by omega)).mono ?_
    rintro e w2 ⟨y2, rfl, hC, hg⟩
    have Wy : SWay b (K + 4) w w2 (.slice none 0 0) [] := Wy.draw hT (hC.le (by omega)) hg
    clear hC hg
    dsimp only
    repeat (first | go_values | go_skip | go_guarded | go_step | go_upon)
    go_meet
    case rel => exact ⟨y2, rfl, Wy⟩
  case rest =>
    clear Wy
    obtain ⟨y2, rfl, Wy⟩ := hcut
    first | go_step | skip
    go_cut [4] (fun t wx => ∃ N : Int, t = .int .i64 N ∧ 1 ≤ N ∧ N ≤ 41 ∧ SWay b (K + 6) w wx (.slice none 0 0) [])
    case first =>
      cases y2
      · repeat (first | go_values | go_skip | go_guarded | go_step | go_upon)
        go_meet
        case rel => exact ⟨1 + x1, rfl, by omega, by omega, Wy.le (by omega)⟩
      · repeat (first | go_values | go_skip | go_guarded | go_step | go_upon)
        go_at_call 44
        refine (pick_ok _ b (K + 4) 3 Wy.cur (by omega) (by omega)).mono ?_
        rintro e w3 ⟨x3, rfl, hx3, hC, hg⟩
        have Wy : SWay b (K + 6) w w3 (.slice none 0 0) [] := Wy.draw hT (hC.le (by omega)) hg
        clear hC hg
        dsimp only
        repeat (first | go_values | go_skip | go_guarded | go_step | go_upon)
        go_meet
        case rel => exact ⟨39 + x3, rfl, by omega, by omega, Wy⟩
    case rest =>
      clear Wy
      obtain ⟨N, rfl, hN1, hN2, Wy⟩ := hcut
      repeat (first | go_values | go_skip | go_guarded | go_step | go_upon)
      go_loopw [3, 5] (fun v i wr => ∃ (k : Nat) (ao : Option Addr) (cap : Nat) (l : List NodeD), v = .slice ao l.length cap ∧ i = .int .i64 k ∧ (k : Int) ≤ N ∧ l.length = k ∧ SWay b (K + 10 + 60 * k) w wr (.slice ao l.length cap) l) (fun _ i _ => 41 - (intOf i).toNat)
      case atStart => exact ⟨0, none, 0, [], rfl, rfl, by omega, rfl, Wy.le (by omega)⟩
      case round =>
        obtain ⟨k, ao, cap, l, rfl, rfl, hk, hlk, Wy⟩ := hrel
        by_cases hlt : (k : Int) < N
        · have dk : decide ((k : Int) < N) = true := by simp; omega
          have hk41 : k ≤ 41 := by omega
          have HLK : Hid (l.length = k) := hlk
          clear hlk
          repeat (first | go_values | go_skip | go_guarded | go_step | go_upon)
          go_at_call 37
          refine (spot_ok _ b (K + 10 + 60 * k) Wy.cur (by omega)).mono ?_
          rintro e w4 ⟨⟨tx, ty, tt, tf⟩, rfl, hC, hg⟩
          have Wy : SWay b (K + 30 + 60 * k) w w4 (.slice ao l.length cap) l := Wy.draw hT (hC.le (by omega)) hg
          clear hC hg
          dsimp only [sv]
          repeat (go_not_at_region 9; first | go_values | go_skip | go_guarded | go_step | go_upon)
          have hs4 : w.heap.size ≤ w4.heap.size := Wy.but.size
          have hst : ∀ g, (Value.slice ao l.length cap).ownBlock = some g → g < w4.heap.size := fun g hg => (own_lt Wy.row.1 hg).2
          have LS := Loc.new w4 [.int .i64 tx, .int .i64 ty, .int .i64 tt, .bool tf] 24
          have Wy := Wy.kept ((But.refl _ _ w4).alloc (.cells #[.int .i64 tx, .int .i64 ty, .int .i64 tt, .bool tf] 24))
          obtain ⟨S4, hS4⟩ : ∃ S, S = w4.heap.size := ⟨_, rfl⟩
          rw [← hS4] at hs4 hst LS
          rw [← hS4]
          have HS4 : Hid (S4 = w4.heap.size) := hS4
          clear hS4
          go_cut [30] (fun t wx => ∃ y, t = .bool y ∧ SWay b (K + 32 + 60 * k) w wx (.slice ao l.length cap) l ∧ Loc wx S4 [.int .i64 tx, .int .i64 ty, .int .i64 tt, .bool tf])
          case first =>
            have p0 := LS.cell 0 rfl
            have p1 := LS.cell 1 rfl
            have p2 := LS.cell 2 rfl
            have p3 := LS.cell 3 rfl
            have pf0 := LS.frozen 0
            have pf1 := LS.frozen 1
            have pf2 := LS.frozen 2
            have pf3 := LS.frozen 3
            repeat (first | go_values | go_skip | go_guarded | go_step | go_upon)
            go_at_call 41
            refine (l4Good (tx, ty, tt, tf) _).mono ?_
            rintro e w5 ⟨rfl, hw5⟩
            have k5 : Kept (w4.alloc (.cells #[.int .i64 tx, .int .i64 ty, .int .i64 tt, .bool tf] 24)) w5 := by rw [hw5]; exact (But.refl 0 0 _).alloc _
            clear hw5
            have Wy := Wy.kept k5
            have LS := LS.kept k5
            clear k5
            generalize goodS (tx, ty, tt, tf) = gs
            cases gs
            · dsimp only
              repeat (first | go_values | go_skip | go_guarded | go_step | go_upon)
              go_at_call 64
              refine (one_ok _ b (K + 30 + 60 * k) 4 Wy.cur (by omega) (by omega)).mono ?_
              rintro e w6 ⟨y6, rfl, hC, hg⟩
              have LS := LS.but hg (by omega)
              have Wy : SWay b (K + 32 + 60 * k) w w6 (.slice ao l.length cap) l := Wy.draw hT (hC.le (by omega)) hg
              clear hC hg
              dsimp only
              repeat (first | go_values | go_skip | go_guarded | go_step | go_upon)
              go_meet
              case rel => exact ⟨!y6, rfl, Wy, LS⟩
            · dsimp only
              repeat (first | go_values | go_skip | go_guarded | go_step | go_upon)
              go_meet
              case rel => exact ⟨false, rfl, Wy.le (by omega), LS⟩
          case rest =>
            clear Wy LS
            obtain ⟨y9, rfl, Wy, LS⟩ := hcut
            first | go_step | skip
            go_cut [] (fun wx => ∃ sx sy st sf, SWay b (K + 32 + 60 * k) w wx (.slice ao l.length cap) l ∧ Loc wx S4 [.int .i64 sx, .int .i64 sy, .int .i64 st, .bool sf])
            case first =>
              have p0 := LS.cell 0 rfl
              have p1 := LS.cell 1 rfl
              have p2 := LS.cell 2 rfl
              have p3 := LS.cell 3 rfl
              have pf0 := LS.frozen 0
              have pf1 := LS.frozen 1
              have pf2 := LS.frozen 2
              have pf3 := LS.frozen 3
              cases y9
              · repeat (first | go_values | go_skip | go_guarded | go_step | go_upon)
                go_meet
                case rel => exact ⟨_, _, _, _, Wy, LS⟩
              · repeat (first | go_values | go_skip | go_guarded | go_step | go_upon)
                have k7 : But S4 (S4 + 1) wc ((((wc.setCell ⟨S4, 0, none⟩ (.int .i64 1)).setCell ⟨S4, 1, none⟩ (.int .i64 0)).setCell ⟨S4, 2, none⟩ (.int .i64 0)).setCell ⟨S4, 3, none⟩ (.bool false)) := but_sets4 _ _ _ _ _ _
                have WF := Wy.var hT hs4 hst k7
                have LF := (((LS.set 0 (.int .i64 1)).set 1 (.int .i64 0)).set 2 (.int .i64 0)).set 3 (.bool false)
                go_meet
                case rel => exact ⟨_, _, _, _, WF, LF⟩
            case rest =>
              clear Wy LS
              obtain ⟨sx, sy, st, sf, Wy, LS⟩ := hcut
              repeat (first | go_values | go_skip | go_guarded | go_step | go_upon)
              have hb7 := Wy.cur.lt
              have hl7 := LS.lt
              have p0 := LS.cell 0 rfl
              have p1 := LS.cell 1 rfl
              have p2 := LS.cell 2 rfl
              have p3 := LS.cell 3 rfl
              have pf0 := LS.frozen 0
              have pf1 := LS.frozen 1
              have pf2 := LS.frozen 2
              have pf3 := LS.frozen 3
              go_cut [7] (fun xv wx => ∃ (X : Nat) (nm : ByteArray) (up : Int), xv = .pointer (some ⟨X, 0, none⟩) ∧ SWay b (K + 60 + 60 * k) w wx (.slice ao l.length cap) l ∧ Loc wx X (nodeC (nm, up, sx, sy, st, sf)) ∧ S4 < X ∧ nm.size ≤ 4)
              case first =>
                go_region_held3 (fun W' => W'.cell? ⟨S4, 0, none⟩ = some (.int .i64 sx) ∧ W'.cell? ⟨S4, 1, none⟩ = some (.int .i64 sy) ∧ W'.cell? ⟨S4, 2, none⟩ = some (.int .i64 st) ∧ W'.cell? ⟨S4, 3, none⟩ = some (.bool sf)) (simp [go_sem, *])
                  (first
                    | (go_at_call 77
                       refine (of_ok _ b _ (K + 32 + 60 * k) [⟨#[97]⟩, ⟨#[98]⟩, ⟨#[99]⟩, ⟨#[100]⟩] (SWay.kept Wy (by repeat (first | with_reducible exact But.refl _ _ _ | with_reducible apply But.drewN | with_reducible apply But.drew | with_reducible apply But.alloc))).cur (by omega) (by omega) (by first | exact ListedT.of (Loc.new _ _ _) | exact ListedT.of ((Loc.new _ _ _).alloc _) | exact ListedT.of (newAt _ _ _ _ (by simp))) (by simp) (by simp) 4 rfl).mono ?_
                       rintro e w8 ⟨z, rfl, hz, hC, hg⟩
                       have hz := four_size hz
                       have LS := Loc.but (LS.kept (by repeat (first | with_reducible exact But.refl _ _ _ | with_reducible apply But.drewN | with_reducible apply But.drew | with_reducible apply But.alloc))) hg (by omega)
                       have Wy : SWay b (K + 34 + 60 * k) w w8 (.slice ao l.length cap) l := SWay.draw (SWay.kept Wy (by repeat (first | with_reducible exact But.refl _ _ _ | with_reducible apply But.drewN | with_reducible apply But.drew | with_reducible apply But.alloc))) hT (hC.le (by omega)) hg
                       have hg7 := But.trans ((But.refl b (b + 1) _).drew) hg
                       first
                       | have LX : Loc w8 wc.heap.size [.string ByteArray.empty, .int .i64 0, .int .i64 0, .int .i64 0, .int .i64 0, .bool false] := Loc.but ((Loc.new wc _ 36).alloc _) hg7 (by omega)
                       | have LX : Loc w8 (wc.heap.size + 1) [.string ByteArray.empty, .int .i64 0, .int .i64 0, .int .i64 0, .int .i64 0, .bool false] := Loc.but (newAt (wc.alloc _) _ 36 _ (by simp)) hg7 (by omega)
                       | skip
                       clear hC hg hg7
                       have hl8 := LS.lt
                       have p0 := LS.cell 0 rfl
                       have p1 := LS.cell 1 rfl
                       have p2 := LS.cell 2 rfl
                       have p3 := LS.cell 3 rfl)
                    | (go_at_call 78
                       refine (num_ok (k : Int) _ (by omega) (by omega)).mono ?_
                       rintro e w9 ⟨s2, rfl, hs2, k9⟩
                       have hza : ¬ 9223372036854775807 < z.size + s2.size := (by omega)
                       first
                       | have LX := LX.kept k9
                       | have LX : Loc w9 w8.heap.size [.string ByteArray.empty, .int .i64 0, .int .i64 0, .int .i64 0, .int .i64 0, .bool false] := (Loc.new w8 _ 36).kept k9
                       | skip
                       have k9 : Kept w8 w9 := But.trans (by repeat (first | with_reducible exact But.refl _ _ _ | with_reducible apply But.drewN | with_reducible apply But.drew | with_reducible apply But.alloc)) k9
                       have LS := LS.kept k9
                       have Wy := Wy.kept k9
                       clear k9
                       have hl9 := LS.lt
                       have p0 := LS.cell 0 rfl
                       have p1 := LS.cell 1 rfl
                       have p2 := LS.cell 2 rfl
                       have p3 := LS.cell 3 rfl)
                    | (go_at_call 44
                       refine (pick_any _ b (K + 34 + 60 * k) _ (SWay.kept Wy (by repeat (first | with_reducible exact But.refl _ _ _ | with_reducible apply But.drewN | with_reducible apply But.drew | with_reducible apply But.alloc))).cur (by omega)).mono ?_
                       rintro e w10 ⟨r, rfl, hr, hC, hg⟩
                       have LS := Loc.but (LS.kept (by repeat (first | with_reducible exact But.refl _ _ _ | with_reducible apply But.drewN | with_reducible apply But.drew | with_reducible apply But.alloc))) hg (by omega)
                       have Wy : SWay b (K + 36 + 60 * k) w w10 (.slice ao l.length cap) l := SWay.draw (SWay.kept Wy (by repeat (first | with_reducible exact But.refl _ _ _ | with_reducible apply But.drewN | with_reducible apply But.drew | with_reducible apply But.alloc))) hT (hC.le (by omega)) hg
                       first
                       | have LX := LX.but hg (by omega)
                       | have LX : Loc w10 w9.heap.size [.string ByteArray.empty, .int .i64 0, .int .i64 0, .int .i64 0, .int .i64 0, .bool false] := Loc.but (Loc.new w9 _ 36) hg (by omega)
                       | skip
                       clear hC hg
                       have hl10 := LS.lt
                       have p0 := LS.cell 0 rfl
                       have p1 := LS.cell 1 rfl
                       have p2 := LS.cell 2 rfl
                       have p3 := LS.cell 3 rfl
                       have LN := Loc.new w10 [.string ByteArray.empty, .int .i64 0, .int .i64 0, .int .i64 0, .int .i64 0, .bool false] 36
                       have ns1 := LN.some1 (y := .int .i64 0) rfl
                       have ns2 := LN.some2 (y := .int .i64 0) rfl
                       have ns3 := LN.some3 (y := .int .i64 0) rfl
                       have ns4 := LN.some4 (y := .int .i64 0) rfl
                       have ns5 := LN.some5 (y := .bool false) rfl
                       try have xx0 := LX.cell 0 rfl
                       try have xx1 := LX.cell 1 rfl
                       try have xx2 := LX.cell 2 rfl
                       try have xx3 := LX.cell 3 rfl
                       try have xx4 := LX.cell 4 rfl
                       try have xx5 := LX.cell 5 rfl
                       try have xxf0 := LX.frozen 0
                       try have xxf1 := LX.frozen 1
                       try have xxf2 := LX.frozen 2
                       try have xxf3 := LX.frozen 3
                       try have xxf4 := LX.frozen 4
                       try have xxf5 := LX.frozen 5
                       try have xs1 := LX.some1 (y := .int .i64 0) rfl
                       try have xs2 := LX.some2 (y := .int .i64 0) rfl
                       try have xs3 := LX.some3 (y := .int .i64 0) rfl
                       try have xs4 := LX.some4 (y := .int .i64 0) rfl
                       try have xs5 := LX.some5 (y := .bool false) rfl))
                · obtain ⟨X, hX⟩ : ∃ X, X = w10.heap.size := ⟨_, rfl⟩
                  have W11 := (Wy.kept ((But.refl 0 0 w10).alloc (.cells (nodeC (z ++ s2, IntKind.i64.wrap (r - 1), sx, sy, st, sf)).toArray 36))).le (K' := K + 60 + 60 * k) (by omega)
                  have L11 := newAt w10 (nodeC (z ++ s2, IntKind.i64.wrap (r - 1), sx, sy, st, sf)) 36 X hX.symm
                  rw [← hX]
                  have hXS : S4 < X := by omega
                  clear hX
                  repeat (first | go_values | go_skip | go_guarded | go_step | go_upon)
                  go_meet
                  case rel => exact ⟨X, z ++ s2, _, rfl, W11, L11, hXS, by rw [ByteArray.size_append]; omega⟩
                · obtain ⟨X, hX⟩ : ∃ X, X = w9.heap.size := ⟨_, rfl⟩
                  rw [← hX] at LX
                  have k11 : But X (X + 1) w10 ((((((w10.setCell ⟨X, 0, none⟩ (.string (z ++ s2))).setCell ⟨X, 1, none⟩ (.int .i64 (IntKind.i64.wrap (r - 1)))).setCell ⟨X, 2, none⟩ (.int .i64 sx)).setCell ⟨X, 3, none⟩ (.int .i64 sy)).setCell ⟨X, 4, none⟩ (.int .i64 st)).setCell ⟨X, 5, none⟩ (.bool sf)) := but_sets6 _ _ _ _ _ _ _ _
                  have W11 := (Wy.var hT (by omega) (fun g hg => Nat.lt_trans (hst g hg) (by omega)) k11).le (K' := K + 60 + 60 * k) (by omega)
                  have L11 := (((((LX.set 0 (.string (z ++ s2))).set 1 (.int .i64 (IntKind.i64.wrap (r - 1)))).set 2 (.int .i64 sx)).set 3 (.int .i64 sy)).set 4 (.int .i64 st)).set 5 (.bool sf)
                  rw [← hX]
                  have hXS : S4 < X := by omega
                  clear hX
                  repeat (first | go_values | go_skip | go_guarded | go_step | go_upon)
                  go_meet
                  case rel => exact ⟨X, z ++ s2, _, rfl, W11, L11, hXS, by rw [ByteArray.size_append]; omega⟩
                · obtain ⟨X, hX⟩ : ∃ X, X = w8.heap.size := ⟨_, rfl⟩
                  rw [← hX] at LX
                  have k11 : But X (X + 1) w10 ((((((w10.setCell ⟨X, 0, none⟩ (.string (z ++ s2))).setCell ⟨X, 1, none⟩ (.int .i64 (IntKind.i64.wrap (r - 1)))).setCell ⟨X, 2, none⟩ (.int .i64 sx)).setCell ⟨X, 3, none⟩ (.int .i64 sy)).setCell ⟨X, 4, none⟩ (.int .i64 st)).setCell ⟨X, 5, none⟩ (.bool sf)) := but_sets6 _ _ _ _ _ _ _ _
                  have W11 := (Wy.var hT (by omega) (fun g hg => Nat.lt_trans (hst g hg) (by omega)) k11).le (K' := K + 60 + 60 * k) (by omega)
                  have L11 := (((((LX.set 0 (.string (z ++ s2))).set 1 (.int .i64 (IntKind.i64.wrap (r - 1)))).set 2 (.int .i64 sx)).set 3 (.int .i64 sy)).set 4 (.int .i64 st)).set 5 (.bool sf)
                  rw [← hX]
                  have hXS : S4 < X := by omega
                  clear hX
                  repeat (first | go_values | go_skip | go_guarded | go_step | go_upon)
                  go_meet
                  case rel => exact ⟨X, z ++ s2, _, rfl, W11, L11, hXS, by rw [ByteArray.size_append]; omega⟩
                · obtain ⟨X, hX⟩ : ∃ X, X = wc.heap.size + 1 := ⟨_, rfl⟩
                  rw [← hX] at LX
                  have k11 : But X (X + 1) w10 ((((((w10.setCell ⟨X, 0, none⟩ (.string (z ++ s2))).setCell ⟨X, 1, none⟩ (.int .i64 (IntKind.i64.wrap (r - 1)))).setCell ⟨X, 2, none⟩ (.int .i64 sx)).setCell ⟨X, 3, none⟩ (.int .i64 sy)).setCell ⟨X, 4, none⟩ (.int .i64 st)).setCell ⟨X, 5, none⟩ (.bool sf)) := but_sets6 _ _ _ _ _ _ _ _
                  have W11 := (Wy.var hT (by omega) (fun g hg => Nat.lt_trans (hst g hg) (by omega)) k11).le (K' := K + 60 + 60 * k) (by omega)
                  have L11 := (((((LX.set 0 (.string (z ++ s2))).set 1 (.int .i64 (IntKind.i64.wrap (r - 1)))).set 2 (.int .i64 sx)).set 3 (.int .i64 sy)).set 4 (.int .i64 st)).set 5 (.bool sf)
                  rw [← hX]
                  have hXS : S4 < X := by omega
                  clear hX
                  repeat (first | go_values | go_skip | go_guarded | go_step | go_upon)
                  go_meet
                  case rel => exact ⟨X, z ++ s2, _, rfl, W11, L11, hXS, by rw [ByteArray.size_append]; omega⟩
                · obtain ⟨X, hX⟩ : ∃ X, X = wc.heap.size := ⟨_, rfl⟩
                  rw [← hX] at LX
                  have k11 : But X (X + 1) w10 ((((((w10.setCell ⟨X, 0, none⟩ (.string (z ++ s2))).setCell ⟨X, 1, none⟩ (.int .i64 (IntKind.i64.wrap (r - 1)))).setCell ⟨X, 2, none⟩ (.int .i64 sx)).setCell ⟨X, 3, none⟩ (.int .i64 sy)).setCell ⟨X, 4, none⟩ (.int .i64 st)).setCell ⟨X, 5, none⟩ (.bool sf)) := but_sets6 _ _ _ _ _ _ _ _
                  have W11 := (Wy.var hT (by omega) (fun g hg => Nat.lt_trans (hst g hg) (by omega)) k11).le (K' := K + 60 + 60 * k) (by omega)
                  have L11 := (((((LX.set 0 (.string (z ++ s2))).set 1 (.int .i64 (IntKind.i64.wrap (r - 1)))).set 2 (.int .i64 sx)).set 3 (.int .i64 sy)).set 4 (.int .i64 st)).set 5 (.bool sf)
                  rw [← hX]
                  have hXS : S4 < X := by omega
                  clear hX
                  repeat (first | go_values | go_skip | go_guarded | go_step | go_upon)
                  go_meet
                  case rel => exact ⟨X, z ++ s2, _, rfl, W11, L11, hXS, by rw [ByteArray.size_append]; omega⟩
              case rest =>
                clear Wy LS p0 p1 p2 p3 pf0 pf1 pf2 pf3 hb7 hl7
                obtain ⟨X, nm, up, rfl, Wy, LX, hX4, hns⟩ := hcut
                repeat (go_not_at_region 12; first | go_values | go_skip | go_guarded | go_step | go_upon)
                go_cut [53] (fun t wx => ∃ y, t = .bool y ∧ SWay b (K + 62 + 60 * k) w wx (.slice ao l.length cap) l ∧ Loc wx X (nodeC (nm, up, sx, sy, st, sf)))
                case first =>
                  repeat (first | go_values | go_skip | go_guarded | go_step | go_upon)
                  go_at_call 64
                  refine (one_ok _ b (K + 60 + 60 * k) 80 Wy.cur (by omega) (by omega)).mono ?_
                  rintro e w12 ⟨y, rfl, hC, hg⟩
                  have LX := LX.but hg (by omega)
                  have Wy : SWay b (K + 62 + 60 * k) w w12 (.slice ao l.length cap) l := Wy.draw hT (hC.le (by omega)) hg
                  clear hC hg
                  dsimp only
                  repeat (first | go_values | go_skip | go_guarded | go_step | go_upon)
                  go_meet
                  case rel => exact ⟨y, rfl, Wy, LX⟩
                case rest =>
                  clear Wy LX
                  obtain ⟨y, rfl, Wy, LX⟩ := hcut
                  first | go_step | skip
                  go_cut [] (fun wx => ∃ nm : ByteArray, nm.size ≤ 4 ∧ SWay b (K + 64 + 60 * k) w wx (.slice ao l.length cap) l ∧ Loc wx X (nodeC (nm, up, sx, sy, st, sf)))
                  case first =>
                    cases y
                    · repeat (first | go_values | go_skip | go_guarded | go_step | go_upon)
                      go_meet
                      case rel => exact ⟨nm, hns, Wy.le (by omega), LX⟩
                    · repeat (first | go_values | go_skip | go_guarded | go_step | go_upon)
                      go_at_call 77
                      refine (of_ok _ b _ (K + 62 + 60 * k) [⟨#[]⟩, ⟨#[97, 48]⟩, ⟨#[98, 49]⟩] (Wy.kept ((But.refl _ _ _).alloc _)).cur (by omega) (by have := Wy.cur.lt; omega) (ListedT.of (Loc.new _ _ _)) (by simp) (by simp) 3 rfl).mono ?_
                      rintro e w13 ⟨z3, rfl, hz3, hC, hg⟩
                      have hz3 := three_size hz3
                      have LX := Loc.but (LX.alloc _) hg (by omega)
                      have Wy : SWay b (K + 64 + 60 * k) w w13 (.slice ao l.length cap) l := SWay.draw (Wy.kept ((But.refl _ _ _).alloc _)) hT (hC.le (by omega)) hg
                      clear hC hg
                      have x0 := LX.cell 0 rfl
                      have xf0 := LX.frozen 0
                      dsimp only
                      repeat (first | go_values | go_skip | go_guarded | go_step | go_upon)
                      have k14 : But X (X + 1) w13 (w13.setCell ⟨X, 0, none⟩ (.string z3)) := but_sets1 (But.refl _ _ _) 0 _
                      have WF := Wy.var hT (by omega) (fun g hg => Nat.lt_trans (hst g hg) hX4) k14
                      have LF := LX.set 0 (.string z3)
                      go_meet
                      case rel => exact ⟨z3, by omega, WF, LF⟩
                  case rest =>
                    clear Wy LX hns nm
                    obtain ⟨nm, hns, Wy, LX⟩ := hcut
                    repeat (go_not_at_region 14; first | go_values | go_skip | go_guarded | go_step | go_upon)
                    go_cut [59] (fun t wx => ∃ y, t = .bool y ∧ SWay b (K + 66 + 60 * k) w wx (.slice ao l.length cap) l ∧ Loc wx X (nodeC (nm, up, sx, sy, st, sf)))
                    case first =>
                      repeat (first | go_values | go_skip | go_guarded | go_step | go_upon)
                      go_at_call 64
                      refine (one_ok _ b (K + 64 + 60 * k) 80 Wy.cur (by omega) (by omega)).mono ?_
                      rintro e w12 ⟨y, rfl, hC, hg⟩
                      have LX := LX.but hg (by omega)
                      have Wy : SWay b (K + 66 + 60 * k) w w12 (.slice ao l.length cap) l := Wy.draw hT (hC.le (by omega)) hg
                      clear hC hg
                      dsimp only
                      repeat (first | go_values | go_skip | go_guarded | go_step | go_upon)
                      go_meet
                      case rel => exact ⟨y, rfl, Wy, LX⟩
                    case rest =>
                      clear Wy LX
                      obtain ⟨y, rfl, Wy, LX⟩ := hcut
                      first | go_step | skip
                      go_cut [] (fun wx => ∃ up : Int, SWay b (K + 68 + 60 * k) w wx (.slice ao l.length cap) l ∧ Loc wx X (nodeC (nm, up, sx, sy, st, sf)))
                      case first =>
                        cases y
                        · repeat (first | go_values | go_skip | go_guarded | go_step | go_upon)
                          go_meet
                          case rel => exact ⟨up, Wy.le (by omega), LX⟩
                        · repeat (first | go_values | go_skip | go_guarded | go_step | go_upon)
                          go_at_call 65
                          refine (among_ok _ b _ (K + 66 + 60 * k) [-2, (k : Int)] (Wy.kept ((But.refl _ _ _).alloc _)).cur (by omega) (by have := Wy.cur.lt; omega) (Listed.of (Loc.new _ _ _)) (by simp) (by simp) 2 rfl).mono ?_
                          rintro e w13 ⟨z3, rfl, hz3, hC, hg⟩
                          have LX := Loc.but (LX.alloc _) hg (by omega)
                          have Wy : SWay b (K + 68 + 60 * k) w w13 (.slice ao l.length cap) l := SWay.draw (Wy.kept ((But.refl _ _ _).alloc _)) hT (hC.le (by omega)) hg
                          clear hC hg hz3
                          have x1 := LX.cell 1 rfl
                          have xf1 := LX.frozen 1
                          dsimp only
                          repeat (first | go_values | go_skip | go_guarded | go_step | go_upon)
                          have k14 : But X (X + 1) w13 (w13.setCell ⟨X, 1, none⟩ (.int .i64 z3)) := but_sets1 (But.refl _ _ _) 1 _
                          have WF := Wy.var hT (by omega) (fun g hg => Nat.lt_trans (hst g hg) hX4) k14
                          have LF := LX.set 1 (.int .i64 z3)
                          go_meet
                          case rel => exact ⟨z3, WF, LF⟩
                      case rest =>
                        clear Wy LX up
                        obtain ⟨up, Wy, LX⟩ := hcut
                        have x0 := LX.cell 0 rfl
                        have x1 := LX.cell 1 rfl
                        have x2 := LX.cell 2 rfl
                        have x3 := LX.cell 3 rfl
                        have x4 := LX.cell 4 rfl
                        have x5 := LX.cell 5 rfl
                        repeat (first
                          | (at_builtin; refine forgetL (fun w' => w' = _) rfl ?_)
                          | go_values | go_skip | go_guarded | go_step | go_upon)
                        intro W7 hW7
                        subst hW7
                        have hlk := HLK.out
                        obtain ⟨i0, hi0, hz0, hz1, hz2⟩ := info_parts info36
                        have Wz := Wy.kept ((But.refl _ _ wc).alloc (.cells (nodeC (nm, up, sx, sy, st, sf)).toArray 36))
                        refine wpList_append_own _ rfl _ _ 29 rfl w.heap.size 36 i0 (.agg #[.string ByteArray.empty, .int .i64 0, .int .i64 0, .int .i64 0, .int .i64 0, .bool false]) 6 56 Try.underlying29 hi0 hz0 hz1 hz2 rfl (by decide) _ _ _ rfl Wz.row.1 ⟨_, 0, none⟩ 1 1 (nodeC (nm, up, sx, sy, st, sf)) rfl rfl (news_node _ _ _ (alloc_newS _ _ _ rfl)) (one_node _) (by unfold maxLen; omega) (by omega) (by have := Wz.but.size; exact this) ?_
                        intro v3 w3 hown hgrow _
                        obtain ⟨ao5, cap5, hf5, _⟩ := own_form hown
                        subst hf5
                        have WF := Wz.app hT hown hgrow hns
                        repeat (first | go_values | go_skip | go_guarded | go_step | go_upon)
                        refine ⟨⟨k + 1, ao5, cap5, l ++ [(nm, up, sx, sy, st, sf)], by simp [hlk], by go_num, by omega, by simp [hlk], ?_⟩, by simp [intOf]; omega⟩
                        have := WF.le (K' := K + 10 + 60 * ((k + 1 : Nat) : Int)) (by omega)
                        rw [List.length_append]
                        exact this
          
        · have dk : decide ((k : Int) < N) = false := by simp; omega
          repeat (first | go_values | go_skip | go_guarded | go_step | go_upon)
          go_ret
          exact ⟨_, l, rfl, Wy.le (by omega), by omega⟩
end Go.Proofs.Ytcljppnakmeldaa
