/-
  The spot of its own with which a node stands where it does, hung elsewhere.
-/
import Derived.Test.YtcljppnakmeldaaSpotOf
namespace Go.Proofs.Ytcljppnakmeldaa
open Go.ChangeShapes Go.WideShapes Go.ChangeAt Go.RowKit

def seenA (g s : Option SpotD) : SpotD × Bool := match g, s with
  | some g, some s => joinA (backM g) s
  | _, _ => (s0, false)
theorem standA_form (o : Option SpotD) : standA o = .tuple #[.agg #[.int .i64 (o.getD s0).1, .int .i64 (o.getD s0).2.1, .int .i64 (o.getD s0).2.2.1, .bool (o.getD s0).2.2.2], .bool o.isSome] := by
  cases o <;> rfl

set_option maxRecDepth 100000 in
set_option maxHeartbeats 8000000 in
theorem seenFrom (l : List NodeD) (v : Value) (a u : Int) (xs ys : List UpE) (hch : Chain l a xs) (hcu : Chain l u ys) (w : World) (hv : NodeAt w v l) (hlen : xs.length ≤ 1048576) (hlen' : ys.length ≤ 1048576) :
    Calls Try.prog 47 #[v, .int .i64 a, .int .i64 u] w fun e w' => e = .returned (.tuple #[sv (seenA (standM s0 (rows ys).reverse) (standM s0 (rows xs).reverse)).1, .bool (seenA (standM s0 (rows ys).reverse) (standM s0 (rows xs).reverse)).2]) ∧ Kept w w' := by
  obtain ⟨ao, cap, hsl⟩ := row_nil hv
  subst hsl
  have hi := fun (W : World) (h : NodeAt W (.slice ao l.length cap) l) => standing l _ a xs hch W h hlen
  have hu := fun (W : World) (h : NodeAt W (.slice ao l.length cap) l) => standing l _ u ys hcu W h hlen'
  have hgg : ∀ g, standM s0 (rows ys).reverse = some g → GoodS g := fun g h => standM_good _ _ _ (by decide) h
  generalize standM s0 (rows ys).reverse = og at *
  generalize standM s0 (rows xs).reverse = os at *
  simp only [standA_form] at hi hu
  have HI : Hid _ := hi
  have HU : Hid _ := hu
  clear hi hu
  obtain ⟨⟨gx, gy, gt, gf⟩, hgD⟩ : ∃ g, og.getD s0 = g := ⟨_, rfl⟩
  obtain ⟨⟨sx, sy, st, sf⟩, hsD⟩ : ∃ g, os.getD s0 = g := ⟨_, rfl⟩
  have hG : GoodS (gx, gy, gt, gf) := by
    rw [← hgD]
    cases og with
    | none => decide
    | some g => exact hgg g rfl
  obtain ⟨⟨bx, bY, bt, bf⟩, hbD⟩ : ∃ g, backM (gx, gy, gt, gf) = g := ⟨_, rfl⟩
  have hBA : backA (gx, gy, gt, gf) = ((bx, bY, bt, bf), true) := by rw [← hbD]; exact if_pos hG
  have hBk : ∀ W, Calls Try.prog 13 #[.agg #[.int .i64 gx, .int .i64 gy, .int .i64 gt, .bool gf]] W fun e w' => e = .returned (.tuple #[.agg #[.int .i64 bx, .int .i64 bY, .int .i64 bt, .bool bf], .bool true]) ∧ Kept W w' := fun W => by
    have := implBack (gx, gy, gt, gf) W
    rw [hBA] at this
    exact this
  obtain ⟨⟨⟨jx, jy, jt, jf⟩, jb⟩, hJ⟩ : ∃ j, joinA (bx, bY, bt, bf) (sx, sy, st, sf) = j := ⟨_, rfl⟩
  have HJ : Hid (joinA (bx, bY, bt, bf) (sx, sy, st, sf) = ((jx, jy, jt, jf), jb)) := hJ
  have HD : Hid (og.getD s0 = (gx, gy, gt, gf) ∧ os.getD s0 = (sx, sy, st, sf) ∧ backM (gx, gy, gt, gf) = (bx, bY, bt, bf)) := ⟨hgD, hsD, hbD⟩
  have HBk : Hid _ := hBk
  clear hgD hsD hbD hBA hBk hJ hgg hG hch hcu
  go_enter Try.func47, Try.ntmps47
  repeat (first | go_values | go_skip | go_guarded | go_step | go_upon)
  go_at_call 51
  refine (HU.out _ (hv.kept ((But.refl _ _ _).alloc _))).mono ?_
  rintro e w1 ⟨rfl, k1⟩
  have K1 : Kept w w1 := ((But.refl _ _ w).alloc _).trans k1
  have Lr := (Loc.new w [.int .i64 0, .int .i64 0, .int .i64 0, .bool false] 24).kept k1
  rw [HD.out.1]
  dsimp only
  repeat (first | go_values | go_skip | go_guarded | go_step | go_upon)
  go_at_call 51
  refine (HI.out _ (hv.kept (K1.alloc _))).mono ?_
  rintro e w2 ⟨rfl, k2⟩
  have K2 : Kept w w2 := (K1.alloc _).trans k2
  have Lr := (Lr.alloc _).kept k2
  have Lg := (Loc.new w1 [.int .i64 gx, .int .i64 gy, .int .i64 gt, .bool gf] 24).kept k2
  rw [HD.out.2.1]
  have g0 := Lg.cell 0 rfl
  have g1 := Lg.cell 1 rfl
  have g2 := Lg.cell 2 rfl
  have g3 := Lg.cell 3 rfl
  have hgl := Lg.lt
  have hrl := Lr.lt
  clear k1 k2 K1
  dsimp only
  repeat (first | go_values | go_skip | go_guarded | go_step | go_upon)
  go_at_call 13
  refine (HBk.out _).mono ?_
  rintro e w3 ⟨rfl, k3⟩
  have K3 : Kept w w3 := (K2.alloc _).trans k3
  have Lr := (Lr.alloc _).kept k3
  have Ls := (Loc.new w2 [.int .i64 sx, .int .i64 sy, .int .i64 st, .bool sf] 24).kept k3
  clear g0 g1 g2 g3 hgl hrl Lg k3 K2
  have a0 := Ls.cell 0 rfl
  have a1 := Ls.cell 1 rfl
  have a2 := Ls.cell 2 rfl
  have a3 := Ls.cell 3 rfl
  have p0 := Lr.cell 0 rfl
  have p1 := Lr.cell 1 rfl
  have p2 := Lr.cell 2 rfl
  have p3 := Lr.cell 3 rfl
  have z0 := Lr.frozen 0
  have z1 := Lr.frozen 1
  have z2 := Lr.frozen 2
  have z3 := Lr.frozen 3
  have hsl := Ls.lt
  have hrl := Lr.lt
  have HK : Hid (Kept w w3) := K3
  have HL : Hid (Loc w3 w.heap.size [.int .i64 0, .int .i64 0, .int .i64 0, .bool false]) := Lr
  clear K3 Lr Ls
  dsimp only
  by_cases hok : og.isSome = true ∧ os.isSome = true
  · obtain ⟨hg1, hs1⟩ := hok
    rw [hg1, hs1]
    repeat (first | (go_at_call 15; refine (implJoinX _ _ _ _ _ _ _ _ _ HJ.out _).mono ?_; rintro e w4 ⟨rfl, k4⟩; have Lr := (Loc.alloc HL.out _).kept k4; have p0 := Lr.cell 0 rfl; have p1 := Lr.cell 1 rfl; have p2 := Lr.cell 2 rfl; have p3 := Lr.cell 3 rfl; have z0 := Lr.frozen 0; have z1 := Lr.frozen 1; have z2 := Lr.frozen 2; have z3 := Lr.frozen 3; dsimp only [sv]) | go_values | go_skip | go_guarded | go_step | go_upon)
    refine bodyPost_ret (v := .tuple #[sv (jx, jy, jt, jf), .bool jb]) (by simp [results, Try.results47, go_sem, *]) rfl ?_
    obtain ⟨h1, h2, h3⟩ := HD.out
    obtain ⟨g, rfl⟩ := Option.isSome_iff_exists.1 hg1
    obtain ⟨s, rfl⟩ := Option.isSome_iff_exists.1 hs1
    simp only [Option.getD_some] at h1 h2
    subst h1 h2
    refine ⟨?_, ?_⟩
    · simp only [seenA, h3, HJ.out]
    · have kk := (HK.out.alloc (.cells #[.int .i64 bx, .int .i64 bY, .int .i64 bt, .bool bf] 24)).trans k4
      (repeat (first | with_reducible exact kk | (with_reducible refine But.setNew ?_ (by simp) _)))
  · have hse : seenA og os = (s0, false) := by
      cases og <;> cases os <;> simp_all [seenA]
    have HSE : Hid _ := hse
    clear hse
    have hno : (!og.isSome || !os.isSome) = true := by
      cases og <;> cases os <;> simp_all
    cases hg1 : og.isSome with
    | false =>
      repeat (first | go_values | go_skip | go_guarded | go_step | go_upon)
      refine bodyPost_ret (v := .tuple #[sv s0, .bool false]) (by simp [results, Try.results47, go_sem, s0, *]) rfl ?_
      refine ⟨by rw [HSE.out], ?_⟩
      have kk := HK.out
      (repeat (first | with_reducible exact kk | with_reducible apply But.alloc | (with_reducible refine But.setNew ?_ (by simp) _)))
    | true =>
      have hs1 : os.isSome = false := by rw [hg1] at hno; simpa using hno
      rw [hs1]
      clear hno hok
      repeat (first | go_values | go_skip | go_guarded | go_step | go_upon)
      refine bodyPost_ret (v := .tuple #[sv s0, .bool false]) (by simp [results, Try.results47, go_sem, s0, *]) rfl ?_
      refine ⟨by rw [HSE.out], ?_⟩
      have kk := HK.out
      (repeat (first | with_reducible exact kk | with_reducible apply But.alloc | (with_reducible refine But.setNew ?_ (by simp) _)))
end Go.Proofs.Ytcljppnakmeldaa
